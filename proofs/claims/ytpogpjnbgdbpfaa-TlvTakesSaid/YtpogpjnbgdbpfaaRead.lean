/- The walk of OctetsRead: which numbers any octets are. -/
import Derived.Test.YtpogpjnbgdbpfaaKept
import Derived.Test.YtpogpjnbgdbpfaaTakeSRef
import Derived.Test.YtpogpjnbgdbpfaaTakeGRef
import Derived.Carry
namespace Go.Proofs.Ytpogpjnbgdbpfaa
open Go.ChangeShapes Go.WideShapes Go.ChangeAt Go.RowKit

theorem cell_lt {w : World} {a : Addr} {v : Value} (h : w.cell? a = some v) : a.block < w.heap.size := by
  rcases Nat.lt_or_ge a.block w.heap.size with h1 | h1
  · exact h1
  · have hn : w.heap[a.block]? = none := Array.getElem?_eq_none h1
    simp [World.cell?, hn] at h
/-- An argument that is a slice of bytes, opened. -/
theorem open_bytes {H : Type} {enc : TypeId × Value → H} {W : World} {b0 : Nat} {v : Value} {d : DataW H} {p : List MemPlace}
    (hv : Value.okWide Try.prog W .any b0 24 v) (h : DataW.Trod enc Try.prog W 0 (fun _ => true) true 24 v d p) :
    ∃ (A : Option Addr) (xs : List Int) (c : Nat), v = .slice A xs.length c ∧ Holds W A xs ∧ Bytes8 xs ∧ xs.length ≤ maxLen ∧ xs.length ≤ c := by
  have lt : ∀ x ∈ p, x.block < W.heap.size := by obtain ⟨m, hm⟩ := h; exact DataW.trod_lt m _ _ _ hm
  obtain ⟨a, n, c, rfl⟩ := okWide_slice Try.underlying24 hv
  obtain ⟨fuel, hf⟩ := h
  rcases open_ints Try.underlying24 Try.underlying5 (by kernel_rfl) hf with ⟨hcs, _⟩ | ⟨x, l, cc, zs, hcs, _, hl, hm, hz, hx, hcell, hwz⟩
  · simp [Value.cells] at hcs
    obtain ⟨rfl, rfl, rfl⟩ := hcs
    exact ⟨none, [], 0, rfl, Holds.nil _, (fun _ h => absurd h (by simp)), by simp, by simp⟩
  · simp [Value.cells] at hcs
    obtain ⟨rfl, rfl, rfl⟩ := hcs
    have hzl : zs.length = c := by simpa using hz
    have hlen : (zs.take n).length = n := by simp; omega
    refine ⟨some x, zs.take n, c, by rw [hlen], ?_, ?_, by omega, by omega⟩
    · refine ⟨by simp, fun hn => ⟨x, rfl, ?_, fun j u hu => ?_⟩⟩
      · rw [hlen] at hn
        have hc0 := hcell 0 (by omega)
        have hlt := cell_lt hc0
        rwa [block_of_add] at hlt
      · have hj : j < n := by
          rcases Nat.lt_or_ge j n with h1 | h1
          · exact h1
          · rw [List.getElem?_eq_none (by rw [List.length_map, hlen]; exact h1)] at hu; cases hu
        rw [hcell j (by omega)]
        rw [List.getElem?_map, List.getElem?_take_of_lt hj] at hu
        rw [List.getElem?_eq_getElem (by omega)] at hu
        simp at hu
        have hjl : j < zs.length := by omega
        simp [← hu, hjl]
    · intro y hy
      exact bounds_u8 (hwz y (List.mem_of_mem_take hy))

set_option maxHeartbeats 4000000 in
theorem read_any (A : Option Addr) (xs : List Int) (c : Nat) (w : World) (hh : Holds w A xs) (hx : Bytes8 xs) (hl : xs.length ≤ maxLen) (hc : xs.length ≤ c) :
    Calls Try.prog 4 #[.slice A xs.length c] w fun e w' => e = .returned (.bool true) ∧ Keeps w w' := by
  have hl2 : xs.length ≤ 9223372036854775807 := by unfold maxLen at hl; exact hl
  by_cases hbig : 3000 < xs.length
  · clear hl
    go_enter Try.func4, Try.ntmps4
    go_wp2_with fail
    refine (awake02_any _).mono ?_
    rintro e w1 ⟨rfl, hk⟩
    go_wp2
    go_ret
    exact ⟨rfl, hk⟩
  · have HL := hide hl
    clear hl
    go_enter Try.func4, Try.ntmps4
    go_wp2_with fail
    refine (own_any A xs c 71 (by omega) w hh).mono ?_
    rintro e w1 ⟨g, rfl, hb, hg, hk⟩
    replace hh := hh.keeps hk
    go_wp2_with fail
    refine (takeSigned_any _ xs _ hx (unhide HL) (by omega) _ (ownCells_holds hb)).mono ?_
    rintro e w2 ⟨rfl, hk2⟩
    replace hh := hh.keeps hk2
    replace hb := hb.keeps hk2
    replace hk := hk.trans hk2
    clear hk2
    go_wp2_with fail
    refine (refTakeSigned_any _ xs _ hx (unhide HL) (by omega) _ hh).mono ?_
    rintro e w2 ⟨rfl, hk2⟩
    replace hh := hh.keeps hk2
    replace hb := hb.keeps hk2
    replace hk := hk.trans hk2
    clear hk2
    go_wp2_with fail
    refine (takeUnsigned_any _ xs _ hx (unhide HL) _ (ownCells_holds hb)).mono ?_
    rintro e w2 ⟨rfl, hk2⟩
    replace hh := hh.keeps hk2
    replace hb := hb.keeps hk2
    replace hk := hk.trans hk2
    clear hk2
    go_wp2_with fail
    refine (refTakeUnsigned_any _ xs _ hx (unhide HL) _ hh).mono ?_
    rintro e w2 ⟨rfl, hk2⟩
    replace hh := hh.keeps hk2
    replace hb := hb.keeps hk2
    replace hk := hk.trans hk2
    clear hk2
    go_wp2_with fail
    refine (takeGroups_any _ xs _ hx (unhide HL) _ (ownCells_holds hb)).mono ?_
    rintro e w2 ⟨rfl, rfl⟩
    go_wp2_with fail
    refine (refTakeGroups_any _ xs _ hx (unhide HL) _ hh).mono ?_
    rintro e w2 ⟨rfl, rfl⟩
    go_wp2_with fail
    refine (awake02_any _).mono ?_
    rintro e w2 ⟨rfl, hk2⟩
    replace hh := hh.keeps hk2
    replace hb := hb.keeps hk2
    replace hk := hk.trans hk2
    clear hk2
    go_wp2_with fail
    refine (kept_any g A xs c 71 (by omega) _ hb hh).mono ?_
    rintro e w2 ⟨rfl, hk2⟩
    replace hk := hk.trans hk2
    clear hk2
    go_wp2
    go_ret
    exact ⟨rfl, hk⟩

end Go.Proofs.Ytpogpjnbgdbpfaa
