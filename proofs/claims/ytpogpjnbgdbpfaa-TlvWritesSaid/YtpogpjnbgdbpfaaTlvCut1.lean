/- The walk of TlvCut. -/
import Derived.Test.YtpogpjnbgdbpfaaTlvCutNum
import Derived.Lib.SmallJoins
namespace Go.Proofs.Ytpogpjnbgdbpfaa
open Go.ChangeShapes Go.WideShapes Go.ChangeAt Go.RowKit

theorem cut_off (c : Int) (n : Nat) (h : 2 ≤ n) : ∃ k : Nat, IntKind.u64.wrap c % (n : Int) = k ∧ k < n := by
  have h0 := Int.emod_nonneg (IntKind.u64.wrap c) (show (n : Int) ≠ 0 by omega)
  have h1 := Int.emod_lt_of_pos (IntKind.u64.wrap c) (show (0 : Int) < n by omega)
  exact ⟨(IntKind.u64.wrap c % (n : Int)).toNat, by omega, by omega⟩

theorem elem_single (w : World) (A : Option Addr) (xs : List Int) (c n g : Nat) (cls num : Int) (made : Bool) (hn1 : num ≤ 9223372036854775807) (hg : w.heap.size = g) (hn : xs.length = n) (hl : n ≤ 1000000) (hh : Holds w A xs) (hx : B8 xs) :
    Calls Try.prog 41 #[tagV cls num, .bool made, .slice (some ⟨g, 0, none⟩) 1 1] (w.alloc (.cells #[.slice A n c] 24)) (GivesH (eOct cls num made xs) w) := by
  subst hg; subst hn
  have hP := parts_single A xs c hh hx
  refine (element_any _ 1 1 [(A, c, xs)] cls num made hn1 _ rfl (Nat.le_refl _) hP (by rw [flat1]; exact hl) (by omega)).mono ?_
  rw [flat1]
  rintro e w' ⟨B, d, rfl, h1, h2, h3⟩
  exact ⟨B, d, rfl, h1, h2, ((Keeps.refl w).alloc _).trans h3⟩

set_option maxHeartbeats 1000000 in
theorem cut_any (cls num cut : Int) (made : Bool) (A : Option Addr) (xs : List Int) (c : Nat) (hx : B8 xs) (hl : xs.length ≤ maxLen) (hn1 : num ≤ 9223372036854775807) (w : World) (hh : Holds w A xs) :
    Calls Try.prog 13 #[tagV cls num, .bool made, .slice A xs.length c, .int .i64 cut] w fun e w' => e = .returned (.bool true) ∧ Keeps w w' := by
  unfold maxLen at hl
  by_cases hbad : 1000 < xs.length ∨ num < 0 ∨ 268435456 < num
  · clear hh hx
    generalize xs.length = n at *
    rcases hbad with hb | hb | hb
    all_goals
      go_enter Try.func13, Try.ntmps13
      go_wp2_with fail
      all_goals first
        | (exfalso; omega)
        | (refine (awake03_any _).mono ?_
           rintro e w1 ⟨rfl, hk1⟩
           have HK1 := hide (((Keeps.refl w).alloc _).trans hk1)
           clear hk1
           go_wp2
           go_ret
           exact ⟨rfl, unhide HK1⟩)
  · have h1 : xs.length ≤ 1000 := by omega
    have h2 : 0 ≤ num := by omega
    have h3 : num ≤ 268435456 := by omega
    clear hbad
    have hel := eOct_len cls num made xs
    have HEB := hide (eOct_bytes cls num made xs hx)
    obtain ⟨hel1, hel2, _⟩ := hel
    have hcut := takeF_cut cls num made xs h2 h3 (by omega)
    have HCUT := hide hcut
    clear hcut
    have HH := hide hh
    have HX := hide hx
    clear hh hx
    have HL := hide h1
    generalize hln : xs.length = n at *
    have HLN := hide hln
    clear hln
    go_enter Try.func13, Try.ntmps13
    go_wp2_with fail
    refine (elem_single _ A xs c n _ cls num made hn1 (size_alloc1 _ _) (unhide HLN) (by omega) ((unhide HH).keeps ((Keeps.refl w).alloc _)) (unhide HX)).mono ?_
    rintro e w1 ⟨B, d, rfl, hd, hhB, hk1⟩
    have HK1 := hide (((Keeps.refl w).alloc _).trans hk1)
    have HB := hide hhB
    clear hk1 hhB
    generalize heln : (eOct cls num made xs).length = m at *
    have HEL := hide heln
    clear heln
    obtain ⟨k, hk, hkm⟩ := cut_off cut m hel1
    obtain ⟨hw0, hw1⟩ := wrap_range cut
    have hkl : ((eOct cls num made xs).take k).length = k := by rw [List.length_take, unhide HEL]; omega
    have htk : ∀ w', Holds w' B (eOct cls num made xs) → Calls Try.prog 45 #[.slice B k d] w' (GivesT5 ((0, 0), false, [], 0, 3) w') := fun w' h => by
      have := take_any B ((eOct cls num made xs).take k) d (fun x h => (unhide HEB) x (List.mem_of_mem_take h)) (by rw [hkl]; unfold maxLen; omega) (by rw [hkl]; omega) w' (h.upto k)
      rwa [unhide HCUT k (by omega), hkl] at this
    have HTK := hide htk
    clear htk hkl
    have hkt : ((k : Nat) : Int).toNat = k := by omega
    go_wp2_with fail
    refine (awake03_any _).mono ?_
    rintro e w2 ⟨rfl, hk2⟩
    have HK2 := hide ((unhide HK1).trans hk2)
    have HB2 := hide ((unhide HB).keeps hk2)
    clear hk2
    go_wp2_with fail
    with_reducible refine ((unhide HTK) w2 (unhide HB2)).mono ?_
    rintro e w3 ⟨C, f, rfl, _, _, _, hk3⟩
    have HK3 := hide ((unhide HK2).trans hk3)
    clear hk3
    simp only [List.length_nil]
    go_wp2
    go_ret
    exact ⟨rfl, (unhide HK3).alloc _⟩
theorem open_tagB {H : Type} {enc : TypeId × Value → H} {W : World} {b0 : Nat} {v : Value} {d : DataW H} {p : List MemPlace}
    (hv : Value.okWide Try.prog W .any b0 52 v) (h : DataW.Trod enc Try.prog W 0 (fun _ => true) true 52 v d p) :
    ∃ a1 a2 : Int, v = .agg #[.int .i64 a1, .int .i64 a2] ∧ -9223372036854775808 ≤ a2 ∧ a2 ≤ 9223372036854775807 := by
  obtain ⟨v0, v1, y0, y1, n, rfl, _, _, t0, t1⟩ := Joins.open_agg2 Try.underlying52 (by kernel_rfl) (by kernel_rfl) hv h
  obtain ⟨n0, e0, _⟩ := DataW.trod_int Try.underlying3 t0
  obtain ⟨n1, e1, _, hw⟩ := DataW.trod_int Try.underlying3 t1
  simp only [List.cons.injEq, and_true] at e0 e1
  subst e0 e1
  exact ⟨n0, n1, rfl, bounds_i64 hw⟩
end Go.Proofs.Ytpogpjnbgdbpfaa
