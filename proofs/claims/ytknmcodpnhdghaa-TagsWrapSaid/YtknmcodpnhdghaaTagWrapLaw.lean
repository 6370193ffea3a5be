/- The walk of TagsWrap. -/
import Derived.Test.YtknmcodpnhdghaaTagKept
import Derived.Deep.QuietTactic
import Derived.BigQuiet
namespace Go.Proofs.Ytknmcodpnhdghaa
open Go.ChangeShapes Go.WideShapes Go.ChangeAt Go.RowKit

set_option maxHeartbeats 2000000 in
theorem plainT_any (A B : Option Addr) (xs : List (Int × Int)) (c d : Nat) (w : World) (ha : HoldsT w A xs) (hb : HoldsT w B xs) (hl : xs.length ≤ 1000000) :
    Calls Try.prog 60 #[.slice A xs.length c, .slice B xs.length d] w fun e w' => e = .returned (.bool true) ∧ Keeps w w' := by
  go_enter Try.func60, Try.ntmps60
  go_wp2_with fail
  refine (sameT_inner A B xs c d w ha hb hl).mono ?_
  rintro e w1 ⟨rfl, hk⟩
  go_wp2
  go_ret
  exact ⟨rfl, hk⟩

theorem holdsT_of_own {w : World} {base : Nat} {A : Option Addr} {c : Nat} {ts : List (Int × Int)} (h : w.ownsRow base 71 2 (.slice A ts.length c) ts.length (TagL ts)) : HoldsT w A ts := by
  rcases h.2 with ⟨e, hn⟩ | ⟨g, cap, cur, e, _, _, _, _⟩
  · injection e with e1 e2 e3
    have : ts = [] := List.eq_nil_of_length_eq_zero hn
    subst this
    exact HoldsT.empty _ _
  · exact Reads.of_own h
theorem ownCellsT_holds {w : World} {g : Nat} {xs : List (Int × Int)} {f1 f2 : Int} (h : Blk w g 71 (OwnCellsT xs f1 f2)) : HoldsT w (some ⟨g, 0, none⟩) xs := by
  refine ⟨by rw [tagL_length], fun _ => ⟨_, rfl, h.lt, fun j u hu => ?_⟩⟩
  have hj : j < (TagL xs).length := by
    rcases Nat.lt_or_ge j (TagL xs).length with h1 | h1
    · exact h1
    · rw [List.getElem?_eq_none h1] at hu; cases hu
  rw [show ((⟨g, 0, none⟩ : Addr).add j) = ⟨g, j, none⟩ from by unfold Addr.add; split <;> simp_all, h.cell]
  simp only [OwnCellsT, List.getElem?_toArray]
  rw [List.getElem?_append_left hj]
  exact hu
theorem ownCellsT_at {w : World} {g : Nat} {xs : List (Int × Int)} {f1 f2 : Int} (h : Blk w g 71 (OwnCellsT xs f1 f2)) (k : Nat) (hk : k < 3) :
    w.cell? ⟨g, (xs.length + k) * 2, none⟩ = some (.int .i64 f1) ∧ w.cell? ⟨g, (xs.length + k) * 2 + 1, none⟩ = some (.int .i64 f2) := by
  rw [h.cell, h.cell]
  simp only [OwnCellsT, List.getElem?_toArray]
  rw [List.getElem?_append_right (by rw [tagL_length]; omega), List.getElem?_append_right (by rw [tagL_length]; omega), tagL_length]
  have h3 : k = 0 ∨ k = 1 ∨ k = 2 := by omega
  rcases h3 with rfl | rfl | rfl
  · rw [show (xs.length + 0) * 2 - xs.length * 2 = 0 from by omega, show (xs.length + 0) * 2 + 1 - xs.length * 2 = 1 from by omega]; simp [Fill3, TagL, tagCells, List.replicate]
  · rw [show (xs.length + 1) * 2 - xs.length * 2 = 2 from by omega, show (xs.length + 1) * 2 + 1 - xs.length * 2 = 3 from by omega]; simp [Fill3, TagL, tagCells, List.replicate]
  · rw [show (xs.length + 2) * 2 - xs.length * 2 = 4 from by omega, show (xs.length + 2) * 2 + 1 - xs.length * 2 = 5 from by omega]; simp [Fill3, TagL, tagCells, List.replicate]

set_option maxRecDepth 100000 in
set_option maxHeartbeats 4000000 in
theorem keptT_any (g : Nat) (A : Option Addr) (xs : List (Int × Int)) (c : Nat) (f1 f2 : Int) (hl : xs.length ≤ 10000) (w : World) (hb : Blk w g 71 (OwnCellsT xs f1 f2)) (hh : HoldsT w A xs) :
    Calls Try.prog 61 #[.slice (some ⟨g, 0, none⟩) xs.length (xs.length + 3), .slice A xs.length c, .agg #[.int .i64 f1, .int .i64 f2]] w fun e w' => e = .returned (.bool true) ∧ Keeps w w' := by
  have HS : Hid (∀ w, HoldsT w (some ⟨g, 0, none⟩) xs → HoldsT w A xs → Calls Try.prog 60 #[.slice (some ⟨g, 0, none⟩) xs.length (xs.length + 3), .slice A xs.length c] w fun e w' => e = .returned (.bool true) ∧ Keeps w w') :=
    fun w h1 h2 => plainT_any _ _ xs (xs.length + 3) c w h1 h2 (by omega)
  have hk0 : Keeps w (w.alloc (.cells #[.int .i64 f1, .int .i64 f2] 71)) := (Keeps.refl _).alloc _
  have HB := hide (hb.keeps hk0)
  have HH := hide (hh.keeps hk0)
  have HF := hide (Blk.new w 71 #[.int .i64 f1, .int .i64 f2])
  have HK := hide hk0
  clear hb hh hk0
  generalize hn : xs.length = n at *
  have HN := hide hn
  clear hn
  go_enter Try.func61, Try.ntmps61
  go_wp2_with fail
  refine (unhide HS _ (ownCellsT_holds (unhide HB)) (unhide HH)).mono ?_
  rintro e w1 ⟨rfl, hk⟩
  have HB1 := hide ((unhide HB).keeps hk)
  have HF1 := hide ((unhide HF).keeps hk)
  have HK1 := hide ((unhide HK).trans hk)
  clear hk
  go_wp2
  go_loopw [8] (fun i wr => ∃ k : Nat, k ≤ 3 ∧ i = .int .i64 ((n + k : Nat) : Int) ∧ Keeps w1 wr) (fun i _ => n + 4 - (intOf i).toNat)
  case atStart => exact ⟨0, by omega, rfl, Keeps.refl _⟩
  case round =>
    obtain ⟨k, hk3, rfl, hkw⟩ := hrel
    by_cases hlt : k < 3
    · obtain ⟨q1, q2⟩ := ownCellsT_at ((unhide HB1).keeps hkw) k hlt
      obtain ⟨q3, q4, q5⟩ := ((unhide HF1).keeps hkw).facts
      rw [unhide HN] at q1 q2
      go_wp2
      go_quiet (fail)
      go_wp2
      exact ⟨⟨k + 1, by omega, congrArg (Value.int IntKind.i64) (by omega), hkw.drewN _⟩, by simp [intOf]; omega⟩
    · obtain rfl : k = 3 := by omega
      go_wp2
      go_ret
      exact ⟨rfl, (unhide HK1).trans hkw⟩

end Go.Proofs.Ytknmcodpnhdghaa
