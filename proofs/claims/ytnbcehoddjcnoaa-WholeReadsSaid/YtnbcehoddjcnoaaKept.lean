/- The contracts of Same, Plain and Kept at bytes: is the copy, and the room behind it, as it was? -/
import Derived.Test.YtnbcehoddjcnoaaOwn
namespace Go.Proofs.Ytnbcehoddjcnoaa
open Go.ChangeShapes Go.WideShapes Go.ChangeAt Go.RowKit
set_option linter.unusedVariables false

set_option maxHeartbeats 400000 in
theorem alike_any (x y : Int) (w : World) : Calls Try.prog 75 #[.int .u8 x, .int .u8 y] w fun e w' => e = .returned (.bool (x == y)) ∧ w' = w := by
  go_enter Try.func75, Try.ntmps75
  go_wp2
  go_ret
  exact ⟨rfl, rfl⟩

theorem take_next {xs ys : List Int} {k : Nat} (hx : k < xs.length) (hy : k < ys.length) (h : xs.take k = ys.take k) : xs.take (k + 1) = ys.take (k + 1) ↔ xs.getD k 0 = ys.getD k 0 := by
  rw [List.take_succ_eq_append_getElem hx, List.take_succ_eq_append_getElem hy, h]
  rw [List.append_right_inj]
  simp [hx, hy]

set_option maxHeartbeats 2000000 in
theorem sameInner_any (A B : Option Addr) (xs ys : List Int) (c d : Nat) (w : World) (ha : Holds w A xs) (hb : Holds w B ys) (hlx : xs.length ≤ 1000000) (hly : ys.length ≤ 1000000) :
    Calls Try.prog 74 #[.slice A xs.length c, .slice B ys.length d, .func (Fn.func 75) #[] #[]] w fun e w' => e = .returned (.bool (decide (xs = ys))) ∧ Keeps w w' := by
  by_cases hne : xs.length = ys.length
  · have HA := hide ha
    have HB := hide hb
    clear ha hb
    rw [← hne]
    generalize hn : xs.length = n at *
    have HN := hide hn
    have HM := hide hne
    clear hn hne
    go_enter Try.func74, Try.ntmps74
    go_wp2
    go_loopw [7] (fun i wr => ∃ k : Nat, k ≤ n ∧ i = .int .i64 k ∧ xs.take k = ys.take k ∧ Keeps w wr) (fun i _ => n - (intOf i).toNat)
    case atStart => exact ⟨0, by omega, rfl, rfl, Keeps.refl _⟩
    case round =>
      obtain ⟨k, hk, rfl, ht, hkk⟩ := hrel
      have HT := hide ht
      clear ht
      by_cases hlt : k < n
      · have hkx : k < xs.length := by rw [unhide HN]; exact hlt
        have hky : k < ys.length := by rw [← unhide HM]; exact hlt
        obtain ⟨b, o, rfl, hc1⟩ := ((unhide HA).keeps hkk).at_ hkx
        obtain ⟨b2, o2, rfl, hc2⟩ := ((unhide HB).keeps hkk).at_ hky
        have hnext := take_next hkx hky (unhide HT)
        have HX := hide hnext
        clear hnext hkx hky
        generalize xs.getD k 0 = x at *
        generalize ys.getD k 0 = y at *
        by_cases hxy : x = y
        · have e1 : (x == y) = true := beq_iff_eq.2 hxy
          have HXY := hide hxy
          clear hxy
          go_wp2
          go_quiet ((go_at_call 75; exact Calls.quiet_of_same (alike_any _ _ _)))
          go_wp2
          exact ⟨⟨k + 1, by omega, by go_num, (unhide HX).2 (unhide HXY), hkk.drewN _⟩, by simp [intOf]; omega⟩
        · have e1 : (x == y) = false := beq_eq_false_iff_ne.2 hxy
          have HXY := hide hxy
          clear hxy
          go_wp2
          go_quiet ((go_at_call 75; exact Calls.quiet_of_same (alike_any _ _ _)))
          go_wp2
          go_ret
          exact ⟨ret_bool (decide_eq_false (fun e => unhide HXY ((unhide HX).1 (by rw [e])))).symm, hkk.drewN _⟩
      · obtain rfl : k = n := by omega
        go_wp2
        go_ret
        have hxy : xs = ys := by
          have := unhide HT
          rwa [List.take_of_length_le (by rw [unhide HN]; exact Nat.le_refl _), List.take_of_length_le (by rw [← unhide HM]; exact Nat.le_refl _)] at this
        exact ⟨ret_bool (by rw [decide_eq_true hxy]), hkk⟩
  · have e1 : ((xs.length : Int) != (ys.length : Int)) = true := by rw [bne_iff_ne]; omega
    have e2 : ((xs.length : Int) == (ys.length : Int)) = false := by rw [beq_eq_false_iff_ne]; omega
    have HD : Hid (decide (xs = ys) = false) := decide_eq_false (fun e => hne (by rw [e]))
    clear hne ha hb
    go_enter Try.func74, Try.ntmps74
    go_wp2
    go_ret
    exact ⟨ret_bool (unhide HD).symm, Keeps.refl _⟩

set_option maxHeartbeats 2000000 in
theorem same_any (A B : Option Addr) (xs ys : List Int) (c d : Nat) (w : World) (ha : Holds w A xs) (hb : Holds w B ys) (hlx : xs.length ≤ 1000000) (hly : ys.length ≤ 1000000) :
    Calls Try.prog 46 #[.slice A xs.length c, .slice B ys.length d] w fun e w' => e = .returned (.bool (decide (xs = ys))) ∧ Keeps w w' := by
  go_enter Try.func46, Try.ntmps46
  go_wp2_with fail
  refine (sameInner_any A B xs ys c d w ha hb hlx hly).mono ?_
  rintro e w1 ⟨rfl, hk⟩
  go_wp2
  go_ret
  exact ⟨rfl, hk⟩

theorem ownCells_at {w : World} {g : Nat} {xs : List Int} {f : Int} (h : Blk w g 5 (OwnCells xs f)) (k : Nat) (hk : k < 3) : w.cell? ⟨g, xs.length + k, none⟩ = some (.int .u8 f) := by
  rw [h.cell]
  simp only [OwnCells, List.getElem?_toArray]
  rw [List.getElem?_append_right (by simp)]
  have h3 : k = 0 ∨ k = 1 ∨ k = 2 := by omega
  rcases h3 with rfl | rfl | rfl <;> simp
theorem ownCells_holds {w : World} {g : Nat} {xs : List Int} {f : Int} (h : Blk w g 5 (OwnCells xs f)) : Holds w (some ⟨g, 0, none⟩) xs := by
  refine ⟨by simp, fun _ => ⟨_, rfl, h.lt, fun j u hu => ?_⟩⟩
  have hj : j < xs.length := by
    rcases Nat.lt_or_ge j xs.length with h1 | h1
    · exact h1
    · rw [List.getElem?_eq_none (by simpa using h1)] at hu; cases hu
  rw [show ((⟨g, 0, none⟩ : Addr).add j) = ⟨g, j, none⟩ from by unfold Addr.add; split <;> simp_all, h.cell]
  simp only [OwnCells, List.getElem?_toArray]
  rw [List.getElem?_append_left (by simpa using hj)]
  exact hu

set_option maxHeartbeats 2000000 in
theorem kept_any (g : Nat) (A : Option Addr) (xs : List Int) (c : Nat) (f : Int) (hl : xs.length ≤ 100000) (w : World) (hb : Blk w g 5 (OwnCells xs f)) (hh : Holds w A xs) :
    Calls Try.prog 14 #[.slice (some ⟨g, 0, none⟩) xs.length (xs.length + 3), .slice A xs.length c, .int .u8 f] w fun e w' => e = .returned (.bool true) ∧ Keeps w w' := by
  have HS : Hid (∀ w, Holds w (some ⟨g, 0, none⟩) xs → Holds w A xs → Calls Try.prog 46 #[.slice (some ⟨g, 0, none⟩) xs.length (xs.length + 3), .slice A xs.length c] w fun e w' => e = .returned (.bool true) ∧ Keeps w w') := by
    intro w h1 h2
    have := same_any _ _ xs xs (xs.length + 3) c w h1 h2 (by omega) (by omega)
    rwa [decide_eq_true rfl] at this
  have HB := hide hb
  have HH := hide hh
  clear hb hh
  generalize hn : xs.length = n at *
  have HN := hide hn
  clear hn
  go_enter Try.func14, Try.ntmps14
  go_wp2_with fail
  refine (unhide HS _ (ownCells_holds (unhide HB)) (unhide HH)).mono ?_
  rintro e w1 ⟨rfl, hk⟩
  have HB1 := hide ((unhide HB).keeps hk)
  go_wp2
  go_loop [8] (fun i => ∃ k : Nat, k ≤ 3 ∧ i = .int .i64 ((n + k : Nat) : Int)) (fun i => n + 4 - (intOf i).toNat)
  case atStart => exact ⟨0, by omega, rfl⟩
  case round =>
    obtain ⟨k, hk3, rfl⟩ := hrel
    by_cases hlt : k < 3
    · have hc := ownCells_at (unhide HB1) k hlt
      rw [unhide HN] at hc
      go_wp2
      exact ⟨⟨k + 1, by omega, congrArg (Value.int IntKind.i64) (by omega)⟩, by simp [intOf]; omega⟩
    · obtain rfl : k = 3 := by omega
      go_wp2
      go_ret
      exact ⟨rfl, hk⟩

end Go.Proofs.Ytnbcehoddjcnoaa
