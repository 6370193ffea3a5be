/- Plain of ints; awake of layer 18; the walk of LengthCuts. -/
import Derived.Test.YtgaapigagglgbaaLenN
import Derived.BigQuiet
namespace Go.Proofs.Ytgaapigagglgbaa
open Go.ChangeShapes Go.WideShapes Go.ChangeAt Go.RowKit
set_option linter.unusedVariables false

set_option maxHeartbeats 400000 in
theorem alikeI_any (x y : Int) (w : World) : Calls Try.prog 32 #[.int .i64 x, .int .i64 y] w fun e w' => e = .returned (.bool (x == y)) ∧ w' = w := by
  go_enter Try.func32, Try.ntmps32
  go_wp2
  go_ret
  exact ⟨rfl, rfl⟩

theorem take_next {xs ys : List Int} {k : Nat} (hx : k < xs.length) (hy : k < ys.length) (h : xs.take k = ys.take k) : xs.take (k + 1) = ys.take (k + 1) ↔ xs.getD k 0 = ys.getD k 0 := by
  rw [List.take_succ_eq_append_getElem hx, List.take_succ_eq_append_getElem hy, h]
  rw [List.append_right_inj]
  simp [hx, hy]

set_option maxHeartbeats 2000000 in
theorem sameInnerI_any (A B : Option Addr) (xs ys : List Int) (c d : Nat) (w : World) (ha : HoldsI w A xs) (hb : HoldsI w B ys) (hlx : xs.length ≤ 1000000) (hly : ys.length ≤ 1000000) :
    Calls Try.prog 31 #[.slice A xs.length c, .slice B ys.length d, .func (Fn.func 32) #[] #[]] w fun e w' => e = .returned (.bool (decide (xs = ys))) ∧ Keeps w w' := by
  by_cases hne : xs.length = ys.length
  · have HA := hide ha
    have HB := hide hb
    clear ha hb
    rw [← hne]
    generalize hn : xs.length = n at *
    have HN := hide hn
    have HM := hide hne
    clear hn hne
    go_enter Try.func31, Try.ntmps31
    go_wp2
    go_loopw [7] (fun i wr => ∃ k : Nat, k ≤ n ∧ i = .int .i64 k ∧ xs.take k = ys.take k ∧ Keeps w wr) (fun i _ => n - (intOf i).toNat)
    case atStart => exact ⟨0, by omega, rfl, rfl, Keeps.refl _⟩
    case round =>
      obtain ⟨k, hk, rfl, ht, hkk⟩ := hrel
      have HT := hide ht
      clear ht
      by_cases hlt : k < n
      · have hkx : k < xs.length := by rw [unhide HN]; exact hlt
        have hky : k < ys.length := by rw [← unhide HM]; exact hlt
        obtain ⟨b, o, rfl, hc1⟩ := ((unhide HA).keeps hkk).at_ hkx
        obtain ⟨b2, o2, rfl, hc2⟩ := ((unhide HB).keeps hkk).at_ hky
        have hnext := take_next hkx hky (unhide HT)
        have HX := hide hnext
        clear hnext hkx hky
        generalize xs.getD k 0 = x at *
        generalize ys.getD k 0 = y at *
        by_cases hxy : x = y
        · have e1 : (x == y) = true := beq_iff_eq.2 hxy
          have HXY := hide hxy
          clear hxy
          go_wp2
          go_quiet ((go_at_call 32; exact Calls.quiet_of_same (alikeI_any _ _ _)))
          go_wp2
          exact ⟨⟨k + 1, by omega, by go_num, (unhide HX).2 (unhide HXY), hkk.drewN _⟩, by simp [intOf]; omega⟩
        · have e1 : (x == y) = false := beq_eq_false_iff_ne.2 hxy
          have HXY := hide hxy
          clear hxy
          go_wp2
          go_quiet ((go_at_call 32; exact Calls.quiet_of_same (alikeI_any _ _ _)))
          go_wp2
          go_ret
          exact ⟨ret_bool (decide_eq_false (fun e => unhide HXY ((unhide HX).1 (by rw [e])))).symm, hkk.drewN _⟩
      · obtain rfl : k = n := by omega
        go_wp2
        go_ret
        have hxy : xs = ys := by
          have := unhide HT
          rwa [List.take_of_length_le (by rw [unhide HN]; exact Nat.le_refl _), List.take_of_length_le (by rw [← unhide HM]; exact Nat.le_refl _)] at this
        exact ⟨ret_bool (by rw [decide_eq_true hxy]), hkk⟩
  · have e1 : ((xs.length : Int) != (ys.length : Int)) = true := by rw [bne_iff_ne]; omega
    have e2 : ((xs.length : Int) == (ys.length : Int)) = false := by rw [beq_eq_false_iff_ne]; omega
    have HD : Hid (decide (xs = ys) = false) := decide_eq_false (fun e => hne (by rw [e]))
    clear hne ha hb
    go_enter Try.func31, Try.ntmps31
    go_wp2
    go_ret
    exact ⟨ret_bool (unhide HD).symm, Keeps.refl _⟩

set_option maxHeartbeats 2000000 in
theorem sameI_any (A B : Option Addr) (xs ys : List Int) (c d : Nat) (w : World) (ha : HoldsI w A xs) (hb : HoldsI w B ys) (hlx : xs.length ≤ 1000000) (hly : ys.length ≤ 1000000) :
    Calls Try.prog 8 #[.slice A xs.length c, .slice B ys.length d] w fun e w' => e = .returned (.bool (decide (xs = ys))) ∧ Keeps w w' := by
  go_enter Try.func8, Try.ntmps8
  go_wp2_with fail
  refine (sameInnerI_any A B xs ys c d w ha hb hlx hly).mono ?_
  rintro e w1 ⟨rfl, hk⟩
  go_wp2
  go_ret
  exact ⟨rfl, hk⟩


theorem own_ints {w : World} {base : Nat} {A : Option Addr} {c : Nat} {l : List Int} (h : w.ownsRow base 3 1 (.slice A l.length c) l.length (IL l)) : HoldsI w A l := Reads.of_own h
set_option maxHeartbeats 1000000 in
theorem awake18_any (w : World) : Calls Try.prog 7 #[] w fun e w' => e = .returned (.bool true) ∧ Keeps w w' := by
  have HC := hide (cuts_any 70000 4 w (by omega) (by omega) (by omega) (by omega))
  rw [show cutsL 4 (70000 : Int).toNat = [65536, 4464] from by decide] at HC
  go_enter Try.func7, Try.ntmps7
  go_wp2_with fail
  with_reducible refine (unhide HC).mono ?_
  rintro e w1 ⟨A, c, rfl, _, hown, hk⟩
  have hh := own_ints hown
  obtain ⟨b, o, rfl, h0⟩ := hh.at_ (k := 0) (by decide)
  obtain ⟨b1, o1, e1, h1⟩ := hh.at_ (k := 1) (by decide)
  injection e1 with e1
  injection e1 with e2 e3 _
  subst e2; subst e3
  have H0 : w1.cell? ⟨b, o, none⟩ = some (.int .i64 65536) := h0
  have H1 : w1.cell? ⟨b, o + 1, none⟩ = some (.int .i64 4464) := h1
  have hl : ([65536, 4464] : List Int).length = 2 := rfl
  rw [hl]
  clear hh h0 h1 hown hl
  go_wp2
  go_ret
  exact ⟨rfl, hk⟩
set_option maxRecDepth 100000 in
set_option maxHeartbeats 1000000 in
theorem lengthCuts_any (n : Int) (w : World) (h0 : -9223372036854775808 ≤ n) (h1 : n ≤ 9223372036854775807) :
    Calls Try.prog 3 #[.int .i64 n] w fun e w' => e = .returned (.bool true) ∧ Keeps w w' := by
  obtain ⟨m, hm, hm0, hm1⟩ : ∃ m : Int, m = min n 16777216 ∧ -9223372036854775808 ≤ m ∧ m ≤ 16777216 := ⟨min n 16777216, rfl, by omega, by omega⟩
  have HC := hide fun w => cuts_any m 2000 w hm0 (by omega) (by omega) (by omega)
  have HR := hide fun w => refCuts_any m 2000 w hm0 (by omega) (by omega) (by omega)
  have hll := cutsL_length 2000 m.toNat
  generalize cutsL 2000 m.toNat = l at *
  by_cases hb : 16777216 < n
  · obtain rfl : m = 16777216 := by omega
    clear hm hm0 hm1
    go_enter Try.func3, Try.ntmps3
    go_wp2_with fail
    refine (awake18_any _).mono ?_
    rintro e w1 ⟨rfl, hk1⟩
    have HK1 := hide hk1
    clear hk1
    go_wp2_with fail
    refine (unhide HC _).mono ?_
    rintro e w2 ⟨A, c, rfl, _, hown, hk2⟩
    have HA := hide (own_ints hown)
    have HK2 := hide ((unhide HK1).trans hk2)
    clear hown hk2
    go_wp2_with fail
    refine (unhide HR _).mono ?_
    rintro e w3 ⟨B, d, rfl, _, hown, hk3⟩
    have HS := hide (sameI_any A B l l c d w3 ((unhide HA).keeps hk3) (own_ints hown) (by omega) (by omega))
    rw [decide_eq_true rfl] at HS
    have HK3 := hide ((unhide HK2).trans hk3)
    clear hown hk3
    go_wp2_with fail
    with_reducible refine (unhide HS).mono ?_
    rintro e w4 ⟨rfl, hk4⟩
    have HK4 := hide ((unhide HK3).trans hk4)
    clear hk4
    go_wp2
    go_ret
    exact ⟨rfl, unhide HK4⟩
  · obtain rfl : m = n := by omega
    clear hm hm0 hm1
    go_enter Try.func3, Try.ntmps3
    go_wp2_with fail
    refine (awake18_any _).mono ?_
    rintro e w1 ⟨rfl, hk1⟩
    have HK1 := hide hk1
    clear hk1
    go_wp2_with fail
    refine (unhide HC _).mono ?_
    rintro e w2 ⟨A, c, rfl, _, hown, hk2⟩
    have HA := hide (own_ints hown)
    have HK2 := hide ((unhide HK1).trans hk2)
    clear hown hk2
    go_wp2_with fail
    refine (unhide HR _).mono ?_
    rintro e w3 ⟨B, d, rfl, _, hown, hk3⟩
    have HS := hide (sameI_any A B l l c d w3 ((unhide HA).keeps hk3) (own_ints hown) (by omega) (by omega))
    rw [decide_eq_true rfl] at HS
    have HK3 := hide ((unhide HK2).trans hk3)
    clear hown hk3
    go_wp2_with fail
    with_reducible refine (unhide HS).mono ?_
    rintro e w4 ⟨rfl, hk4⟩
    have HK4 := hide ((unhide HK3).trans hk4)
    clear hk4
    go_wp2
    go_ret
    exact ⟨rfl, unhide HK4⟩
end Go.Proofs.Ytgaapigagglgbaa
