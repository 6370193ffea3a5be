/- The reference: white space, a name. -/
import Derived.Test.YtknebkncepgppaaDoorLex9
namespace Go.Proofs.YtknebkncepgppaaDoor
open Go.ChangeShapes Go.WideShapes Go.ChangeAt Go.RowKit Go.PlainAid
set_option linter.unusedVariables false
set_option linter.unusedSimpArgs false

theorem ret_nat {a b : Nat} (h : a = b) : Ending.returned (.int .i64 (a : Nat)) = .returned (.int .i64 (b : Nat)) := by rw [h]
theorem refAt0_any (s : ByteArray) (i : Nat) (w : World) (hi : i ≤ 1000000000) (hs : s.size ≤ 1000000000) :
    Calls Tryd.prog 39 #[.string s, .int .i64 (i : Nat)] w fun e w' => e = .returned (.int .u8 (bt s i)) ∧ w' = w := by
  have hb := get_bt s
  by_cases hlt : i < s.size
  · have h2 : (i : Int) < (s.size : Int) := by omega
    go_enter Tryd.func39, Tryd.ntmps39
    go_wp2
    go_ret
    exact ⟨rfl, rfl⟩
  · have e := bt_end s (k := i) (by omega)
    have h2 : ¬ (i : Int) < (s.size : Int) := by omega
    rw [e]
    go_enter Tryd.func39, Tryd.ntmps39
    go_wp2
    go_ret
    exact ⟨rfl, rfl⟩
theorem refAt_is (s : ByteArray) (i : Nat) (hi : i ≤ 1000000000) (hs : s.size ≤ 1000000000) (c : Int) (hc : bt s i = c) : ∀ w, Calls Tryd.prog 39 #[.string s, .int .i64 (i : Nat)] w fun e w' => e = .returned (.int .u8 c) ∧ w' = w := fun w => hc ▸ refAt0_any s i w hi hs
theorem refAt1_is (s : ByteArray) (i : Nat) (hi : i + 1 ≤ 1000000000) (hs : s.size ≤ 1000000000) (c : Int) (hc : bt s (i + 1) = c) : ∀ w, Calls Tryd.prog 39 #[.string s, .int .i64 ((i : Int) + 1)] w fun e w' => e = .returned (.int .u8 c) ∧ w' = w := fun w => hc ▸ (by have := refAt0_any s (i + 1) w hi hs; rwa [Int.natCast_add] at this)

set_option maxRecDepth 100000 in
set_option maxHeartbeats 4000000 in
theorem refWhite_any (s : ByteArray) (i : Nat) (w : World) (hi : i ≤ s.size) (hs : s.size ≤ 1000000000) :
    Calls Tryd.prog 21 #[.string s, .int .i64 (i : Nat)] w fun e w' => e = .returned (.int .i64 (skipAt s i : Nat)) ∧ w' = w := by
  go_enter Tryd.func21, Tryd.ntmps21
  go_wp2
  go_loopg [1, 10, 35] (s.size - i) (fun k iv (_ : Value) (_ : Value) wr => ∃ a : Nat, iv = .int .i64 (a : Nat) ∧ a ≤ s.size ∧ k = s.size - a ∧ skipAt s a = skipAt s i ∧ w = wr)
  case atStart => exact ⟨i, rfl, hi, rfl, rfl, rfl⟩
  case round =>
    obtain ⟨a, rfl, hle, hk, hsk, rfl⟩ := hrel
    have HK := hide hk
    have HSK := hide hsk
    clear hk hsk
    by_cases hlt : a < s.size
    · have hltI : (a : Int) < (s.size : Int) := by omega
      have hba := get_bt s a hlt
      have HA := hide (refAt1_is s a (by omega) hs _ rfl)
      by_cases hw : isWh (bt s a) = true
      · have HT := hide (skipAt_white hw)
        simp only [isWh, Bool.or_eq_true, decide_eq_true_eq] at hw
        clear HA
        generalize bt s a = c at *
        rcases hw with ((rfl | rfl) | rfl) | rfl
        all_goals
          go_wp2
          go_roundg (s.size - (a + 1))
          case measure => have := unhide HK; omega
          case rel => exact ⟨a + 1, rfl, by omega, rfl, by rw [← unhide HSK, unhide HT], rfl⟩
      · simp only [isWh, Bool.or_eq_true, decide_eq_true_eq, not_or] at hw
        have HW := hide hw
        have e1 : (bt s a == 32) = false := beq_eq_false_iff_ne.2 hw.1.1.1
        have e2 : (bt s a == 9) = false := beq_eq_false_iff_ne.2 hw.1.1.2
        have e3 : (bt s a == 10) = false := beq_eq_false_iff_ne.2 hw.1.2
        have e4 : (bt s a == 13) = false := beq_eq_false_iff_ne.2 hw.2
        clear hw
        by_cases hd : bt s a = 45 ∧ bt s (a + 1) = 45
        · have hle2 := two_le hd.2
          have HT := hide (skipAt_comment hd.1 hd.2)
          have hd1 := hd.1
          have hd2 := hd.2
          clear hd
          generalize bt s (a + 1) = c1 at *
          generalize bt s a = c at *
          subst hd1
          subst hd2
          clear HW
          go_wp2_with (first | (with_reducible refine (unhide HA _).mono ?_; rintro e w1 ⟨rfl, rfl⟩))
          go_loopg [1] (s.size - (a + 2)) (fun k iv W2 => ∃ b : Nat, iv = .int .i64 (b : Nat) ∧ b ≤ s.size ∧ a + 2 ≤ b ∧ k = s.size - b ∧ cmtAt s b = cmtAt s (a + 2) ∧ w1 = W2)
          case atStart => exact ⟨a + 2, by simp, hle2, Nat.le_refl _, rfl, rfl, rfl⟩
          case round =>
            obtain ⟨b, rfl, hb, hab, hkb, hcb, rfl⟩ := hrel
            have HKB := hide hkb
            have HCB := hide hcb
            clear hkb hcb
            by_cases hltb : b < s.size
            · have hltbI : (b : Int) < (s.size : Int) := by omega
              have hbb := get_bt s b hltb
              have HB := hide (refAt1_is s b (by omega) hs _ rfl)
              by_cases h10 : bt s b = 10
              · have HE := hide (show cmtAt s (a + 2) = b by rw [← unhide HCB, cmtAt_eq hb, if_pos (.inl h10)])
                rw [h10] at hbb
                go_wp2
                go_roundg (s.size - b)
                case measure => have := unhide HK; omega
                case rel => exact ⟨b, rfl, hb, rfl, by rw [← unhide HSK, unhide HT, unhide HE], rfl⟩
              · have e10 : (bt s b != 10) = true := by rw [bne_iff_ne]; exact h10
                by_cases hdb : bt s b = 45 ∧ bt s (b + 1) = 45
                · have HE := hide (show cmtAt s (a + 2) = b + 2 by rw [← unhide HCB, cmtAt_eq hb, if_neg (by omega), if_pos hdb])
                  have hle3 := two_le hdb.2
                  have hb1 := hdb.1
                  have hb2 := hdb.2
                  clear hdb h10
                  generalize bt s (b + 1) = c2 at *
                  generalize bt s b = c3 at *
                  subst hb1
                  subst hb2
                  go_wp2_with (first | (with_reducible refine (unhide HB _).mono ?_; rintro e w1 ⟨rfl, rfl⟩))
                  go_roundg (s.size - (b + 2))
                  case measure => have := unhide HK; omega
                  case rel => exact ⟨b + 2, by simp, hle3, rfl, by rw [← unhide HSK, unhide HT, unhide HE], rfl⟩
                · have HE := hide (show cmtAt s (b + 1) = cmtAt s (a + 2) by rw [← unhide HCB, cmtAt_eq hb, if_neg (by omega), if_neg hdb])
                  have hor : (bt s b == 45) = false ∨ ((bt s b == 45) = true ∧ (bt s (b + 1) == 45) = false) := by
                    by_cases q : bt s b = 45
                    · exact .inr ⟨by simp [q], by simp; exact fun q2 => hdb ⟨q, q2⟩⟩
                    · exact .inl (by simp [q])
                  clear hdb h10
                  generalize bt s (b + 1) = c2 at *
                  generalize bt s b = c3 at *
                  rcases hor with q | ⟨q, q2⟩
                  all_goals
                    go_wp2_with (first | (with_reducible refine (unhide HB _).mono ?_; rintro e w1 ⟨rfl, rfl⟩))
                    go_roundg (s.size - (b + 1))
                    case measure => have := unhide HKB; omega
                    case rel => exact ⟨b + 1, by simp, by omega, by omega, rfl, unhide HE, rfl⟩
            · have hltbI : ¬ (b : Int) < (s.size : Int) := by omega
              have HE := hide (show cmtAt s (a + 2) = b by rw [← unhide HCB, cmtAt_eq hb, if_pos (.inr (by omega))])
              go_wp2
              go_roundg (s.size - b)
              case measure => have := unhide HK; omega
              case rel => exact ⟨b, rfl, hb, rfl, by rw [← unhide HSK, unhide HT, unhide HE], rfl⟩
        · have HT := hide (skipAt_stop (s := s) (i := a) (by have := unhide HW; simp [isWh, this]) hd)
          have hor : (bt s a == 45) = false ∨ ((bt s a == 45) = true ∧ (bt s (a + 1) == 45) = false) := by
            by_cases q : bt s a = 45
            · exact .inr ⟨by simp [q], by simp; exact fun q2 => hd ⟨q, q2⟩⟩
            · exact .inl (by simp [q])
          clear hd HW
          generalize bt s (a + 1) = c1 at *
          generalize bt s a = c at *
          rcases hor with q | ⟨q, q2⟩
          all_goals
            go_wp2_with (first | (with_reducible refine (unhide HA _).mono ?_; rintro e w1 ⟨rfl, rfl⟩))
            go_ret
            exact ⟨ret_nat (show a = skipAt s i by rw [← unhide HSK, unhide HT]), rfl⟩
    · have hltI : ¬ (a : Int) < (s.size : Int) := by omega
      have HE := hide (show skipAt s a = a by rw [skipAt_eq, bt_end s (by omega), bt_end s (by omega)]; simp [isWh])
      go_wp2
      go_ret
      exact ⟨ret_nat (show a = skipAt s i by rw [← unhide HSK, unhide HE]), rfl⟩
end Go.Proofs.YtknebkncepgppaaDoor
