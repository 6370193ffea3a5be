/- The reference: a name; a number. -/
import Derived.Test.YtknebkncepgppaaDoorLexR1
namespace Go.Proofs.YtknebkncepgppaaDoor
open Go.ChangeShapes Go.WideShapes Go.ChangeAt Go.RowKit Go.PlainAid
set_option linter.unusedVariables false
set_option linter.unusedSimpArgs false

def orNeg (b : Bool) (n : Nat) : Int := if b = true then (n : Int) else -1
theorem ret_yes {b : Bool} {n m : Nat} (h : b = true) (hn : n = m) : Ending.returned (.int .i64 (n : Nat)) = .returned (.int .i64 (orNeg b m)) := by subst hn; rw [orNeg, if_pos h]
theorem ret_no {b : Bool} {m : Nat} (h : b = false) : Ending.returned (.int .i64 (-1)) = .returned (.int .i64 (orNeg b m)) := by rw [orNeg, if_neg (by simp [h])]

set_option maxRecDepth 100000 in
set_option maxHeartbeats 4000000 in
theorem refName_any (s : ByteArray) (i : Nat) (w : World) (hi : i < s.size) (hl : isLet (bt s i) = true) (hs : s.size ≤ 1000000000) :
    Calls Tryd.prog 41 #[.string s, .int .i64 (i : Nat)] w fun e w' => e = .returned (.int .i64 (orNeg (nameOk s i) (nameEnd s i))) ∧ w' = w := by
  have HLA := hide (show nmP s i = true by simp [nmP, hl])
  clear hl
  go_enter Tryd.func41, Tryd.ntmps41
  go_wp2
  go_loopg [1] (s.size - i) (fun k iv wr => ∃ a : Nat, iv = .int .i64 (a : Nat) ∧ a ≤ s.size ∧ k = s.size - a ∧ IsRun (nmP s) i a ∧ w = wr)
  case atStart => exact ⟨i, rfl, Nat.le_of_lt hi, rfl, IsRun.refl _ _, rfl⟩
  case round =>
    obtain ⟨a, rfl, hle, hk, hv, rfl⟩ := hrel
    have HK := hide hk
    have HV := hide hv
    clear hk hv
    have hc0 := bt_nonneg s a
    have hc1 := bt_le s a
    by_cases hN : nmP s a = true
    · have hlt := nmP_lt s a hN
      have hltI : (a : Int) < (s.size : Int) := by omega
      have hba := get_bt s a hlt
      have HR := hide ((unhide HV).step hN)
      have HA := hide (refAt1_is s a (by omega) hs _ rfl)
      by_cases q1 : isLet (bt s a) = true
      · have HL := hide (refLetter_is _ _ q1 hc0 hc1)
        clear q1 hN HA
        generalize bt s a = c at *
        go_wp2_with (first | (with_reducible refine (unhide HL _).mono ?_; rintro e w1 ⟨rfl, rfl⟩))
        go_roundg (s.size - (a + 1))
        case measure => have := unhide HK; omega
        case rel => exact ⟨a + 1, rfl, by omega, rfl, unhide HR, rfl⟩
      · have HL := hide (refLetter_is (bt s a) false (by simpa using q1) hc0 hc1)
        by_cases q2 : isDig (bt s a) = true
        · have HG := hide (refDigit_is (bt s a) true q2 hc0 hc1)
          clear q1 q2 hN HA
          generalize bt s a = c at *
          go_wp2_with (first | (with_reducible refine (unhide HL _).mono ?_; rintro e w1 ⟨rfl, rfl⟩) | (with_reducible refine (unhide HG _).mono ?_; rintro e w1 ⟨rfl, rfl⟩))
          go_roundg (s.size - (a + 1))
          case measure => have := unhide HK; omega
          case rel => exact ⟨a + 1, rfl, by omega, rfl, unhide HR, rfl⟩
        · have HG := hide (refDigit_is (bt s a) false (by simpa using q2) hc0 hc1)
          have q3 : bt s a = 45 ∧ bt s (a + 1) ≠ 45 := by
            simp only [nmP, Bool.or_eq_true, Bool.and_eq_true, decide_eq_true_eq, Bool.not_eq_true', decide_eq_false_iff_not] at hN
            rcases hN with (h | h) | h
            · exact absurd h q1
            · exact absurd h q2
            · exact h
          have e45 : (bt s (a + 1) != 45) = true := by rw [bne_iff_ne]; exact q3.2
          have q4 := q3.1
          clear q1 q2 q3 hN
          generalize bt s (a + 1) = c1 at *
          generalize bt s a = c at *
          subst q4
          go_wp2_with (first | (with_reducible refine (unhide HL _).mono ?_; rintro e w1 ⟨rfl, rfl⟩) | (with_reducible refine (unhide HG _).mono ?_; rintro e w1 ⟨rfl, rfl⟩) | (with_reducible refine (unhide HA _).mono ?_; rintro e w1 ⟨rfl, rfl⟩))
          go_roundg (s.size - (a + 1))
          case measure => have := unhide HK; omega
          case rel => exact ⟨a + 1, rfl, by omega, rfl, unhide HR, rfl⟩
    · have hN2 : nmP s a = false := by simpa using hN
      have hsp := spanAt_run (nmP_lt s) (Nat.le_of_lt hi) (unhide HV) hN2
      have hlt0 : i < a := by
        have := (unhide HV).1
        by_cases e : i = a
        · subst e; rw [unhide HLA] at hN2; cases hN2
        · omega
      have HEnd : Hid (nameEnd s i = a) := hsp
      have hlt1 : a - 1 < s.size := by omega
      have hbl := get_bt s (a - 1) hlt1
      have hpI : IntKind.i64.wrap ((a : Int) - 1) = (a : Int) - 1 := IntWalk.i64_in _ ⟨by omega, by omega⟩
      have hpn : ((a : Int) - 1).toNat = a - 1 := by omega
      have hp0 : (0 : Int) ≤ (a : Int) - 1 := by omega
      have hp1 : (a : Int) - 1 < (s.size : Int) := by omega
      have hOk := hide (show nameOk s i = decide (a - i ≤ 60 ∧ bt s (a - 1) ≠ 45) by rw [nameOk, unhide HEnd])
      have q1 : isLet (bt s a) = false := by
        by_cases q : isLet (bt s a) = true
        · simp [nmP, q] at hN2
        · simpa using q
      have q2 : isDig (bt s a) = false := by
        by_cases q : isDig (bt s a) = true
        · simp [nmP, q] at hN2
        · simpa using q
      have q3 : ((bt s a == 45) = true ∧ (bt s (a + 1) != 45) = false) ∨ (bt s a == 45) = false := by
        by_cases q : bt s a = 45
        · by_cases q' : bt s (a + 1) = 45
          · exact .inl ⟨by simp [q], by simp [q']⟩
          · exfalso; simp [nmP, q, q'] at hN2
        · exact .inr (by simp [q])
      have HL := hide (refLetter_is (bt s a) false q1 hc0 hc1)
      have HG := hide (refDigit_is (bt s a) false q2 hc0 hc1)
      have HA := hide (fun (h : a < s.size) => refAt1_is s a (by omega) hs _ rfl)
      have hba := fun h => get_bt s a h
      clear q1 q2 hN hN2 hsp
      generalize bt s (a + 1) = c1 at *
      generalize hcc : bt s a = c at HL HG hba q3 hc0 hc1
      generalize bt s (a - 1) = d at *
      clear hcc
      by_cases hlta : a < s.size
      · have hltI : (a : Int) < (s.size : Int) := by omega
        have hba := hba hlta
        rcases q3 with ⟨e1, e2⟩ | e1
        · by_cases q : d = 45
          · subst q
            go_wp2_with (first | (with_reducible refine (unhide HL _).mono ?_; rintro e w1 ⟨rfl, rfl⟩) | (with_reducible refine (unhide HG _).mono ?_; rintro e w1 ⟨rfl, rfl⟩) | (with_reducible refine (unhide HA hlta _).mono ?_; rintro e w1 ⟨rfl, rfl⟩))
            go_ret
            exact ⟨ret_no (by rw [unhide hOk]; simp), rfl⟩
          · have q' : (d == 45) = false := beq_eq_false_iff_ne.2 q
            by_cases hlen : a - i ≤ 60
            · have hlenI : ¬ (60 : Int) < (a : Int) - (i : Int) := by omega
              go_wp2_with (first | (with_reducible refine (unhide HL _).mono ?_; rintro e w1 ⟨rfl, rfl⟩) | (with_reducible refine (unhide HG _).mono ?_; rintro e w1 ⟨rfl, rfl⟩) | (with_reducible refine (unhide HA hlta _).mono ?_; rintro e w1 ⟨rfl, rfl⟩))
              go_ret
              exact ⟨ret_yes (by rw [unhide hOk]; simp [hlen, q]) (unhide HEnd).symm, rfl⟩
            · have hlenI : (60 : Int) < (a : Int) - (i : Int) := by omega
              go_wp2_with (first | (with_reducible refine (unhide HL _).mono ?_; rintro e w1 ⟨rfl, rfl⟩) | (with_reducible refine (unhide HG _).mono ?_; rintro e w1 ⟨rfl, rfl⟩) | (with_reducible refine (unhide HA hlta _).mono ?_; rintro e w1 ⟨rfl, rfl⟩))
              go_ret
              exact ⟨ret_no (by rw [unhide hOk]; simp [hlen]), rfl⟩
        · by_cases q : d = 45
          · subst q
            go_wp2_with (first | (with_reducible refine (unhide HL _).mono ?_; rintro e w1 ⟨rfl, rfl⟩) | (with_reducible refine (unhide HG _).mono ?_; rintro e w1 ⟨rfl, rfl⟩) | (with_reducible refine (unhide HA hlta _).mono ?_; rintro e w1 ⟨rfl, rfl⟩))
            go_ret
            exact ⟨ret_no (by rw [unhide hOk]; simp), rfl⟩
          · have q' : (d == 45) = false := beq_eq_false_iff_ne.2 q
            by_cases hlen : a - i ≤ 60
            · have hlenI : ¬ (60 : Int) < (a : Int) - (i : Int) := by omega
              go_wp2_with (first | (with_reducible refine (unhide HL _).mono ?_; rintro e w1 ⟨rfl, rfl⟩) | (with_reducible refine (unhide HG _).mono ?_; rintro e w1 ⟨rfl, rfl⟩) | (with_reducible refine (unhide HA hlta _).mono ?_; rintro e w1 ⟨rfl, rfl⟩))
              go_ret
              exact ⟨ret_yes (by rw [unhide hOk]; simp [hlen, q]) (unhide HEnd).symm, rfl⟩
            · have hlenI : (60 : Int) < (a : Int) - (i : Int) := by omega
              go_wp2_with (first | (with_reducible refine (unhide HL _).mono ?_; rintro e w1 ⟨rfl, rfl⟩) | (with_reducible refine (unhide HG _).mono ?_; rintro e w1 ⟨rfl, rfl⟩) | (with_reducible refine (unhide HA hlta _).mono ?_; rintro e w1 ⟨rfl, rfl⟩))
              go_ret
              exact ⟨ret_no (by rw [unhide hOk]; simp [hlen]), rfl⟩
      · have hltI : ¬ (a : Int) < (s.size : Int) := by omega
        clear HL HG hba q3
        by_cases q : d = 45
        · subst q
          go_wp2_with fail
          go_ret
          exact ⟨ret_no (by rw [unhide hOk]; simp), rfl⟩
        · have q' : (d == 45) = false := beq_eq_false_iff_ne.2 q
          by_cases hlen : a - i ≤ 60
          · have hlenI : ¬ (60 : Int) < (a : Int) - (i : Int) := by omega
            go_wp2_with fail
            go_ret
            exact ⟨ret_yes (by rw [unhide hOk]; simp [hlen, q]) (unhide HEnd).symm, rfl⟩
          · have hlenI : (60 : Int) < (a : Int) - (i : Int) := by omega
            go_wp2_with fail
            go_ret
            exact ⟨ret_no (by rw [unhide hOk]; simp [hlen]), rfl⟩
end Go.Proofs.YtknebkncepgppaaDoor
