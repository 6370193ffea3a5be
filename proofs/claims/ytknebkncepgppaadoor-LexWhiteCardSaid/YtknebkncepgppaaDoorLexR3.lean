/- The reference: a number. -/
import Derived.Test.YtknebkncepgppaaDoorLexR2
import Derived.Test.YtknebkncepgppaaDoorLexN5
namespace Go.Proofs.YtknebkncepgppaaDoor
open Go.ChangeShapes Go.WideShapes Go.ChangeAt Go.RowKit Go.PlainAid
set_option linter.unusedVariables false
set_option linter.unusedSimpArgs false

theorem u64_eq {a : Nat} {b : Int} (h : (b : Int) = (a : Int)) : Value.int .u64 b = .int .u64 (a : Nat) := by rw [h]
set_option maxRecDepth 100000 in
set_option maxHeartbeats 8000000 in
theorem refNumber_any (s : ByteArray) (i : Nat) (w : World) (hi : i < s.size) (hd : dgP s (numFrom s i) = true) (hs : s.size ≤ 1000000000) :
    Calls Tryd.prog 43 #[.string s, .int .i64 (i : Nat)] w fun e w' => e = .returned (.int .i64 (orNeg (numOk s i) (numEnd s i))) ∧ w' = w := by
  have hb0 := get_bt s i hi
  by_cases h45 : bt s i = 45
  · have hf : numFrom s i = (i + 1) := by rw [numFrom, if_pos h45]
    rw [hf] at hd
    have hlt0 : (i + 1) < s.size := dgP_lt s _ hd
    have hbf := get_bt s (i + 1) hlt0
    have HF := hide hf
    have HD := hide hd
    have H45 := hide h45
    clear hf hd
    rw [h45] at hb0
    clear h45
    go_enter Tryd.func43, Tryd.ntmps43
    go_wp2
    go_loopg [1, 7] (s.size - (i + 1)) (fun k iv vv wr => ∃ j : Nat, iv = .int .i64 (j : Nat) ∧ vv = .int .u64 (dval s (i + 1) (min (j - (i + 1)) 19) : Nat) ∧ j ≤ s.size ∧ k = s.size - j ∧ IsRun (dgP s) (i + 1) j ∧ w = wr)
    case atStart => exact ⟨(i + 1), by simp, by rw [Nat.sub_self]; rfl, Nat.le_of_lt hlt0, rfl, IsRun.refl _ _, rfl⟩
    case round =>
      obtain ⟨j, rfl, rfl, hle, hk, hv, rfl⟩ := hrel
      have HK := hide hk
      have HV := hide hv
      have hge := hv.1
      clear hk hv
      have hc0 := bt_nonneg s j
      have hc1 := bt_le s j
      by_cases hN : dgP s j = true
      · have hlt := dgP_lt s j hN
        have hltI : (j : Int) < (s.size : Int) := by omega
        have hba := get_bt s j hlt
        have HR := hide ((unhide HV).step hN)
        have HG := hide (refDigit_is (bt s j) true hN hc0 hc1)
        have hdr := dig_range hN
        by_cases h19 : j - (i + 1) < 19
        · have h19I : (j : Int) - ((i : Int) + 1) < 19 := by omega
          have HE := hide (show dval s (i + 1) (min (j + 1 - (i + 1)) 19) = 10 * dval s (i + 1) (min (j - (i + 1)) 19) + (bt s j - 48).toNat by rw [show min (j + 1 - (i + 1)) 19 = min (j - (i + 1)) 19 + 1 by omega]; show 10 * _ + (bt s ((i + 1) + min (j - (i + 1)) 19) - 48).toNat = _; rw [show (i + 1) + min (j - (i + 1)) 19 = j by omega])
          have hV := dval_19 (s := s) (a := (i + 1)) (n := min (j - (i + 1)) 19) (fun k h1 h2 => (unhide HV).2 k h1 (by omega)) (by omega)
          clear hN
          generalize dval s (i + 1) (min (j - (i + 1)) 19) = V at *
          generalize bt s j = c at *
          go_wp2_with (first | (with_reducible refine (unhide HG _).mono ?_; rintro e w1 ⟨rfl, rfl⟩))
          go_roundg (s.size - (j + 1))
          case measure => have := unhide HK; omega
          case rel => exact ⟨j + 1, rfl, u64_eq (by rw [unhide HE]; omega), by omega, rfl, unhide HR, rfl⟩
        · have h19I : ¬ (j : Int) - ((i : Int) + 1) < 19 := by omega
          have HE := hide (show min (j + 1 - (i + 1)) 19 = min (j - (i + 1)) 19 by omega)
          clear hN
          generalize hV : dval s (i + 1) (min (j - (i + 1)) 19) = V at *
          have HVV := hide hV
          clear hV
          generalize bt s j = c at *
          go_wp2_with (first | (with_reducible refine (unhide HG _).mono ?_; rintro e w1 ⟨rfl, rfl⟩))
          go_roundg (s.size - (j + 1))
          case measure => have := unhide HK; omega
          case rel => exact ⟨j + 1, rfl, u64_eq (by rw [unhide HE, unhide HVV]), by omega, rfl, unhide HR, rfl⟩
      · have hN2 : dgP s j = false := by simpa using hN
        have hsp : numEnd s i = j := by rw [numEnd, unhide HF]; exact spanAt_run (dgP_lt s) (Nat.le_of_lt hlt0) (unhide HV) hN2
        have HEnd := hide hsp
        have hlt : (i + 1) < j := by
          by_cases e : (i + 1) = j
          · exfalso; rw [← e, unhide HD] at hN2; cases hN2
          · omega
        have HG := hide (fun (h : j < s.size) => refDigit_is (bt s j) false hN2 hc0 hc1)
        have HA := hide (refAt_is s j (by omega) hs _ rfl)
        have HL := hide (fun b (hb : isLet (bt s j) = b) => refLetter_is (bt s j) b hb hc0 hc1)
        have hba := fun h => get_bt s j h
        have hNO := num_no (unhide HF) hsp hlt (unhide HD) (unhide HV)
        have hYES := num_yes (unhide HF) hsp hlt
        have hVlt := dval_lt s (i + 1) (min (j - (i + 1)) 19) (fun k h1 h2 => (unhide HV).2 k h1 (by omega))
        have hVl2 : dval s (i + 1) (min (j - (i + 1)) 19) < 10 ^ 19 := Nat.lt_of_lt_of_le hVlt (Nat.pow_le_pow_right (by omega) (by omega))
        have HNO := hide hNO
        have HYES := hide hYES
        clear hN hN2 hsp hNO hYES hVlt
        generalize dval s (i + 1) (min (j - (i + 1)) 19) = V at *
        generalize bt s j = c at *
        generalize bt s (i + 1) = f0 at *
        have hnI : ((j : Int) - ((i : Int) + 1) < 1) = False := by simp; omega
        by_cases hlj : j < s.size
        · have hljI : (j : Int) < (s.size : Int) := by omega
          have hba := hba hlj
          by_cases h19 : 19 < j - (i + 1)
          · have h19I : (19 : Int) < (j : Int) - ((i : Int) + 1) := by omega
            go_wp2_with (first | (with_reducible refine (unhide HG hlj _).mono ?_; rintro e w1 ⟨rfl, rfl⟩) | (with_reducible refine (unhide HA _).mono ?_; rintro e w1 ⟨rfl, rfl⟩))
            go_ret
            exact ⟨ret_no (unhide HNO (.inl h19)), rfl⟩
          have h19I : ¬ (19 : Int) < (j : Int) - ((i : Int) + 1) := by omega
          have hst : (1 < j - (i + 1) ∧ f0 = 48) ∨ (f0 = 48) ∨ (1 < j - (i + 1) ∧ (f0 == 48) = false ∧ f0 ≠ 48) ∨ (j - (i + 1) ≤ 1 ∧ (f0 == 48) = false ∧ f0 ≠ 48) ∨ (j - (i + 1) ≤ 1 ∧ f0 = 48 ∧ False) := by
            by_cases q1 : 1 < j - (i + 1)
            · by_cases q2 : f0 = 48
              · exact .inl ⟨q1, q2⟩
              · exact .inr (.inr (.inl ⟨q1, by simp [q2], q2⟩))
            · by_cases q2 : f0 = 48
              · exact .inr (.inl q2)
              · exact .inr (.inr (.inr (.inl ⟨by omega, by simp [q2], q2⟩)))
          rcases hst with ⟨q1, q2⟩ | q2 | ⟨q1, q2, q3⟩ | ⟨q1, q2, q3⟩ | ⟨q1, q2, q3⟩
          · have q1I : (1 : Int) < (j : Int) - ((i : Int) + 1) := by omega
            have HX := hide (unhide HNO (.inr (.inl ⟨q1, q2⟩)))
            subst q2
            go_wp2_with (first | (with_reducible refine (unhide HG hlj _).mono ?_; rintro e w1 ⟨rfl, rfl⟩) | (with_reducible refine (unhide HA _).mono ?_; rintro e w1 ⟨rfl, rfl⟩))
            go_ret
            exact ⟨ret_no (unhide HX), rfl⟩
          · have HX := hide (unhide HNO (.inr (.inr (.inl ⟨unhide H45, q2⟩))))
            subst q2
            by_cases q1 : 1 < j - (i + 1)
            · have q1I : (1 : Int) < (j : Int) - ((i : Int) + 1) := by omega
              go_wp2_with (first | (with_reducible refine (unhide HG hlj _).mono ?_; rintro e w1 ⟨rfl, rfl⟩) | (with_reducible refine (unhide HA _).mono ?_; rintro e w1 ⟨rfl, rfl⟩))
              go_ret
              exact ⟨ret_no (unhide HX), rfl⟩
            · have q1I : ¬ (1 : Int) < (j : Int) - ((i : Int) + 1) := by omega
              go_wp2_with (first | (with_reducible refine (unhide HG hlj _).mono ?_; rintro e w1 ⟨rfl, rfl⟩) | (with_reducible refine (unhide HA _).mono ?_; rintro e w1 ⟨rfl, rfl⟩))
              go_ret
              exact ⟨ret_no (unhide HX), rfl⟩
          · have q1I : (1 : Int) < (j : Int) - ((i : Int) + 1) := by omega
            have HQ3 := hide (show f0 ≠ 48 ∨ (j - (i + 1) ≤ 1 ∧ bt s i ≠ 45) from .inl q3)

            cases hlet : isLet c
            · have HLb := hide (unhide HL false hlet)
              have HLe := hide hlet
              clear hlet
              by_cases hbig : 9223372036854775808 < V
              · have hbigI : (9223372036854775808 : Int) < (V : Int) := by omega
                have HX := hide (unhide HNO (.inr (.inr (.inr (.inr (.inl hbig))))))
                go_wp2_with (first | (with_reducible refine (unhide HG hlj _).mono ?_; rintro e w1 ⟨rfl, rfl⟩) | (with_reducible refine (unhide HA _).mono ?_; rintro e w1 ⟨rfl, rfl⟩) | (with_reducible refine (unhide HLb _).mono ?_; rintro e w1 ⟨rfl, rfl⟩))
                go_ret
                exact ⟨ret_no (unhide HX), rfl⟩
              · have hbigI : ¬ (9223372036854775808 : Int) < (V : Int) := by omega
                have HX := hide (unhide HYES (by omega) (unhide HQ3) (unhide HLe) (by omega) (.inl (unhide H45)))
                go_wp2_with (first | (with_reducible refine (unhide HG hlj _).mono ?_; rintro e w1 ⟨rfl, rfl⟩) | (with_reducible refine (unhide HA _).mono ?_; rintro e w1 ⟨rfl, rfl⟩) | (with_reducible refine (unhide HLb _).mono ?_; rintro e w1 ⟨rfl, rfl⟩))
                go_ret
                exact ⟨ret_yes (unhide HX) (unhide HEnd).symm, rfl⟩
            · have HLb := hide (unhide HL true hlet)
              have HX := hide (unhide HNO (.inr (.inr (.inr (.inl hlet)))))
              clear hlet
              go_wp2_with (first | (with_reducible refine (unhide HG hlj _).mono ?_; rintro e w1 ⟨rfl, rfl⟩) | (with_reducible refine (unhide HA _).mono ?_; rintro e w1 ⟨rfl, rfl⟩) | (with_reducible refine (unhide HLb _).mono ?_; rintro e w1 ⟨rfl, rfl⟩))
              go_ret
              exact ⟨ret_no (unhide HX), rfl⟩

          · have q1I : ¬ (1 : Int) < (j : Int) - ((i : Int) + 1) := by omega
            have HQ3 := hide (show f0 ≠ 48 ∨ (j - (i + 1) ≤ 1 ∧ bt s i ≠ 45) from .inl q3)

            cases hlet : isLet c
            · have HLb := hide (unhide HL false hlet)
              have HLe := hide hlet
              clear hlet
              by_cases hbig : 9223372036854775808 < V
              · have hbigI : (9223372036854775808 : Int) < (V : Int) := by omega
                have HX := hide (unhide HNO (.inr (.inr (.inr (.inr (.inl hbig))))))
                go_wp2_with (first | (with_reducible refine (unhide HG hlj _).mono ?_; rintro e w1 ⟨rfl, rfl⟩) | (with_reducible refine (unhide HA _).mono ?_; rintro e w1 ⟨rfl, rfl⟩) | (with_reducible refine (unhide HLb _).mono ?_; rintro e w1 ⟨rfl, rfl⟩))
                go_ret
                exact ⟨ret_no (unhide HX), rfl⟩
              · have hbigI : ¬ (9223372036854775808 : Int) < (V : Int) := by omega
                have HX := hide (unhide HYES (by omega) (unhide HQ3) (unhide HLe) (by omega) (.inl (unhide H45)))
                go_wp2_with (first | (with_reducible refine (unhide HG hlj _).mono ?_; rintro e w1 ⟨rfl, rfl⟩) | (with_reducible refine (unhide HA _).mono ?_; rintro e w1 ⟨rfl, rfl⟩) | (with_reducible refine (unhide HLb _).mono ?_; rintro e w1 ⟨rfl, rfl⟩))
                go_ret
                exact ⟨ret_yes (unhide HX) (unhide HEnd).symm, rfl⟩
            · have HLb := hide (unhide HL true hlet)
              have HX := hide (unhide HNO (.inr (.inr (.inr (.inl hlet)))))
              clear hlet
              go_wp2_with (first | (with_reducible refine (unhide HG hlj _).mono ?_; rintro e w1 ⟨rfl, rfl⟩) | (with_reducible refine (unhide HA _).mono ?_; rintro e w1 ⟨rfl, rfl⟩) | (with_reducible refine (unhide HLb _).mono ?_; rintro e w1 ⟨rfl, rfl⟩))
              go_ret
              exact ⟨ret_no (unhide HX), rfl⟩

          · exact q3.elim

        · have hljI : ¬ (j : Int) < (s.size : Int) := by omega
          clear HG hba
          by_cases h19 : 19 < j - (i + 1)
          · have h19I : (19 : Int) < (j : Int) - ((i : Int) + 1) := by omega
            go_wp2_with (first | (with_reducible refine (unhide HA _).mono ?_; rintro e w1 ⟨rfl, rfl⟩))
            go_ret
            exact ⟨ret_no (unhide HNO (.inl h19)), rfl⟩
          have h19I : ¬ (19 : Int) < (j : Int) - ((i : Int) + 1) := by omega
          have hst : (1 < j - (i + 1) ∧ f0 = 48) ∨ (f0 = 48) ∨ (1 < j - (i + 1) ∧ (f0 == 48) = false ∧ f0 ≠ 48) ∨ (j - (i + 1) ≤ 1 ∧ (f0 == 48) = false ∧ f0 ≠ 48) ∨ (j - (i + 1) ≤ 1 ∧ f0 = 48 ∧ False) := by
            by_cases q1 : 1 < j - (i + 1)
            · by_cases q2 : f0 = 48
              · exact .inl ⟨q1, q2⟩
              · exact .inr (.inr (.inl ⟨q1, by simp [q2], q2⟩))
            · by_cases q2 : f0 = 48
              · exact .inr (.inl q2)
              · exact .inr (.inr (.inr (.inl ⟨by omega, by simp [q2], q2⟩)))
          rcases hst with ⟨q1, q2⟩ | q2 | ⟨q1, q2, q3⟩ | ⟨q1, q2, q3⟩ | ⟨q1, q2, q3⟩
          · have q1I : (1 : Int) < (j : Int) - ((i : Int) + 1) := by omega
            have HX := hide (unhide HNO (.inr (.inl ⟨q1, q2⟩)))
            subst q2
            go_wp2_with (first | (with_reducible refine (unhide HA _).mono ?_; rintro e w1 ⟨rfl, rfl⟩))
            go_ret
            exact ⟨ret_no (unhide HX), rfl⟩
          · have HX := hide (unhide HNO (.inr (.inr (.inl ⟨unhide H45, q2⟩))))
            subst q2
            by_cases q1 : 1 < j - (i + 1)
            · have q1I : (1 : Int) < (j : Int) - ((i : Int) + 1) := by omega
              go_wp2_with (first | (with_reducible refine (unhide HA _).mono ?_; rintro e w1 ⟨rfl, rfl⟩))
              go_ret
              exact ⟨ret_no (unhide HX), rfl⟩
            · have q1I : ¬ (1 : Int) < (j : Int) - ((i : Int) + 1) := by omega
              go_wp2_with (first | (with_reducible refine (unhide HA _).mono ?_; rintro e w1 ⟨rfl, rfl⟩))
              go_ret
              exact ⟨ret_no (unhide HX), rfl⟩
          · have q1I : (1 : Int) < (j : Int) - ((i : Int) + 1) := by omega
            have HQ3 := hide (show f0 ≠ 48 ∨ (j - (i + 1) ≤ 1 ∧ bt s i ≠ 45) from .inl q3)

            cases hlet : isLet c
            · have HLb := hide (unhide HL false hlet)
              have HLe := hide hlet
              clear hlet
              by_cases hbig : 9223372036854775808 < V
              · have hbigI : (9223372036854775808 : Int) < (V : Int) := by omega
                have HX := hide (unhide HNO (.inr (.inr (.inr (.inr (.inl hbig))))))
                go_wp2_with (first | (with_reducible refine (unhide HA _).mono ?_; rintro e w1 ⟨rfl, rfl⟩) | (with_reducible refine (unhide HLb _).mono ?_; rintro e w1 ⟨rfl, rfl⟩))
                go_ret
                exact ⟨ret_no (unhide HX), rfl⟩
              · have hbigI : ¬ (9223372036854775808 : Int) < (V : Int) := by omega
                have HX := hide (unhide HYES (by omega) (unhide HQ3) (unhide HLe) (by omega) (.inl (unhide H45)))
                go_wp2_with (first | (with_reducible refine (unhide HA _).mono ?_; rintro e w1 ⟨rfl, rfl⟩) | (with_reducible refine (unhide HLb _).mono ?_; rintro e w1 ⟨rfl, rfl⟩))
                go_ret
                exact ⟨ret_yes (unhide HX) (unhide HEnd).symm, rfl⟩
            · have HLb := hide (unhide HL true hlet)
              have HX := hide (unhide HNO (.inr (.inr (.inr (.inl hlet)))))
              clear hlet
              go_wp2_with (first | (with_reducible refine (unhide HA _).mono ?_; rintro e w1 ⟨rfl, rfl⟩) | (with_reducible refine (unhide HLb _).mono ?_; rintro e w1 ⟨rfl, rfl⟩))
              go_ret
              exact ⟨ret_no (unhide HX), rfl⟩

          · have q1I : ¬ (1 : Int) < (j : Int) - ((i : Int) + 1) := by omega
            have HQ3 := hide (show f0 ≠ 48 ∨ (j - (i + 1) ≤ 1 ∧ bt s i ≠ 45) from .inl q3)

            cases hlet : isLet c
            · have HLb := hide (unhide HL false hlet)
              have HLe := hide hlet
              clear hlet
              by_cases hbig : 9223372036854775808 < V
              · have hbigI : (9223372036854775808 : Int) < (V : Int) := by omega
                have HX := hide (unhide HNO (.inr (.inr (.inr (.inr (.inl hbig))))))
                go_wp2_with (first | (with_reducible refine (unhide HA _).mono ?_; rintro e w1 ⟨rfl, rfl⟩) | (with_reducible refine (unhide HLb _).mono ?_; rintro e w1 ⟨rfl, rfl⟩))
                go_ret
                exact ⟨ret_no (unhide HX), rfl⟩
              · have hbigI : ¬ (9223372036854775808 : Int) < (V : Int) := by omega
                have HX := hide (unhide HYES (by omega) (unhide HQ3) (unhide HLe) (by omega) (.inl (unhide H45)))
                go_wp2_with (first | (with_reducible refine (unhide HA _).mono ?_; rintro e w1 ⟨rfl, rfl⟩) | (with_reducible refine (unhide HLb _).mono ?_; rintro e w1 ⟨rfl, rfl⟩))
                go_ret
                exact ⟨ret_yes (unhide HX) (unhide HEnd).symm, rfl⟩
            · have HLb := hide (unhide HL true hlet)
              have HX := hide (unhide HNO (.inr (.inr (.inr (.inl hlet)))))
              clear hlet
              go_wp2_with (first | (with_reducible refine (unhide HA _).mono ?_; rintro e w1 ⟨rfl, rfl⟩) | (with_reducible refine (unhide HLb _).mono ?_; rintro e w1 ⟨rfl, rfl⟩))
              go_ret
              exact ⟨ret_no (unhide HX), rfl⟩

          · exact q3.elim



  · have hf : numFrom s i = i := by rw [numFrom, if_neg h45]
    rw [hf] at hd
    have hlt0 : i < s.size := dgP_lt s _ hd
    have hbf := get_bt s i hlt0
    have HF := hide hf
    have HD := hide hd
    have H45 := hide h45
    clear hf hd
    have h45b : (bt s i == 45) = false := beq_eq_false_iff_ne.2 h45
    clear hbf
    clear h45
    go_enter Tryd.func43, Tryd.ntmps43
    go_wp2
    go_loopg [1, 7] (s.size - i) (fun k iv vv wr => ∃ j : Nat, iv = .int .i64 (j : Nat) ∧ vv = .int .u64 (dval s i (min (j - i) 19) : Nat) ∧ j ≤ s.size ∧ k = s.size - j ∧ IsRun (dgP s) i j ∧ w = wr)
    case atStart => exact ⟨i, rfl, by rw [Nat.sub_self]; rfl, Nat.le_of_lt hlt0, rfl, IsRun.refl _ _, rfl⟩
    case round =>
      obtain ⟨j, rfl, rfl, hle, hk, hv, rfl⟩ := hrel
      have HK := hide hk
      have HV := hide hv
      have hge := hv.1
      clear hk hv
      have hc0 := bt_nonneg s j
      have hc1 := bt_le s j
      by_cases hN : dgP s j = true
      · have hlt := dgP_lt s j hN
        have hltI : (j : Int) < (s.size : Int) := by omega
        have hba := get_bt s j hlt
        have HR := hide ((unhide HV).step hN)
        have HG := hide (refDigit_is (bt s j) true hN hc0 hc1)
        have hdr := dig_range hN
        by_cases h19 : j - i < 19
        · have h19I : (j : Int) - ((i : Int)) < 19 := by omega
          have HE := hide (show dval s i (min (j + 1 - i) 19) = 10 * dval s i (min (j - i) 19) + (bt s j - 48).toNat by rw [show min (j + 1 - i) 19 = min (j - i) 19 + 1 by omega]; show 10 * _ + (bt s (i + min (j - i) 19) - 48).toNat = _; rw [show i + min (j - i) 19 = j by omega])
          have hV := dval_19 (s := s) (a := i) (n := min (j - i) 19) (fun k h1 h2 => (unhide HV).2 k h1 (by omega)) (by omega)
          clear hN
          generalize dval s i (min (j - i) 19) = V at *
          generalize bt s j = c at *
          go_wp2_with (first | (with_reducible refine (unhide HG _).mono ?_; rintro e w1 ⟨rfl, rfl⟩))
          go_roundg (s.size - (j + 1))
          case measure => have := unhide HK; omega
          case rel => exact ⟨j + 1, rfl, u64_eq (by rw [unhide HE]; omega), by omega, rfl, unhide HR, rfl⟩
        · have h19I : ¬ (j : Int) - ((i : Int)) < 19 := by omega
          have HE := hide (show min (j + 1 - i) 19 = min (j - i) 19 by omega)
          clear hN
          generalize hV : dval s i (min (j - i) 19) = V at *
          have HVV := hide hV
          clear hV
          generalize bt s j = c at *
          go_wp2_with (first | (with_reducible refine (unhide HG _).mono ?_; rintro e w1 ⟨rfl, rfl⟩))
          go_roundg (s.size - (j + 1))
          case measure => have := unhide HK; omega
          case rel => exact ⟨j + 1, rfl, u64_eq (by rw [unhide HE, unhide HVV]), by omega, rfl, unhide HR, rfl⟩
      · have hN2 : dgP s j = false := by simpa using hN
        have hsp : numEnd s i = j := by rw [numEnd, unhide HF]; exact spanAt_run (dgP_lt s) (Nat.le_of_lt hlt0) (unhide HV) hN2
        have HEnd := hide hsp
        have hlt : i < j := by
          by_cases e : i = j
          · exfalso; rw [← e, unhide HD] at hN2; cases hN2
          · omega
        have HG := hide (fun (h : j < s.size) => refDigit_is (bt s j) false hN2 hc0 hc1)
        have HA := hide (refAt_is s j (by omega) hs _ rfl)
        have HL := hide (fun b (hb : isLet (bt s j) = b) => refLetter_is (bt s j) b hb hc0 hc1)
        have hba := fun h => get_bt s j h
        have hNO := num_no (unhide HF) hsp hlt (unhide HD) (unhide HV)
        have hYES := num_yes (unhide HF) hsp hlt
        have hVlt := dval_lt s i (min (j - i) 19) (fun k h1 h2 => (unhide HV).2 k h1 (by omega))
        have hVl2 : dval s i (min (j - i) 19) < 10 ^ 19 := Nat.lt_of_lt_of_le hVlt (Nat.pow_le_pow_right (by omega) (by omega))
        have HNO := hide hNO
        have HYES := hide hYES
        clear hN hN2 hsp hNO hYES hVlt
        generalize dval s i (min (j - i) 19) = V at *
        generalize bt s j = c at *
        generalize bt s i = f0 at *
        have hnI : ((j : Int) - ((i : Int)) < 1) = False := by simp; omega
        by_cases hlj : j < s.size
        · have hljI : (j : Int) < (s.size : Int) := by omega
          have hba := hba hlj
          by_cases h19 : 19 < j - i
          · have h19I : (19 : Int) < (j : Int) - (i : Int) := by omega
            go_wp2_with (first | (with_reducible refine (unhide HG hlj _).mono ?_; rintro e w1 ⟨rfl, rfl⟩) | (with_reducible refine (unhide HA _).mono ?_; rintro e w1 ⟨rfl, rfl⟩))
            go_ret
            exact ⟨ret_no (unhide HNO (.inl h19)), rfl⟩
          have h19I : ¬ (19 : Int) < (j : Int) - (i : Int) := by omega
          have hst : (1 < j - i ∧ f0 = 48) ∨ (False) ∨ (1 < j - i ∧ (f0 == 48) = false ∧ f0 ≠ 48) ∨ (j - i ≤ 1 ∧ (f0 == 48) = false ∧ f0 ≠ 48) ∨ (j - i ≤ 1 ∧ f0 = 48 ∧ True) := by
            by_cases q1 : 1 < j - i
            · by_cases q2 : f0 = 48
              · exact .inl ⟨q1, q2⟩
              · exact .inr (.inr (.inl ⟨q1, by simp [q2], q2⟩))
            · by_cases q2 : f0 = 48
              · exact .inr (.inr (.inr (.inr ⟨by omega, q2, trivial⟩)))
              · exact .inr (.inr (.inr (.inl ⟨by omega, by simp [q2], q2⟩)))
          rcases hst with ⟨q1, q2⟩ | q2 | ⟨q1, q2, q3⟩ | ⟨q1, q2, q3⟩ | ⟨q1, q2, q3⟩
          · have q1I : (1 : Int) < (j : Int) - (i : Int) := by omega
            have HX := hide (unhide HNO (.inr (.inl ⟨q1, q2⟩)))
            subst q2
            go_wp2_with (first | (with_reducible refine (unhide HG hlj _).mono ?_; rintro e w1 ⟨rfl, rfl⟩) | (with_reducible refine (unhide HA _).mono ?_; rintro e w1 ⟨rfl, rfl⟩))
            go_ret
            exact ⟨ret_no (unhide HX), rfl⟩
          · exact q2.elim
          · have q1I : (1 : Int) < (j : Int) - (i : Int) := by omega
            have HQ3 := hide (show f0 ≠ 48 ∨ (j - i ≤ 1 ∧ f0 ≠ 45) from .inl q3)

            cases hlet : isLet c
            · have HLb := hide (unhide HL false hlet)
              have HLe := hide hlet
              clear hlet
              by_cases hbig : 9223372036854775808 < V
              · have hbigI : (9223372036854775808 : Int) < (V : Int) := by omega
                have HX := hide (unhide HNO (.inr (.inr (.inr (.inr (.inl hbig))))))
                go_wp2_with (first | (with_reducible refine (unhide HG hlj _).mono ?_; rintro e w1 ⟨rfl, rfl⟩) | (with_reducible refine (unhide HA _).mono ?_; rintro e w1 ⟨rfl, rfl⟩) | (with_reducible refine (unhide HLb _).mono ?_; rintro e w1 ⟨rfl, rfl⟩))
                go_ret
                exact ⟨ret_no (unhide HX), rfl⟩
              · have hbigI : ¬ (9223372036854775808 : Int) < (V : Int) := by omega
                by_cases hedge : V = 9223372036854775808
                · have HX := hide (unhide HNO (.inr (.inr (.inr (.inr (.inr ⟨unhide H45, hedge⟩))))))
                  subst hedge
                  go_wp2_with (first | (with_reducible refine (unhide HG hlj _).mono ?_; rintro e w1 ⟨rfl, rfl⟩) | (with_reducible refine (unhide HA _).mono ?_; rintro e w1 ⟨rfl, rfl⟩) | (with_reducible refine (unhide HLb _).mono ?_; rintro e w1 ⟨rfl, rfl⟩))
                  go_ret
                  exact ⟨ret_no (unhide HX), rfl⟩
                · have hedgeI : (((V : Int)) == 9223372036854775808) = false := by rw [beq_eq_false_iff_ne]; omega
                  have HX := hide (unhide HYES (by omega) (unhide HQ3) (unhide HLe) (by omega) (.inr hedge))
                  go_wp2_with (first | (with_reducible refine (unhide HG hlj _).mono ?_; rintro e w1 ⟨rfl, rfl⟩) | (with_reducible refine (unhide HA _).mono ?_; rintro e w1 ⟨rfl, rfl⟩) | (with_reducible refine (unhide HLb _).mono ?_; rintro e w1 ⟨rfl, rfl⟩))
                  go_ret
                  exact ⟨ret_yes (unhide HX) (unhide HEnd).symm, rfl⟩
            · have HLb := hide (unhide HL true hlet)
              have HX := hide (unhide HNO (.inr (.inr (.inr (.inl hlet)))))
              clear hlet
              go_wp2_with (first | (with_reducible refine (unhide HG hlj _).mono ?_; rintro e w1 ⟨rfl, rfl⟩) | (with_reducible refine (unhide HA _).mono ?_; rintro e w1 ⟨rfl, rfl⟩) | (with_reducible refine (unhide HLb _).mono ?_; rintro e w1 ⟨rfl, rfl⟩))
              go_ret
              exact ⟨ret_no (unhide HX), rfl⟩

          · have q1I : ¬ (1 : Int) < (j : Int) - (i : Int) := by omega
            have HQ3 := hide (show f0 ≠ 48 ∨ (j - i ≤ 1 ∧ f0 ≠ 45) from .inl q3)

            cases hlet : isLet c
            · have HLb := hide (unhide HL false hlet)
              have HLe := hide hlet
              clear hlet
              by_cases hbig : 9223372036854775808 < V
              · have hbigI : (9223372036854775808 : Int) < (V : Int) := by omega
                have HX := hide (unhide HNO (.inr (.inr (.inr (.inr (.inl hbig))))))
                go_wp2_with (first | (with_reducible refine (unhide HG hlj _).mono ?_; rintro e w1 ⟨rfl, rfl⟩) | (with_reducible refine (unhide HA _).mono ?_; rintro e w1 ⟨rfl, rfl⟩) | (with_reducible refine (unhide HLb _).mono ?_; rintro e w1 ⟨rfl, rfl⟩))
                go_ret
                exact ⟨ret_no (unhide HX), rfl⟩
              · have hbigI : ¬ (9223372036854775808 : Int) < (V : Int) := by omega
                by_cases hedge : V = 9223372036854775808
                · have HX := hide (unhide HNO (.inr (.inr (.inr (.inr (.inr ⟨unhide H45, hedge⟩))))))
                  subst hedge
                  go_wp2_with (first | (with_reducible refine (unhide HG hlj _).mono ?_; rintro e w1 ⟨rfl, rfl⟩) | (with_reducible refine (unhide HA _).mono ?_; rintro e w1 ⟨rfl, rfl⟩) | (with_reducible refine (unhide HLb _).mono ?_; rintro e w1 ⟨rfl, rfl⟩))
                  go_ret
                  exact ⟨ret_no (unhide HX), rfl⟩
                · have hedgeI : (((V : Int)) == 9223372036854775808) = false := by rw [beq_eq_false_iff_ne]; omega
                  have HX := hide (unhide HYES (by omega) (unhide HQ3) (unhide HLe) (by omega) (.inr hedge))
                  go_wp2_with (first | (with_reducible refine (unhide HG hlj _).mono ?_; rintro e w1 ⟨rfl, rfl⟩) | (with_reducible refine (unhide HA _).mono ?_; rintro e w1 ⟨rfl, rfl⟩) | (with_reducible refine (unhide HLb _).mono ?_; rintro e w1 ⟨rfl, rfl⟩))
                  go_ret
                  exact ⟨ret_yes (unhide HX) (unhide HEnd).symm, rfl⟩
            · have HLb := hide (unhide HL true hlet)
              have HX := hide (unhide HNO (.inr (.inr (.inr (.inl hlet)))))
              clear hlet
              go_wp2_with (first | (with_reducible refine (unhide HG hlj _).mono ?_; rintro e w1 ⟨rfl, rfl⟩) | (with_reducible refine (unhide HA _).mono ?_; rintro e w1 ⟨rfl, rfl⟩) | (with_reducible refine (unhide HLb _).mono ?_; rintro e w1 ⟨rfl, rfl⟩))
              go_ret
              exact ⟨ret_no (unhide HX), rfl⟩

          · have q1I : ¬ (1 : Int) < (j : Int) - (i : Int) := by omega
            have HQ3 := hide (show f0 ≠ 48 ∨ (j - i ≤ 1 ∧ f0 ≠ 45) from .inr ⟨q1, unhide H45⟩)
            subst q2
            cases hlet : isLet c
            · have HLb := hide (unhide HL false hlet)
              have HLe := hide hlet
              clear hlet
              by_cases hbig : 9223372036854775808 < V
              · have hbigI : (9223372036854775808 : Int) < (V : Int) := by omega
                have HX := hide (unhide HNO (.inr (.inr (.inr (.inr (.inl hbig))))))
                go_wp2_with (first | (with_reducible refine (unhide HG hlj _).mono ?_; rintro e w1 ⟨rfl, rfl⟩) | (with_reducible refine (unhide HA _).mono ?_; rintro e w1 ⟨rfl, rfl⟩) | (with_reducible refine (unhide HLb _).mono ?_; rintro e w1 ⟨rfl, rfl⟩))
                go_ret
                exact ⟨ret_no (unhide HX), rfl⟩
              · have hbigI : ¬ (9223372036854775808 : Int) < (V : Int) := by omega
                by_cases hedge : V = 9223372036854775808
                · have HX := hide (unhide HNO (.inr (.inr (.inr (.inr (.inr ⟨unhide H45, hedge⟩))))))
                  subst hedge
                  go_wp2_with (first | (with_reducible refine (unhide HG hlj _).mono ?_; rintro e w1 ⟨rfl, rfl⟩) | (with_reducible refine (unhide HA _).mono ?_; rintro e w1 ⟨rfl, rfl⟩) | (with_reducible refine (unhide HLb _).mono ?_; rintro e w1 ⟨rfl, rfl⟩))
                  go_ret
                  exact ⟨ret_no (unhide HX), rfl⟩
                · have hedgeI : (((V : Int)) == 9223372036854775808) = false := by rw [beq_eq_false_iff_ne]; omega
                  have HX := hide (unhide HYES (by omega) (unhide HQ3) (unhide HLe) (by omega) (.inr hedge))
                  go_wp2_with (first | (with_reducible refine (unhide HG hlj _).mono ?_; rintro e w1 ⟨rfl, rfl⟩) | (with_reducible refine (unhide HA _).mono ?_; rintro e w1 ⟨rfl, rfl⟩) | (with_reducible refine (unhide HLb _).mono ?_; rintro e w1 ⟨rfl, rfl⟩))
                  go_ret
                  exact ⟨ret_yes (unhide HX) (unhide HEnd).symm, rfl⟩
            · have HLb := hide (unhide HL true hlet)
              have HX := hide (unhide HNO (.inr (.inr (.inr (.inl hlet)))))
              clear hlet
              go_wp2_with (first | (with_reducible refine (unhide HG hlj _).mono ?_; rintro e w1 ⟨rfl, rfl⟩) | (with_reducible refine (unhide HA _).mono ?_; rintro e w1 ⟨rfl, rfl⟩) | (with_reducible refine (unhide HLb _).mono ?_; rintro e w1 ⟨rfl, rfl⟩))
              go_ret
              exact ⟨ret_no (unhide HX), rfl⟩


        · have hljI : ¬ (j : Int) < (s.size : Int) := by omega
          clear HG hba
          by_cases h19 : 19 < j - i
          · have h19I : (19 : Int) < (j : Int) - (i : Int) := by omega
            go_wp2_with (first | (with_reducible refine (unhide HA _).mono ?_; rintro e w1 ⟨rfl, rfl⟩))
            go_ret
            exact ⟨ret_no (unhide HNO (.inl h19)), rfl⟩
          have h19I : ¬ (19 : Int) < (j : Int) - (i : Int) := by omega
          have hst : (1 < j - i ∧ f0 = 48) ∨ (False) ∨ (1 < j - i ∧ (f0 == 48) = false ∧ f0 ≠ 48) ∨ (j - i ≤ 1 ∧ (f0 == 48) = false ∧ f0 ≠ 48) ∨ (j - i ≤ 1 ∧ f0 = 48 ∧ True) := by
            by_cases q1 : 1 < j - i
            · by_cases q2 : f0 = 48
              · exact .inl ⟨q1, q2⟩
              · exact .inr (.inr (.inl ⟨q1, by simp [q2], q2⟩))
            · by_cases q2 : f0 = 48
              · exact .inr (.inr (.inr (.inr ⟨by omega, q2, trivial⟩)))
              · exact .inr (.inr (.inr (.inl ⟨by omega, by simp [q2], q2⟩)))
          rcases hst with ⟨q1, q2⟩ | q2 | ⟨q1, q2, q3⟩ | ⟨q1, q2, q3⟩ | ⟨q1, q2, q3⟩
          · have q1I : (1 : Int) < (j : Int) - (i : Int) := by omega
            have HX := hide (unhide HNO (.inr (.inl ⟨q1, q2⟩)))
            subst q2
            go_wp2_with (first | (with_reducible refine (unhide HA _).mono ?_; rintro e w1 ⟨rfl, rfl⟩))
            go_ret
            exact ⟨ret_no (unhide HX), rfl⟩
          · exact q2.elim
          · have q1I : (1 : Int) < (j : Int) - (i : Int) := by omega
            have HQ3 := hide (show f0 ≠ 48 ∨ (j - i ≤ 1 ∧ f0 ≠ 45) from .inl q3)

            cases hlet : isLet c
            · have HLb := hide (unhide HL false hlet)
              have HLe := hide hlet
              clear hlet
              by_cases hbig : 9223372036854775808 < V
              · have hbigI : (9223372036854775808 : Int) < (V : Int) := by omega
                have HX := hide (unhide HNO (.inr (.inr (.inr (.inr (.inl hbig))))))
                go_wp2_with (first | (with_reducible refine (unhide HA _).mono ?_; rintro e w1 ⟨rfl, rfl⟩) | (with_reducible refine (unhide HLb _).mono ?_; rintro e w1 ⟨rfl, rfl⟩))
                go_ret
                exact ⟨ret_no (unhide HX), rfl⟩
              · have hbigI : ¬ (9223372036854775808 : Int) < (V : Int) := by omega
                by_cases hedge : V = 9223372036854775808
                · have HX := hide (unhide HNO (.inr (.inr (.inr (.inr (.inr ⟨unhide H45, hedge⟩))))))
                  subst hedge
                  go_wp2_with (first | (with_reducible refine (unhide HA _).mono ?_; rintro e w1 ⟨rfl, rfl⟩) | (with_reducible refine (unhide HLb _).mono ?_; rintro e w1 ⟨rfl, rfl⟩))
                  go_ret
                  exact ⟨ret_no (unhide HX), rfl⟩
                · have hedgeI : (((V : Int)) == 9223372036854775808) = false := by rw [beq_eq_false_iff_ne]; omega
                  have HX := hide (unhide HYES (by omega) (unhide HQ3) (unhide HLe) (by omega) (.inr hedge))
                  go_wp2_with (first | (with_reducible refine (unhide HA _).mono ?_; rintro e w1 ⟨rfl, rfl⟩) | (with_reducible refine (unhide HLb _).mono ?_; rintro e w1 ⟨rfl, rfl⟩))
                  go_ret
                  exact ⟨ret_yes (unhide HX) (unhide HEnd).symm, rfl⟩
            · have HLb := hide (unhide HL true hlet)
              have HX := hide (unhide HNO (.inr (.inr (.inr (.inl hlet)))))
              clear hlet
              go_wp2_with (first | (with_reducible refine (unhide HA _).mono ?_; rintro e w1 ⟨rfl, rfl⟩) | (with_reducible refine (unhide HLb _).mono ?_; rintro e w1 ⟨rfl, rfl⟩))
              go_ret
              exact ⟨ret_no (unhide HX), rfl⟩

          · have q1I : ¬ (1 : Int) < (j : Int) - (i : Int) := by omega
            have HQ3 := hide (show f0 ≠ 48 ∨ (j - i ≤ 1 ∧ f0 ≠ 45) from .inl q3)

            cases hlet : isLet c
            · have HLb := hide (unhide HL false hlet)
              have HLe := hide hlet
              clear hlet
              by_cases hbig : 9223372036854775808 < V
              · have hbigI : (9223372036854775808 : Int) < (V : Int) := by omega
                have HX := hide (unhide HNO (.inr (.inr (.inr (.inr (.inl hbig))))))
                go_wp2_with (first | (with_reducible refine (unhide HA _).mono ?_; rintro e w1 ⟨rfl, rfl⟩) | (with_reducible refine (unhide HLb _).mono ?_; rintro e w1 ⟨rfl, rfl⟩))
                go_ret
                exact ⟨ret_no (unhide HX), rfl⟩
              · have hbigI : ¬ (9223372036854775808 : Int) < (V : Int) := by omega
                by_cases hedge : V = 9223372036854775808
                · have HX := hide (unhide HNO (.inr (.inr (.inr (.inr (.inr ⟨unhide H45, hedge⟩))))))
                  subst hedge
                  go_wp2_with (first | (with_reducible refine (unhide HA _).mono ?_; rintro e w1 ⟨rfl, rfl⟩) | (with_reducible refine (unhide HLb _).mono ?_; rintro e w1 ⟨rfl, rfl⟩))
                  go_ret
                  exact ⟨ret_no (unhide HX), rfl⟩
                · have hedgeI : (((V : Int)) == 9223372036854775808) = false := by rw [beq_eq_false_iff_ne]; omega
                  have HX := hide (unhide HYES (by omega) (unhide HQ3) (unhide HLe) (by omega) (.inr hedge))
                  go_wp2_with (first | (with_reducible refine (unhide HA _).mono ?_; rintro e w1 ⟨rfl, rfl⟩) | (with_reducible refine (unhide HLb _).mono ?_; rintro e w1 ⟨rfl, rfl⟩))
                  go_ret
                  exact ⟨ret_yes (unhide HX) (unhide HEnd).symm, rfl⟩
            · have HLb := hide (unhide HL true hlet)
              have HX := hide (unhide HNO (.inr (.inr (.inr (.inl hlet)))))
              clear hlet
              go_wp2_with (first | (with_reducible refine (unhide HA _).mono ?_; rintro e w1 ⟨rfl, rfl⟩) | (with_reducible refine (unhide HLb _).mono ?_; rintro e w1 ⟨rfl, rfl⟩))
              go_ret
              exact ⟨ret_no (unhide HX), rfl⟩

          · have q1I : ¬ (1 : Int) < (j : Int) - (i : Int) := by omega
            have HQ3 := hide (show f0 ≠ 48 ∨ (j - i ≤ 1 ∧ f0 ≠ 45) from .inr ⟨q1, unhide H45⟩)
            subst q2
            cases hlet : isLet c
            · have HLb := hide (unhide HL false hlet)
              have HLe := hide hlet
              clear hlet
              by_cases hbig : 9223372036854775808 < V
              · have hbigI : (9223372036854775808 : Int) < (V : Int) := by omega
                have HX := hide (unhide HNO (.inr (.inr (.inr (.inr (.inl hbig))))))
                go_wp2_with (first | (with_reducible refine (unhide HA _).mono ?_; rintro e w1 ⟨rfl, rfl⟩) | (with_reducible refine (unhide HLb _).mono ?_; rintro e w1 ⟨rfl, rfl⟩))
                go_ret
                exact ⟨ret_no (unhide HX), rfl⟩
              · have hbigI : ¬ (9223372036854775808 : Int) < (V : Int) := by omega
                by_cases hedge : V = 9223372036854775808
                · have HX := hide (unhide HNO (.inr (.inr (.inr (.inr (.inr ⟨unhide H45, hedge⟩))))))
                  subst hedge
                  go_wp2_with (first | (with_reducible refine (unhide HA _).mono ?_; rintro e w1 ⟨rfl, rfl⟩) | (with_reducible refine (unhide HLb _).mono ?_; rintro e w1 ⟨rfl, rfl⟩))
                  go_ret
                  exact ⟨ret_no (unhide HX), rfl⟩
                · have hedgeI : (((V : Int)) == 9223372036854775808) = false := by rw [beq_eq_false_iff_ne]; omega
                  have HX := hide (unhide HYES (by omega) (unhide HQ3) (unhide HLe) (by omega) (.inr hedge))
                  go_wp2_with (first | (with_reducible refine (unhide HA _).mono ?_; rintro e w1 ⟨rfl, rfl⟩) | (with_reducible refine (unhide HLb _).mono ?_; rintro e w1 ⟨rfl, rfl⟩))
                  go_ret
                  exact ⟨ret_yes (unhide HX) (unhide HEnd).symm, rfl⟩
            · have HLb := hide (unhide HL true hlet)
              have HX := hide (unhide HNO (.inr (.inr (.inr (.inl hlet)))))
              clear hlet
              go_wp2_with (first | (with_reducible refine (unhide HA _).mono ?_; rintro e w1 ⟨rfl, rfl⟩) | (with_reducible refine (unhide HLb _).mono ?_; rintro e w1 ⟨rfl, rfl⟩))
              go_ret
              exact ⟨ret_no (unhide HX), rfl⟩




end Go.Proofs.YtknebkncepgppaaDoor
