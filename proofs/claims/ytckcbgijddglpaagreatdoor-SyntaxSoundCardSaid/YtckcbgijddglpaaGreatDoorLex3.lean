/- The reader takes a name. -/
import Derived.Test.YtckcbgijddglpaaGreatDoorLex2
namespace Go.Proofs.YtckcbgijddglpaaGreatDoor
open Go.ChangeShapes Go.WideShapes Go.ChangeAt Go.RowKit Go.PlainAid
set_option linter.unusedVariables false

theorem peek00_any {w : World} {g : Nat} {s : ByteArray} {a : Nat} {v : Value} (h : LX w g s a v) (ha : a ≤ s.size) (hs : s.size ≤ 1000000000) (c : Int) (hc : bt s a = c) :
    Calls Tryz.prog 54 #[.pointer (some ⟨g, 0, none⟩), .int .i64 0] w fun e w' => e = .returned (.int .u8 c) ∧ ∃ m, w' = w.drewN m := peek0_any h ha hs c hc 0
theorem letter_is (c : Int) (b : Bool) (hb : isLet c = b) (h0 : 0 ≤ c) (h1 : c ≤ 255) : ∀ w, Calls Tryz.prog 57 #[.int .u8 c] w fun e w' => e = .returned (.bool b) ∧ w' = w := fun w => hb ▸ letter_any c w h0 h1
theorem digit_is (c : Int) (b : Bool) (hb : isDig c = b) (h0 : 0 ≤ c) (h1 : c ≤ 255) : ∀ w, Calls Tryz.prog 60 #[.int .u8 c] w fun e w' => e = .returned (.bool b) ∧ w' = w := fun w => hb ▸ digit_any c w h0 h1
theorem refLetter_is (c : Int) (b : Bool) (hb : isLet c = b) (h0 : 0 ≤ c) (h1 : c ≤ 255) : ∀ w, Calls Tryz.prog 46 #[.int .u8 c] w fun e w' => e = .returned (.bool b) ∧ w' = w := fun w => hb ▸ refLetter_any c w h0 h1
theorem refDigit_is (c : Int) (b : Bool) (hb : isDig c = b) (h0 : 0 ≤ c) (h1 : c ≤ 255) : ∀ w, Calls Tryz.prog 49 #[.int .u8 c] w fun e w' => e = .returned (.bool b) ∧ w' = w := fun w => hb ▸ refDigit_any c w h0 h1
theorem suffix_dash (s : ByteArray) {i j : Nat} (hi : i < j) (hj : j ≤ s.size) : Lib.hasSuffix (sub s i j).data.toList [45] = decide (bt s (j - 1) = 45) := by
  rw [Bool.eq_iff_iff, decide_eq_true_iff, Lib.hasSuffix, List.isSuffixOf_iff_suffix]
  obtain ⟨c, hc, hb⟩ := bt_eq_of (s := s) (k := j - 1) (by omega)
  have hl : (sub s i j).data.toList ≠ [] := by
    intro e
    have := congrArg List.length e
    rw [← Lib.size_eq, sub_size _ _ _ hj] at this
    simp at this; omega
  have hlast : (sub s i j).data.toList.getLast hl = c := by
    rw [List.getLast_eq_getElem]
    have h2 : (sub s i j).data.toList[(sub s i j).data.toList.length - 1]? = some c := by
      rw [← Lib.size_eq, sub_size _ _ _ hj, sub_list _ _ _ hj, List.getElem?_drop, List.getElem?_take_of_lt (by omega)]
      rw [show i + (j - i - 1) = j - 1 by omega]; exact hc
    rw [List.getElem?_eq_getElem (by have := List.length_pos_iff.2 hl; omega)] at h2
    exact Option.some.inj h2
  rw [hb]
  constructor
  · rintro ⟨t, ht⟩
    have : (sub s i j).data.toList.getLast hl = 45 := by
      simp only [← ht]; rw [List.getLast_append]; rfl
    rw [hlast] at this
    rw [this]; rfl
  · intro h
    have hc : c = 45 := by
      apply UInt8.toNat_inj.1
      have : ((45 : UInt8).toNat : Int) = 45 := rfl
      omega
    exact ⟨_, by conv => rhs; rw [← List.dropLast_concat_getLast hl, hlast, hc]⟩
theorem nmP_false {s : ByteArray} {a : Nat} (h1 : isLet (bt s a) = false) (h2 : isDig (bt s a) = false) (h3 : (bt s a == 45) = false ∨ (bt s (a + 1) != 45) = false) : nmP s a = false := by
  simp only [nmP, h1, h2, Bool.false_or]
  rcases h3 with h3 | h3
  · rw [decide_eq_false (beq_eq_false_iff_ne.1 h3)]; rfl
  · have : bt s (a + 1) = 45 := by simpa using h3
    rw [this]; simp

set_option maxRecDepth 100000 in
set_option maxHeartbeats 4000000 in
theorem name_any {w : World} {g : Nat} {s : ByteArray} {a : Nat} {v : Value} (h : LX w g s a v) (ha : a < s.size) (hl : isLet (bt s a) = true) (hs : s.size ≤ 1000000000) :
    Calls Tryz.prog 58 #[.pointer (some ⟨g, 0, none⟩)] w fun e w' => e = .returned (.tuple #[.string (sub s a (nameEnd s a)), .bool (nameOk s a)]) ∧
      LX w' g s (nameEnd s a) v ∧ Fr g w w' := by
  have HH := hide h
  have HS := hide hs
  have hla : nmP s a = true := by simp [nmP, hl]
  have HLA := hide hla
  obtain ⟨h0, h1, h2, h3⟩ := h.cells
  clear h hl hla
  go_enter Tryz.func58, Tryz.ntmps58
  go_wp2
  clear h0 h1 h2 h3
  go_loopg [] (s.size - a) (fun k wr => ∃ a', LX wr g s a' v ∧ Fr g w wr ∧ IsRun (nmP s) a a' ∧ a' ≤ s.size ∧ k = s.size - a')
  case atStart => exact ⟨a, unhide HH, Fr.refl g w, IsRun.refl _ _, Nat.le_of_lt ha, rfl⟩
  case round =>
    obtain ⟨a', hx, hf, hv, hle, hk⟩ := hrel
    obtain ⟨h0, h1, h2, h3⟩ := hx.cells
    have HX := hide hx
    have HF := hide hf
    have HV := hide hv
    have HK := hide hk
    have HP := hide (fun n => peek0_any hx hle hs (bt s a') rfl n)
    have HPz := hide (peek00_any hx hle hs (bt s a') rfl)
    have HP1 := hide (fun n => peek1_any hx hle hs (bt s (a' + 1)) rfl n)
    have hc0 := bt_nonneg s a'
    have hc1 := bt_le s a'
    have hd0 := bt_nonneg s (a' + 1)
    have hd1 := bt_le s (a' + 1)
    clear hx hf hv hk
    by_cases hN : nmP s a' = true
    · have hlt := nmP_lt s a' hN
      have HR := hide ((unhide HV).step hN)
      by_cases q1 : isLet (bt s a') = true
      · have HL := hide (letter_is _ _ q1 hc0 hc1)
        clear q1 hN
        generalize bt s a' = c at *
        go_wp2_with (first | (with_reducible refine (unhide HPz).mono ?_; rintro e w1 ⟨rfl, m, rfl⟩) | (with_reducible refine (unhide HL _).mono ?_; rintro e w1 ⟨rfl, rfl⟩))
        go_roundg (s.size - (a' + 1))
        case measure => have := unhide HK; omega
        case rel => exact ⟨a' + 1, ((unhide HX).drewN _).add1, (((unhide HF).drewN _).set 1 _), unhide HR, by omega, rfl⟩
      · have HL := hide (letter_is (bt s a') false (by simpa using q1) hc0 hc1)
        by_cases q2 : isDig (bt s a') = true
        · have HG := hide (digit_is (bt s a') true q2 hc0 hc1)
          clear q1 q2 hN
          generalize bt s a' = c at *
          go_wp2_with (first | (with_reducible refine (unhide HPz).mono ?_; rintro e w1 ⟨rfl, m, rfl⟩) | (with_reducible refine (unhide HP _).mono ?_; rintro e w1 ⟨rfl, m, rfl⟩) | (with_reducible refine (unhide HL _).mono ?_; rintro e w1 ⟨rfl, rfl⟩) | (with_reducible refine (unhide HG _).mono ?_; rintro e w1 ⟨rfl, rfl⟩))
          go_roundg (s.size - (a' + 1))
          case measure => have := unhide HK; omega
          case rel => exact ⟨a' + 1, ((unhide HX).drewN _).add1, (((unhide HF).drewN _).set 1 _), unhide HR, by omega, rfl⟩
        · have HG := hide (digit_is (bt s a') false (by simpa using q2) hc0 hc1)
          have q3 : bt s a' = 45 ∧ bt s (a' + 1) ≠ 45 := by
            simp only [nmP, Bool.or_eq_true, Bool.and_eq_true, decide_eq_true_eq, Bool.not_eq_true', decide_eq_false_iff_not] at hN
            rcases hN with (h | h) | h
            · exact absurd h q1
            · exact absurd h q2
            · exact h
          have e45 : (bt s (a' + 1) != 45) = true := by rw [bne_iff_ne]; exact q3.2
          have q4 := q3.1
          clear q1 q2 q3 hN
          generalize bt s (a' + 1) = c1 at *
          generalize bt s a' = c at *
          subst q4
          go_wp2_with (first | (with_reducible refine (unhide HPz).mono ?_; rintro e w1 ⟨rfl, m, rfl⟩) | (with_reducible refine (unhide HP _).mono ?_; rintro e w1 ⟨rfl, m, rfl⟩) | (with_reducible refine (unhide HP1 _).mono ?_; rintro e w1 ⟨rfl, m, rfl⟩) | (with_reducible refine (unhide HL _).mono ?_; rintro e w1 ⟨rfl, rfl⟩) | (with_reducible refine (unhide HG _).mono ?_; rintro e w1 ⟨rfl, rfl⟩))
          go_roundg (s.size - (a' + 1))
          case measure => have := unhide HK; omega
          case rel => exact ⟨a' + 1, ((unhide HX).drewN _).add1, (((unhide HF).drewN _).set 1 _), unhide HR, by omega, rfl⟩
    · have hN2 : nmP s a' = false := by simpa using hN
      have hsp := spanAt_run (nmP_lt s) (Nat.le_of_lt ha) (unhide HV) hN2
      have hlt : a < a' := by
        have := (unhide HV).1
        by_cases e : a = a'
        · subst e; rw [unhide HLA] at hN2; cases hN2
        · omega
      have HSF := hide (suffix_dash s hlt hle)
      have HEnd : Hid (nameEnd s a = a') := hsp
      have q1 : isLet (bt s a') = false := by
        by_cases q : isLet (bt s a') = true
        · simp [nmP, q] at hN2
        · simpa using q
      have q2 : isDig (bt s a') = false := by
        by_cases q : isDig (bt s a') = true
        · simp [nmP, q] at hN2
        · simpa using q
      have HL := hide (letter_is (bt s a') false q1 hc0 hc1)
      have HG := hide (digit_is (bt s a') false q2 hc0 hc1)
      have q3 : ((bt s a' == 45) = true ∧ (bt s (a' + 1) != 45) = false) ∨ (bt s a' == 45) = false := by
        by_cases q : bt s a' = 45
        · by_cases q' : bt s (a' + 1) = 45
          · exact .inl ⟨by simp [q], by simp [q']⟩
          · exfalso; simp [nmP, q, q'] at hN2
        · exact .inr (by simp [q])
      clear q1 q2 hN hN2 hsp
      generalize bt s (a' + 1) = c1 at *
      generalize bt s a' = c at *
      generalize hbl : decide (bt s (a' - 1) = 45) = bl at HSF
      have HBL := hide hbl
      clear hbl
      have HSZ := hide (sub_size s a a' hle)
      have HS1 := hide (show ∀ w, Calls Tryz.prog 82 #[.string (s.extract a a'), .string ⟨#[45]⟩] w fun e w' => e = .returned (.bool bl) ∧ w' = w from fun w => by
        rw [← unhide HSF]; exact Tryz.strings_HasSuffix (s.extract a a') ⟨#[45]⟩ w (by have h : (s.extract a a').size = a' - a := unhide HSZ; omega))
      have fin : ∀ b : Bool, b = nameOk s a → ∀ W : World, LX W g s a' v → Fr g w W →
          (Ending.returned (.tuple #[.string (s.extract a a'), .bool b]) = .returned (.tuple #[.string (sub s a (nameEnd s a)), .bool (nameOk s a)]) ∧ LX W g s (nameEnd s a) v ∧ Fr g w W) := by
        intro b hb W h1 h2
        rw [← hb, unhide HEnd]
        exact ⟨rfl, h1, h2⟩
      have HFin := hide fin
      clear fin
      by_cases hlen : a' - a ≤ 60
      · have hlenI : ((a' - a : Nat) : Int) ≤ 60 := by omega
        rcases q3 with ⟨e1, e2⟩ | e1
        all_goals
          go_wp2_with (first | (with_reducible refine (unhide HPz).mono ?_; rintro e w1 ⟨rfl, m, rfl⟩) | (with_reducible refine (unhide HP _).mono ?_; rintro e w1 ⟨rfl, m, rfl⟩) | (with_reducible refine (unhide HP1 _).mono ?_; rintro e w1 ⟨rfl, m, rfl⟩) | (with_reducible refine (unhide HL _).mono ?_; rintro e w1 ⟨rfl, rfl⟩) | (with_reducible refine (unhide HG _).mono ?_; rintro e w1 ⟨rfl, rfl⟩))
          go_quiet (fail)
          go_wp2_with fail
          refine (unhide HS1 _).mono ?_
          rintro e w1 ⟨rfl, rfl⟩
          go_wp2
          go_ret2
          refine unhide HFin _ ?_ _ ((unhide HX).drewN _) ((unhide HF).drewN _)
          rw [nameOk, unhide HEnd, ← unhide HBL]
          by_cases q : bt s (a' - 1) = 45 <;> simp [q, hlen]
      · have hlenI : ¬ ((a' - a : Nat) : Int) ≤ 60 := by omega
        rcases q3 with ⟨e1, e2⟩ | e1
        all_goals
          go_wp2_with (first | (with_reducible refine (unhide HPz).mono ?_; rintro e w1 ⟨rfl, m, rfl⟩) | (with_reducible refine (unhide HP _).mono ?_; rintro e w1 ⟨rfl, m, rfl⟩) | (with_reducible refine (unhide HP1 _).mono ?_; rintro e w1 ⟨rfl, m, rfl⟩) | (with_reducible refine (unhide HL _).mono ?_; rintro e w1 ⟨rfl, rfl⟩) | (with_reducible refine (unhide HG _).mono ?_; rintro e w1 ⟨rfl, rfl⟩))
          go_quiet (fail)
          go_wp2
          go_ret2
          refine unhide HFin _ ?_ _ ((unhide HX).drewN _) ((unhide HF).drewN _)
          rw [nameOk, unhide HEnd]
          simp [hlen]
end Go.Proofs.YtckcbgijddglpaaGreatDoor
