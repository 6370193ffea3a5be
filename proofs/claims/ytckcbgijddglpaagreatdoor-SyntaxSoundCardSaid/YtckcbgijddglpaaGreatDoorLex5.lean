/- The reader takes digits of 16. -/
import Derived.Test.YtckcbgijddglpaaGreatDoorLex4
namespace Go.Proofs.YtckcbgijddglpaaGreatDoor
open Go.ChangeShapes Go.WideShapes Go.ChangeAt Go.RowKit Go.PlainAid
set_option linter.unusedVariables false

theorem hexs_any {w : World} {g : Nat} {s : ByteArray} {a : Nat} {v : Value} (h : LX w g s a v) (ha : a ≤ s.size) (hs : s.size ≤ 1000000000) (c : Bool) (hc : decide (bt s a = 39 ∧ bt s (a + 1) = 72) = c) (n : Nat) :
    Calls Tryz.prog 55 #[.pointer (some ⟨g, 0, none⟩), .string ⟨#[39, 72]⟩] (w.drewN n) fun e w' => e = .returned (.bool c) ∧ ∃ m, w' = (w.drewN n).drewN m := by
  rw [← hc, ← starts_hex]
  exact follows_any _ (h.drewN n) ha hs
theorem hxP_cases (c : Int) : (isDig c = true ∧ isHex c = true) ∨ (isDig c = false ∧ 65 ≤ c ∧ c ≤ 70 ∧ isHex c = true) ∨ (isDig c = false ∧ c < 65 ∧ isHex c = false) ∨ (isDig c = false ∧ 65 ≤ c ∧ 70 < c ∧ isHex c = false) := by
  unfold isHex
  by_cases h1 : isDig c = true
  · exact .inl ⟨h1, by simp [h1]⟩
  · have h2 : isDig c = false := by simpa using h1
    by_cases h3 : 65 ≤ c
    · by_cases h4 : c ≤ 70
      · exact .inr (.inl ⟨h2, h3, h4, by simp [h2, h3, h4]⟩)
      · exact .inr (.inr (.inr ⟨h2, h3, by omega, by simp [h2, h4]⟩))
    · exact .inr (.inr (.inl ⟨h2, by omega, by simp [h2, h3]⟩))

set_option maxRecDepth 100000 in
set_option maxHeartbeats 4000000 in
theorem hex_any {w : World} {g : Nat} {s : ByteArray} {a : Nat} {v : Value} (h : LX w g s a v) (ha : a < s.size) (hs : s.size ≤ 1000000000) :
    Calls Tryz.prog 62 #[.pointer (some ⟨g, 0, none⟩)] w (TokP w g s v (hexOk s a) (sub s (a + 1) (hexEnd s a)) (hexEnd s a + 2)) := by
  have HH := hide h
  have HP0 := hide (peek00_any h.add1 ha hs (bt s (a + 1)) rfl)
  obtain ⟨h0, h1, h2, h3⟩ := h.cells
  clear h
  go_enter Tryz.func62, Tryz.ntmps62
  go_wp2_with fail
  with_reducible refine (unhide HP0).mono ?_
  rintro e w1 ⟨rfl, m0, rfl⟩
  go_wp2
  clear h0 h1 h2 h3
  go_loopg [5] (s.size - (a + 1)) (fun k cv wr => ∃ a', cv = .int .u8 (bt s a') ∧ LX wr g s a' v ∧ Fr g w wr ∧ IsRun (hxP s) (a + 1) a' ∧ a' ≤ s.size ∧ k = s.size - a')
  case atStart => exact ⟨a + 1, rfl, (unhide HH).add1.drewN _, ((Fr.refl g w).set 1 _).drewN _, IsRun.refl _ _, by omega, rfl⟩
  case round =>
    obtain ⟨a', rfl, hx, hf, hv, hle, hk⟩ := hrel
    obtain ⟨h0, h1, h2, h3⟩ := hx.cells
    have HX := hide hx
    have HF := hide hf
    have HV := hide hv
    have HK := hide hk
    have hc0 := bt_nonneg s a'
    have hc1 := bt_le s a'
    have HPn := hide (fun (hlt : a' + 1 ≤ s.size) => peek00_any (a := a' + 1) hx.add1 hlt hs (bt s (a' + 1)) rfl)
    have HS := hide (fun n => hexs_any hx hle hs _ rfl n)
    clear hx hf hv hk
    have hcase := hxP_cases (bt s a')
    have hgo : isHex (bt s a') = true → a' + 1 ≤ s.size ∧ IsRun (hxP s) (a + 1) (a' + 1) := fun q => ⟨hxP_lt s a' q, (unhide HV).step q⟩
    have hstop : isHex (bt s a') = false → hexEnd s a = a' := fun q => spanAt_run (hxP_lt s) (by omega) (unhide HV) q
    have HGo := hide hgo
    have HStop := hide hstop
    clear hgo hstop
    have hge := (unhide HV).1
    have HCk := hide (show hexOk s a = (decide (hexEnd s a = a') && decide ((a' - (a + 1)) % 2 = 0 ∧ bt s a' = 39 ∧ bt s (a' + 1) = 72) || !decide (hexEnd s a = a') && hexOk s a) by
      by_cases q : hexEnd s a = a'
      · simp [hexOk, q]
      · simp [q])
    generalize hcc : bt s a' = c at hcase hc0 hc1 HGo HStop HCk HS
    generalize hch : decide (c = 39 ∧ bt s (a' + 1) = 72) = hb at HS
    have HCh := hide hch
    have HCC := hide hcc
    clear hch hcc
    rcases hcase with ⟨q1, q2⟩ | ⟨q1, q3, q4, q2⟩ | ⟨q1, q3, q2⟩ | ⟨q1, q3, q4, q2⟩
    · have HG := hide (digit_is c true q1 hc0 hc1)
      obtain ⟨hlt, hrn⟩ := unhide HGo q2
      have HR := hide hrn
      clear q1 q2 hrn
      go_wp2_with (first | (with_reducible refine (unhide HG _).mono ?_; rintro e w1 ⟨rfl, rfl⟩) | (with_reducible refine (unhide HPn hlt).mono ?_; rintro e w1 ⟨rfl, m, rfl⟩))
      go_roundg (s.size - (a' + 1))
      case measure => have := unhide HK; omega
      case rel => exact ⟨a' + 1, rfl, (unhide HX).add1.drewN _, ((unhide HF).set 1 _).drewN _, unhide HR, hlt, rfl⟩
    · have HG := hide (digit_is c false q1 hc0 hc1)
      obtain ⟨hlt, hrn⟩ := unhide HGo q2
      have HR := hide hrn
      clear q1 q2 hrn
      go_wp2_with (first | (with_reducible refine (unhide HG _).mono ?_; rintro e w1 ⟨rfl, rfl⟩) | (with_reducible refine (unhide HPn hlt).mono ?_; rintro e w1 ⟨rfl, m, rfl⟩))
      go_roundg (s.size - (a' + 1))
      case measure => have := unhide HK; omega
      case rel => exact ⟨a' + 1, rfl, (unhide HX).add1.drewN _, ((unhide HF).set 1 _).drewN _, unhide HR, hlt, rfl⟩
    all_goals
      have HG := hide (digit_is c false q1 hc0 hc1)
      have HEnd := hide (unhide HStop q2)
      clear q1 q2
      have fin : ∀ (x : ByteArray) (b : Bool) (a2 : Nat) (W2 : World), b = hexOk s a → (b = true → x = sub s (a + 1) a' ∧ a2 = a' + 2) → LX W2 g s a2 v → Fr g w W2 → TokP w g s v (hexOk s a) (sub s (a + 1) (hexEnd s a)) (hexEnd s a + 2) (.returned (.tuple #[.string x, .bool b])) W2 := by
        intro x b a2 W2 hb hx2 h1 h2
        rw [unhide HEnd, ← hb]
        exact ⟨x, a2, rfl, h1, h2, hx2⟩
      have HFin := hide fin
      have hok : hexOk s a = decide ((a' - (a + 1)) % 2 = 0 ∧ c = 39 ∧ bt s (a' + 1) = 72) := by rw [unhide HCk, unhide HEnd]; simp
      have HOk := hide hok
      clear fin hok
      by_cases hr : (a' - (a + 1)) % 2 = 0
      · have hrI : ((a' - (a + 1) : Nat) : Int) % 2 = 0 := by omega
        have HR := hide hr
        clear hr
        cases hb
        · go_wp2_with (first | (with_reducible refine (unhide HG _).mono ?_; rintro e w1 ⟨rfl, rfl⟩))
          go_quiet (fail)
          go_wp2_with fail
          with_reducible refine (unhide HS _).mono ?_
          rintro e w1 ⟨rfl, m, rfl⟩
          go_wp2
          go_ret2
          refine unhide HFin _ _ _ _ ?_ (fun q => by cases q) ((unhide HX).drewN _) ((unhide HF).drewN _)
          rw [unhide HOk, eq_comm, decide_eq_false_iff_not]
          exact fun q => (of_decide_eq_false (unhide HCh)) q.2
        · go_wp2_with (first | (with_reducible refine (unhide HG _).mono ?_; rintro e w1 ⟨rfl, rfl⟩))
          go_quiet (fail)
          go_wp2_with fail
          with_reducible refine (unhide HS _).mono ?_
          rintro e w1 ⟨rfl, m, rfl⟩
          go_wp2
          go_ret2
          refine unhide HFin _ _ _ _ ?_ (fun _ => ⟨rfl, rfl⟩) ((unhide HX).drewN _).add2 (((unhide HF).drewN _).set 1 _)
          rw [unhide HOk, eq_comm, decide_eq_true_iff]
          exact ⟨unhide HR, of_decide_eq_true (unhide HCh)⟩
      · have hrI : ((a' - (a + 1) : Nat) : Int) % 2 = 1 := by omega
        have HR := hide hr
        clear hr
        go_wp2_with (first | (with_reducible refine (unhide HG _).mono ?_; rintro e w1 ⟨rfl, rfl⟩))
        go_quiet (fail)
        go_wp2
        go_ret2
        refine unhide HFin _ _ _ _ ?_ (fun q => by cases q) ((unhide HX).drewN _) ((unhide HF).drewN _)
        rw [unhide HOk, eq_comm, decide_eq_false_iff_not]
        exact fun q => (unhide HR) q.1
end Go.Proofs.YtckcbgijddglpaaGreatDoor
