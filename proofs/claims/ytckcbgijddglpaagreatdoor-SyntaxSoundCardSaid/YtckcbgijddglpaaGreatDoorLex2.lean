/- The reader goes on: white space; a name; digits. -/
import Derived.Test.YtckcbgijddglpaaGreatDoorLex1
namespace Go.Proofs.YtckcbgijddglpaaGreatDoor
open Go.ChangeShapes Go.WideShapes Go.ChangeAt Go.RowKit Go.PlainAid
set_option linter.unusedVariables false

set_option maxRecDepth 100000 in
set_option maxHeartbeats 2000000 in
theorem skip_any {w : World} {g : Nat} {s : ByteArray} {a : Nat} {v : Value} (h : LX w g s a v) (ha : a ≤ s.size) (hs : s.size ≤ 1000000000) :
    Calls Tryz.prog 27 #[.pointer (some ⟨g, 0, none⟩)] w fun e w' => e = .returned (.tuple #[]) ∧ LX w' g s (skipAt s a) v ∧ Fr g w w' := by
  have HH := hide h
  have HS := hide hs
  clear h
  go_enter Tryz.func27, Tryz.ntmps27
  go_wp2
  go_loopg [2] (s.size - a) (fun k (_ : Value) wr => ∃ a', LX wr g s a' v ∧ Fr g w wr ∧ a' ≤ s.size ∧ k = s.size - a' ∧ skipAt s a' = skipAt s a)
  case atStart => exact ⟨a, unhide HH, Fr.refl g w, ha, rfl, rfl⟩
  case round =>
    obtain ⟨a', hx, hf, hle, hk, hv⟩ := hrel
    obtain ⟨h0, h1, h2, h3⟩ := hx.cells
    have HX := hide hx
    have HF := hide hf
    have HV := hide hv
    have HK := hide hk
    have HD := hide (fun n => dash_any hx hle hs _ rfl n)
    have HP := hide (fun n => peek0_any hx hle hs (bt s a') rfl n)
    clear hx hf hv hk
    by_cases hw : isWh (bt s a') = true
    · have hlt := lt_of_bt (wh_ne hw)
      have HT := hide (skipAt_white hw)
      simp only [isWh, Bool.or_eq_true, decide_eq_true_eq] at hw
      generalize bt s a' = c at hw HP
      clear HD
      rcases hw with ((rfl | rfl) | rfl) | rfl
      all_goals
        go_wp2_with fail
        refine (unhide HP 0).mono ?_
        rintro e w1 ⟨rfl, m, rfl⟩
        go_wp2
        go_roundg (s.size - (a' + 1))
        case measure => have := unhide HK; omega
        case rel => exact ⟨a' + 1, ((unhide HX).drewN _).add1, (((unhide HF).drewN _).set 1 _), by omega, rfl, by rw [← unhide HV, unhide HT]⟩
    · simp only [isWh, Bool.or_eq_true, decide_eq_true_eq, not_or] at hw
      have HW := hide hw
      have e1 : (bt s a' == 32) = false := beq_eq_false_iff_ne.2 hw.1.1.1
      have e2 : (bt s a' == 9) = false := beq_eq_false_iff_ne.2 hw.1.1.2
      have e3 : (bt s a' == 10) = false := beq_eq_false_iff_ne.2 hw.1.2
      have e4 : (bt s a' == 13) = false := beq_eq_false_iff_ne.2 hw.2
      clear hw
      by_cases hd : bt s a' = 45 ∧ bt s (a' + 1) = 45
      · rw [decide_eq_true hd] at HD
        have hle2 := two_le hd.2
        have HT := hide (skipAt_comment hd.1 hd.2)
        have HC := hide (fun n => comment_any ((unhide HX).drewN n) hle2 hs)
        have hge := hide (And.intro (cmtAt_ge s (a' + 2)) (cmtAt_le hle2))
        clear hd
        generalize bt s a' = c at e1 e2 e3 e4 HP HD
        go_wp2_with fail
        refine (unhide HP 0).mono ?_
        rintro e w1 ⟨rfl, m, rfl⟩
        go_wp2_with fail
        refine (unhide HD _).mono ?_
        rintro e w1 ⟨rfl, m2, rfl⟩
        go_wp2_with fail
        refine (unhide HC _).mono ?_
        rintro e w2 ⟨rfl, hx2, hf2⟩
        have HX2 := hide hx2
        have HF2 := hide hf2
        clear hx2 hf2
        go_wp2
        have hge := unhide hge
        go_roundg (s.size - cmtAt s (a' + 2))
        case measure => have := unhide HK; omega
        case rel => exact ⟨cmtAt s (a' + 2), unhide HX2, ((unhide HF).drewN _).trans (unhide HF2), hge.2, rfl, by rw [← unhide HV, unhide HT]⟩
      · rw [decide_eq_false hd] at HD
        have HT := hide (skipAt_stop (s := s) (i := a') (by have := unhide HW; simp [isWh, this]) hd)
        clear hd
        generalize bt s a' = c at e1 e2 e3 e4 HP HD
        go_wp2_with fail
        refine (unhide HP 0).mono ?_
        rintro e w1 ⟨rfl, m, rfl⟩
        go_wp2_with fail
        refine (unhide HD _).mono ?_
        rintro e w1 ⟨rfl, m2, rfl⟩
        go_wp2
        (try simp only [Exit.inBlock, Exit.then]); refine bodyPost_ret (results_none rfl _ _ _) rfl ?_
        refine ⟨rfl, ?_, ((unhide HF).drewN _)⟩
        rw [← unhide HV, unhide HT]
        exact (unhide HX).drewN _
end Go.Proofs.YtckcbgijddglpaaGreatDoor
