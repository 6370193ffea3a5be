/- The walk of LexTokens. -/
import Derived.Test.YtknebkncepgppaaDoorLexW2
namespace Go.Proofs.YtknebkncepgppaaDoor
open Go.ChangeShapes Go.WideShapes Go.ChangeAt Go.RowKit Go.PlainAid
set_option linter.unusedVariables false
set_option linter.unusedSimpArgs false

theorem tokR_len (s : ByteArray) : (tokR s).1.length ≤ 8001 := by
  unfold tokR toks
  by_cases h : 8000 < s.size
  · rw [if_pos h]; simp
  · rw [if_neg h]
    cases ht : toksAt s 0 with
    | error p => simp [toksE]
    | ok l =>
      have := tks_ok s _ 0 l (Nat.zero_le _) ht
      show l.length ≤ 8001
      omega
theorem tokR_err (s : ByteArray) : (tokR s).2.2 = 0 ∨ (tokR s).2.2 = 5 ∨ (tokR s).2.2 = 6 := by
  unfold tokR toks
  by_cases h : 8000 < s.size
  · rw [if_pos h]; simp
  · rw [if_neg h]
    cases ht : toksAt s 0 <;> simp [toksE]

set_option maxRecDepth 100000 in
set_option maxHeartbeats 8000000 in
theorem lexTokens_any {W : World} (hL : LexW W) (s x : ByteArray) :
    Calls Tryd.prog 3 #[.string s, .string x] W fun e w' => e = .returned (.bool true) ∧ Keeps W w' := by
  have HAw := hide (fun (w1 : World) (hk : Keeps W w1) => awake04_any (hL.keeps hk))
  by_cases h1 : 20000 < s.size
  · have h1I : (20000 : Int) < (s.size : Int) := by omega
    go_enter Tryd.func3, Tryd.ntmps3
    go_wp2_with fail
    refine (unhide HAw _ (Keeps.refl _)).mono ?_
    rintro e w1 ⟨rfl, hk⟩
    go_wp2
    go_ret
    exact ⟨rfl, hk⟩
  have h1I : ¬ (20000 : Int) < (s.size : Int) := by omega
  by_cases h2 : 300 < x.size
  · have h2I : (300 : Int) < (x.size : Int) := by omega
    go_enter Tryd.func3, Tryd.ntmps3
    go_wp2_with fail
    refine (unhide HAw _ (Keeps.refl _)).mono ?_
    rintro e w1 ⟨rfl, hk⟩
    go_wp2
    go_ret
    exact ⟨rfl, hk⟩
  have h2I : ¬ (300 : Int) < (x.size : Int) := by omega
  have HT1 := hide (tokens_gt hL s (by omega))
  have HT2 := hide (fun (w1 : World) (hk : Keeps W w1) => refTokens_gt (hL.keeps hk) s (by omega))
  have HW1 := hide (fun w1 => word_any x w1)
  have HW2 := hide (fun w1 => refWord_any x w1)
  have hlen := tokR_len s
  clear hL
  go_enter Tryd.func3, Tryd.ntmps3
  go_wp2_with fail
  refine (unhide HT1).mono ?_
  rintro e w1 ⟨A1, c1, rfl, hh1, hk1⟩
  have HH1 := hide hh1
  have HK1 := hide hk1
  clear hh1 hk1
  go_wp2_with fail
  refine (unhide HT2 _ (unhide HK1)).mono ?_
  rintro e w2 ⟨A2, c2, rfl, hh2, hk2⟩
  have HH2 := hide hh2
  have HK2 := hide ((unhide HK1).trans hk2)
  have HH3 := hide ((unhide HH1).keeps hk2)
  clear hh2 hk2 HH1 HK1
  generalize hl : (tokR s).1 = l at *
  clear hl
  generalize (tokR s).2.1 = p at *
  generalize (tokR s).2.2 = er at *
  generalize isWord x = b at *
  go_wp2_with fail
  refine (unhide HAw _ (unhide HK2)).mono ?_
  rintro e w3 ⟨rfl, hk3⟩
  have HK3 := hide ((unhide HK2).trans hk3)
  have HP := hide (plainK_any A1 A2 l c1 c2 w3 ((unhide HH3).keeps hk3) ((unhide HH2).keeps hk3) (by omega))
  clear hk3
  go_wp2_with fail
  refine (unhide HP).mono ?_
  rintro e w4 ⟨rfl, hk4⟩
  have HK4 := hide ((unhide HK3).trans hk4)
  clear hk4
  go_wp2_with fail
  refine (unhide HW1 _).mono ?_
  rintro e w5 ⟨rfl, rfl⟩
  go_wp2_with fail
  refine (unhide HW2 _).mono ?_
  rintro e w6 ⟨rfl, hk6⟩
  have HK6 := hide ((unhide HK4).trans hk6)
  clear hk6
  go_wp2
  go_ret
  exact ⟨by simp, unhide HK6⟩
end Go.Proofs.YtknebkncepgppaaDoor
