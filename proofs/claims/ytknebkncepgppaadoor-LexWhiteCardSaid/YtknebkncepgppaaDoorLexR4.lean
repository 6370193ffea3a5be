/- The reference: digits of 16, a string. -/
import Derived.Test.YtknebkncepgppaaDoorLexR2
namespace Go.Proofs.YtknebkncepgppaaDoor
open Go.ChangeShapes Go.WideShapes Go.ChangeAt Go.RowKit Go.PlainAid
set_option linter.unusedVariables false
set_option linter.unusedSimpArgs false

def orNone (b : Bool) (t : ByteArray) : ByteArray := if b = true then t else ⟨#[]⟩
theorem ret2_yes {b : Bool} {n : Int} {m : Nat} {x t : ByteArray} (h : b = true) (hn : n = (m : Int)) (hx : x = t) : Ending.returned (.tuple #[.int .i64 n, .string x]) = .returned (.tuple #[.int .i64 (orNeg b m), .string (orNone b t)]) := by subst hn; subst hx; rw [orNeg, if_pos h, orNone, if_pos h]
theorem ret2_no {b : Bool} {m : Nat} {t : ByteArray} (h : b = false) : Ending.returned (.tuple #[.int .i64 (-1), .string ⟨#[]⟩]) = .returned (.tuple #[.int .i64 (orNeg b m), .string (orNone b t)]) := by rw [orNeg, if_neg (by simp [h]), orNone, if_neg (by simp [h])]

set_option maxRecDepth 100000 in
set_option maxHeartbeats 4000000 in
theorem refHex_any (s : ByteArray) (i : Nat) (w : World) (hi : i < s.size) (hs : s.size ≤ 100000000) :
    Calls Tryd.prog 44 #[.string s, .int .i64 (i : Nat)] w fun e w' => e = .returned (.tuple #[.int .i64 (orNeg (hexOk s i) (hexEnd s i + 2)), .string (orNone (hexOk s i) (sub s (i + 1) (hexEnd s i)))]) ∧ ∃ m, w' = w.drewN m := by
  go_enter Tryd.func44, Tryd.ntmps44
  go_wp2
  go_loopg [1] (s.size - (i + 1)) (fun k iv wr => ∃ a : Nat, iv = .int .i64 (a : Nat) ∧ a ≤ s.size ∧ k = s.size - a ∧ IsRun (hxP s) (i + 1) a ∧ w = wr)
  case atStart => exact ⟨i + 1, by simp, hi, rfl, IsRun.refl _ _, rfl⟩
  case round =>
    obtain ⟨a, rfl, hle, hk, hv, rfl⟩ := hrel
    have HK := hide hk
    have HV := hide hv
    have hge := hv.1
    clear hk hv
    have hc0 := bt_nonneg s a
    have hc1 := bt_le s a
    have hcase := hxP_cases (bt s a)
    have hgo : isHex (bt s a) = true → a + 1 ≤ s.size ∧ IsRun (hxP s) (i + 1) (a + 1) := fun q => ⟨hxP_lt s a q, (unhide HV).step q⟩
    have hstop : isHex (bt s a) = false → hexEnd s i = a := fun q => spanAt_run (hxP_lt s) (by omega) (unhide HV) q
    have HGo := hide hgo
    have HStop := hide hstop
    have hbf := fun h => get_bt s a h
    have HA := hide (refAt_is s a (by omega) (by omega) _ rfl)
    have HA1 := hide (refAt1_is s a (by omega) (by omega) _ rfl)
    have HOk := hide (show hexEnd s i = a → hexOk s i = decide ((a - (i + 1)) % 2 = 0 ∧ bt s a = 39 ∧ bt s (a + 1) = 72) from fun e => by rw [hexOk, e])
    clear hgo hstop
    generalize bt s (a + 1) = c1 at *
    generalize bt s a = c at *
    rcases hcase with ⟨q1, q2⟩ | ⟨q1, q3, q4, q2⟩ | ⟨q1, q3, q2⟩ | ⟨q1, q3, q4, q2⟩
    · have HG := hide (refDigit_is c true q1 hc0 hc1)
      obtain ⟨hlt, hrn⟩ := unhide HGo q2
      have hltI : (a : Int) < (s.size : Int) := by omega
      have hba := hbf (by omega)
      have HR := hide hrn
      clear q1 q2 hrn hbf
      go_wp2_with (first | (with_reducible refine (unhide HG _).mono ?_; rintro e w1 ⟨rfl, rfl⟩))
      go_roundg (s.size - (a + 1))
      case measure => have := unhide HK; omega
      case rel => exact ⟨a + 1, rfl, hlt, rfl, unhide HR, rfl⟩
    · have HG := hide (refDigit_is c false q1 hc0 hc1)
      obtain ⟨hlt, hrn⟩ := unhide HGo q2
      have hltI : (a : Int) < (s.size : Int) := by omega
      have hba := hbf (by omega)
      have HR := hide hrn
      clear q1 q2 hrn hbf
      go_wp2_with (first | (with_reducible refine (unhide HG _).mono ?_; rintro e w1 ⟨rfl, rfl⟩))
      go_roundg (s.size - (a + 1))
      case measure => have := unhide HK; omega
      case rel => exact ⟨a + 1, rfl, hlt, rfl, unhide HR, rfl⟩
    all_goals
      have HG := hide (refDigit_is c false q1 hc0 hc1)
      have HEnd := hide (unhide HStop q2)
      have HO2 := hide (unhide HOk (unhide HEnd))
      have hkey : ((a - (i + 1)) % 2 = 1) ∨ ((a - (i + 1)) % 2 = 0 ∧ c ≠ 39) ∨ ((a - (i + 1)) % 2 = 0 ∧ c = 39 ∧ c1 ≠ 72) ∨ ((a - (i + 1)) % 2 = 0 ∧ c = 39 ∧ c1 = 72) := by omega
      have hlts : (a < s.size ∧ (a : Int) < (s.size : Int)) ∨ ¬ (a : Int) < (s.size : Int) := by omega
      clear q1 q2
      rcases hlts with ⟨hlt, hltI⟩ | hltI
    all_goals
      first | have hba := hbf hlt | skip
      clear hbf
      rcases hkey with r | ⟨r, r2⟩ | ⟨r, r2, r3⟩ | ⟨r, r2, r3⟩
      · have hrI : ((a - (i + 1) : Nat) : Int) % 2 = 1 := by omega
        have hrJ : ((a : Int) - ((i : Int) + 1)) % 2 = 1 := by omega
        have HX := hide (show hexOk s i = false by rw [unhide HO2, decide_eq_false_iff_not]; omega)
        clear r
        go_wp2_with (first | (with_reducible refine (unhide HG _).mono ?_; rintro e w1 ⟨rfl, rfl⟩))
        go_ret2
        exact ⟨ret2_no (unhide HX), 0, rfl⟩
      · have hrJ : ((a : Int) - ((i : Int) + 1)) % 2 = 0 := by omega
        have HX := hide (show hexOk s i = false by rw [unhide HO2, decide_eq_false_iff_not]; omega)
        have r2b : (c != 39) = true := by rw [bne_iff_ne]; exact r2
        clear r r2
        go_wp2_with (first | (with_reducible refine (unhide HG _).mono ?_; rintro e w1 ⟨rfl, rfl⟩) | (with_reducible refine (unhide HA _).mono ?_; rintro e w1 ⟨rfl, rfl⟩))
        go_ret2
        exact ⟨ret2_no (unhide HX), 0, rfl⟩
      · first
        | (exfalso; omega; done)
        | (
          have hrJ : ((a : Int) - ((i : Int) + 1)) % 2 = 0 := by omega
          have HX := hide (show hexOk s i = false by rw [unhide HO2, decide_eq_false_iff_not]; omega)
          have r3b : (c1 != 72) = true := by rw [bne_iff_ne]; exact r3
          clear r r3
          subst r2
          go_wp2_with (first | (with_reducible refine (unhide HG _).mono ?_; rintro e w1 ⟨rfl, rfl⟩) | (with_reducible refine (unhide HA _).mono ?_; rintro e w1 ⟨rfl, rfl⟩) | (with_reducible refine (unhide HA1 _).mono ?_; rintro e w1 ⟨rfl, rfl⟩))
          go_ret2
          exact ⟨ret2_no (unhide HX), 0, rfl⟩)
      · first
        | (exfalso; omega; done)
        | (
          have hrJ : ((a : Int) - ((i : Int) + 1)) % 2 = 0 := by omega
          have HX := hide (show hexOk s i = true by rw [unhide HO2, decide_eq_true_iff]; exact ⟨r, r2, r3⟩)
          clear r
          subst r2
          subst r3
          go_wp2_with (first | (with_reducible refine (unhide HG _).mono ?_; rintro e w1 ⟨rfl, rfl⟩) | (with_reducible refine (unhide HA _).mono ?_; rintro e w1 ⟨rfl, rfl⟩) | (with_reducible refine (unhide HA1 _).mono ?_; rintro e w1 ⟨rfl, rfl⟩))
          go_quiet (fail)
          go_wp2
          go_ret2
          exact ⟨ret2_yes (unhide HX) (by rw [unhide HEnd]; simp) (by rw [unhide HEnd]; rfl), _, rfl⟩)
/-- What a string in quotes says, and where it ends. -/
def quoEnd (r : Option Tok) : Int := match r with | none => -1 | some t => (t.2.2 : Nat)
def quoTxt (r : Option Tok) : ByteArray := match r with | none => ⟨#[]⟩ | some t => t.2.1
theorem snoc_one (s : ByteArray) (o : ByteArray) {a : Nat} (h : a < s.size) : (o ++ s.extract a (a + 1)).data.toList = o.data.toList ++ [byteAt s a] := by
  have h1 := sub_snoc s a 0 (by omega)
  have h2 := sub_none s a (by omega)
  simp only [Nat.add_zero] at h1
  rw [h2] at h1
  rw [ByteArray.toList_data_append]
  rw [show (s.extract a (a + 1)).data.toList = (sub s a (a + 1)).data.toList from rfl, h1]; rfl
theorem snoc_q (o : ByteArray) : (o ++ ⟨#[34]⟩).data.toList = o.data.toList ++ [34] := by rw [ByteArray.toList_data_append]
set_option maxRecDepth 100000 in
set_option maxHeartbeats 4000000 in
theorem refQuoted_any {W w : World} (hL : LexW W) (hkW : Keeps W w) (s : ByteArray) (i : Nat) (hi : i < s.size) (hs : s.size ≤ 100000000) :
    Calls Tryd.prog 45 #[.string s, .int .i64 (i : Nat)] w fun e w' => e = .returned (.tuple #[.int .i64 (quoEnd (quoAt s i)), .string (quoTxt (quoAt s i))]) ∧ Keeps w w' := by
  have HQA := hide (show quoAt s i = match qtAt s (i + 1) [] with | none => none | some (out, e) => if Lib.validD out = true then some (7, ⟨out.toArray⟩, e) else none from rfl)
  have HVS := hide (fun (o : ByteArray) (ho : o.size ≤ 9223372036854775807) (wr : World) (hk : Keeps w wr) => Tryd.utf8_ValidString o wr ho (hL.keeps (hkW.trans hk)).1)
  go_enter Tryd.func45, Tryd.ntmps45
  go_wp2
  go_loopg [1, 6] (s.size - (i + 1)) (fun k iv ov wr => ∃ (a : Nat) (o : ByteArray), iv = .int .i64 (a : Nat) ∧ ov = .string o ∧ a ≤ s.size ∧ k = s.size - a ∧ o.size ≤ a ∧ qtAt s (i + 1) [] = qtAt s a o.data.toList ∧ Keeps w wr)
  case atStart => exact ⟨i + 1, ⟨#[]⟩, by simp, rfl, hi, rfl, Nat.zero_le _, rfl, Keeps.refl _⟩
  case round =>
    obtain ⟨a, o, rfl, rfl, hle, hk, ho, hq, hkp⟩ := hrel
    have HK := hide hk
    have HQ := hide hq
    have HKP := hide hkp
    clear hk hq hkp
    have HEQ := hide (qtAt_eq s a o.data.toList)
    by_cases hlt : a < s.size
    · have hltI : (a : Int) < (s.size : Int) := by omega
      have hba := get_bt s a hlt
      by_cases q : bt s a = 34
      · have HE1 : Hid (qtAt s (i + 1) [] = if bt s (a + 1) = 34 then qtAt s (a + 2) (o.data.toList ++ [34]) else some (o.data.toList, a + 1)) := by
          rw [Hid, unhide HQ, unhide HEQ, if_neg (by omega), if_neg (by simp [q])]
        rw [q] at hba
        have HA := hide (refAt1_is s a (by omega) (by omega) _ rfl)
        have hsz : (o ++ (⟨#[34]⟩ : ByteArray)).size ≤ a + 2 := by
          have : (o ++ (⟨#[34]⟩ : ByteArray)).size = o.size + 1 := by rw [ByteArray.size_append]; rfl
          omega
        have HSZ := hide hsz
        clear hsz
        by_cases q2 : bt s (a + 1) = 34
        · have hlt2 := lt_of_bt (s := s) (k := a + 1) (by omega)
          have HE2 := hide (show qtAt s (i + 1) [] = qtAt s (a + 2) (o ++ ⟨#[34]⟩).data.toList by rw [unhide HE1, if_pos q2, snoc_q])
          rw [q2] at HA
          clear q2 HE1
          go_wp2_with (first | (with_reducible refine (unhide HA _).mono ?_; rintro e w1 ⟨rfl, rfl⟩))
          go_roundg (s.size - (a + 2))
          case measure => have := unhide HK; omega
          case rel => exact ⟨a + 2, _, by simp; omega, rfl, by omega, rfl, unhide HSZ, unhide HE2, unhide HKP⟩
        · have HE2 := hide (show quoAt s i = if Lib.validD o.data.toList = true then some (7, o, a + 1) else none by rw [unhide HQA, unhide HE1, if_neg q2])
          have e2 : (bt s (a + 1) != 34) = true := by rw [bne_iff_ne]; exact q2
          clear q2 HE1 HQA
          generalize bt s (a + 1) = c at *
          go_wp2_with (first | (with_reducible refine (unhide HA _).mono ?_; rintro e w1 ⟨rfl, rfl⟩))
          refine (unhide HVS o (by omega) _ (unhide HKP)).mono ?_
          rintro e w2 ⟨rfl, hk2⟩
          have HK2 := hide ((unhide HKP).trans hk2)
          clear hk2
          by_cases v : Lib.validD o.data.toList = true
          · have HE3 := hide (show quoAt s i = some (7, o, a + 1) by rw [unhide HE2, if_pos v])
            go_wp2
            go_ret2
            exact ⟨by rw [unhide HE3]; rfl, unhide HK2⟩
          · have HE3 := hide (show quoAt s i = none by rw [unhide HE2, if_neg v])
            have v' : Lib.validD o.data.toList = false := by simpa using v
            go_wp2
            go_ret2
            exact ⟨by rw [unhide HE3]; rfl, unhide HK2⟩
      · have HE1 : Hid (qtAt s (i + 1) [] = qtAt s (a + 1) (o ++ s.extract a (a + 1)).data.toList) := by
          rw [Hid, unhide HQ, unhide HEQ, if_neg (by omega), if_pos q, snoc_one s o hlt]
        have e2 : (bt s a != 34) = true := by rw [bne_iff_ne]; exact q
        have hsz : (o ++ s.extract a (a + 1)).size ≤ a + 1 := by
          have : (o ++ s.extract a (a + 1)).size = o.size + (a + 1 - a) := by rw [ByteArray.size_append]; congr 1; exact sub_size s a (a + 1) hlt
          omega
        have HSZ := hide hsz
        clear hsz q
        generalize bt s a = c at *
        go_wp2
        go_roundg (s.size - (a + 1))
        case measure => have := unhide HK; omega
        case rel => exact ⟨a + 1, _, rfl, rfl, by omega, rfl, unhide HSZ, unhide HE1, unhide HKP⟩
    · have hltI : ¬ (a : Int) < (s.size : Int) := by omega
      have HE := hide (show quoAt s i = none by rw [unhide HQA, unhide HQ, unhide HEQ, if_pos (by omega)])
      go_wp2
      go_ret2
      exact ⟨by rw [unhide HE]; rfl, unhide HKP⟩
end Go.Proofs.YtknebkncepgppaaDoor
