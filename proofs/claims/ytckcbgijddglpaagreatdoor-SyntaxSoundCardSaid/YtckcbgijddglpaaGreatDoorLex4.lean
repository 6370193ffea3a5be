/- The reader takes digits, with or without a sign. -/
import Derived.Test.YtckcbgijddglpaaGreatDoorLex3
import Derived.Test.YtckcbgijddglpaaGreatDoorLexN3
namespace Go.Proofs.YtckcbgijddglpaaGreatDoor
open Go.ChangeShapes Go.WideShapes Go.ChangeAt Go.RowKit Go.PlainAid
set_option linter.unusedVariables false

def signVals : Array Value := #[.string ⟨#[58, 58, 61]⟩, .string ⟨#[46, 46, 46]⟩, .string ⟨#[46, 46]⟩, .string ⟨#[91, 91]⟩, .string ⟨#[93, 93]⟩, .string ⟨#[123]⟩, .string ⟨#[125]⟩, .string ⟨#[91]⟩, .string ⟨#[93]⟩, .string ⟨#[40]⟩, .string ⟨#[41]⟩, .string ⟨#[44]⟩, .string ⟨#[58]⟩]
/-- The package variables that the lexer reads. -/
def LexW (w : World) : Prop :=
  Utf8At w ∧ (∃ te pe, w.cell? ⟨4, 0, none⟩ = some (.iface te pe)) ∧ (∀ i, i < 13 → w.cell? ⟨0, i, none⟩ = signVals[i]?)
theorem lt_cell {w : World} {b i : Nat} {v : Value} (h : w.cell? ⟨b, i, none⟩ = some v) : b < w.heap.size := Lib.lt_of_cell h
theorem LexW.keeps {w w' : World} (h : LexW w) (k : Keeps w w') : LexW w' := by
  have kc : ∀ b i v, w.cell? ⟨b, i, none⟩ = some v → w'.cell? ⟨b, i, none⟩ = some v := fun b i v hc => (Below.cell k (p := ⟨b, i, none⟩) (lt_cell hc)).trans hc
  obtain ⟨⟨u1, u2⟩, ⟨te, pe, hr⟩, hs⟩ := h
  refine ⟨⟨fun c hc => kc _ _ _ (u1 c hc), fun i hi => ⟨kc _ _ _ (u2 i hi).1, kc _ _ _ (u2 i hi).2⟩⟩, ⟨te, pe, kc _ _ _ hr⟩, fun i hi => ?_⟩
  have h1 := hs i hi
  have h2 : signVals[i]? = some signVals[i] := Array.getElem?_eq_getElem (show i < signVals.size from hi)
  rw [h2] at h1 ⊢
  exact kc _ _ _ h1
/-- What taking a token hands back: whether there is one, and, if so, which, and where it ends. -/
def TokP (w : World) (g : Nat) (s : ByteArray) (v : Value) (ok : Bool) (t : ByteArray) (j : Nat) (e : Ending) (w' : World) : Prop :=
  ∃ x a', e = .returned (.tuple #[.string x, .bool ok]) ∧ LX w' g s a' v ∧ Fr g w w' ∧ (ok = true → x = t ∧ a' = j)
theorem numOk_eq (s : ByteArray) (i : Nat) : numOk s i = (decide (numFrom s i < numEnd s i) && !isLet (bt s (numEnd s i)) && !(decide (bt s (numFrom s i) = 48) && !decide (numEnd s i = i + 1)) && numIn s i) := rfl
theorem empty_iff (s : ByteArray) {i j : Nat} (hi : i ≤ j) (hj : j ≤ s.size) : ((s.extract i j).toList = []) ↔ j = i := by
  have hz : (s.extract i j).size = j - i := sub_size s i j hj
  rw [ByteArray.toList_eq]
  constructor
  · intro h
    have := congrArg List.length h
    rw [← Lib.size_eq, hz] at this
    simp at this; omega
  · intro h
    exact List.eq_nil_of_length_eq_zero (by rw [← Lib.size_eq, hz]; omega)
theorem zero_iff (s : ByteArray) {i j : Nat} (hi : i < j) (hj : j ≤ s.size) (h0 : bt s i = 48 ∨ bt s i = 45) : ((s.extract i j).toList == [48]) = decide (j = i + 1 ∧ bt s i = 48) := by
  have hc := sub_cons s i j hi hj
  have hl : (sub s (i + 1) j).data.toList.length = j - (i + 1) := by rw [← Lib.size_eq, sub_size s _ _ hj]
  rw [Bool.eq_iff_iff, decide_eq_true_iff, beq_iff_eq, ByteArray.toList_eq]
  show (sub s i j).data.toList = [48] ↔ _
  rw [hc]
  constructor
  · intro h
    injection h with h1 h2
    rw [h2] at hl
    simp at hl
    have := byteAt_nat (s := s) (k := i) (by omega)
    rw [h1] at this
    exact ⟨by omega, this.symm⟩
  · rintro ⟨h1, h2⟩
    rw [show byteAt s i = 48 by rw [byteAt, h2]; rfl, List.eq_nil_of_length_eq_zero (l := (sub s (i + 1) j).data.toList) (by omega)]
/-- strconv.ParseInt of digits: a number, or an error. -/
theorem parse_any {W w : World} (hL : LexW W) (hk : Keeps W w) (s : ByteArray) {i : Nat} (hi : i < s.size) (hs : s.size ≤ 1000000000) (hne : numFrom s i < numEnd s i) :
    Calls Tryz.prog 84 #[.string (s.extract i (numEnd s i)), .int .i64 10, .int .i64 64] w fun e w' => ∃ v er, e = .returned (.tuple #[.int .i64 v, er]) ∧ Keeps w w' ∧ ((numIn s i = true ∧ er = .nilIface) ∨ (numIn s i = false ∧ ∃ te pe, er = .iface te pe)) := by
  have hz : (s.extract i (numEnd s i)).size ≤ s.size := by rw [show (s.extract i (numEnd s i)).size = numEnd s i - i from sub_size s i _ (numEnd_is s hi).2]; have := (numEnd_is s hi).2; omega
  rcases parse_num s hi hne with ⟨h1, v, h2⟩ | ⟨h1, h2⟩
  · refine (Tryz.strconv_ParseInt_10_at64_ok (s.extract i (numEnd s i)) (by omega) v h2 w).mono ?_
    rintro e w' ⟨rfl, hw⟩
    refine ⟨v, _, rfl, ?_, .inl ⟨h1, rfl⟩⟩
    rcases hw with rfl | ⟨t, rfl⟩
    · exact Keeps.refl _
    · exact Lib.bytesWorld_below _ _ _
  · obtain ⟨te, pe, hr⟩ := (hL.keeps hk).2.1
    refine (Tryz.strconv_ParseInt_10_at64_range (s.extract i (numEnd s i)) (by omega) h2 _ w hr (.inr ⟨te, pe, rfl⟩)).mono ?_
    rintro e w' ⟨N, rfl, _, _, hb⟩
    exact ⟨_, _, rfl, hb, .inr ⟨h1, _, _, rfl⟩⟩

set_option maxRecDepth 100000 in
set_option maxHeartbeats 4000000 in
theorem number_any {W w : World} (hL : LexW W) (hkW : Keeps W w) {g : Nat} {s : ByteArray} {a : Nat} {v : Value} (h : LX w g s a v) (ha : a < s.size) (hc : isDig (bt s a) = true ∨ bt s a = 45) (hs : s.size ≤ 1000000000) (hg : W.heap.size ≤ g) :
    Calls Tryz.prog 61 #[.pointer (some ⟨g, 0, none⟩)] w (TokP w g s v (numOk s a) (sub s a (numEnd s a)) (numEnd s a)) := by
  have HH := hide h
  have HPz := hide (peek00_any h (Nat.le_of_lt ha) hs (bt s a) rfl)
  obtain ⟨h0, h1, h2, h3⟩ := h.cells
  have HL := hide (And.intro hL hkW)
  have hle0 := Nat.le_of_lt ha
  clear h hL hkW
  by_cases h45 : bt s a = 45
  · have hf : numFrom s a = a + 1 := by rw [numFrom, if_pos h45]
    have HC := hide hf
    have HB := hide h45
    rw [h45] at HPz
    clear hc h45 hf
    go_enter Tryz.func61, Tryz.ntmps61
    go_wp2_with fail
    with_reducible refine (unhide HPz).mono ?_
    rintro e w1 ⟨rfl, m0, rfl⟩
    go_wp2
    clear h0 h1 h2 h3
    go_loopg [] (s.size - (a + 1)) (fun k wr => ∃ a', LX wr g s a' v ∧ Fr g w wr ∧ IsRun (dgP s) (a + 1) a' ∧ a' ≤ s.size ∧ k = s.size - a')
    case atStart => exact ⟨a + 1, ((unhide HH).drewN _).add1, (((Fr.refl g w).drewN _).set 1 _), IsRun.refl _ _, by omega, rfl⟩
    case round =>
      obtain ⟨a', hx, hf, hv, hle, hk⟩ := hrel
      obtain ⟨h0, h1, h2, h3⟩ := hx.cells
      have HX := hide hx
      have HF := hide hf
      have HV := hide hv
      have HK := hide hk
      have HP := hide (fun n => peek0_any hx hle hs (bt s a') rfl n)
      have HQz := hide (peek00_any hx hle hs (bt s a') rfl)
      have hc0 := bt_nonneg s a'
      have hc1 := bt_le s a'
      clear hx hf hv hk
      by_cases hN : dgP s a' = true
      · have hlt := dgP_lt s a' hN
        have HR := hide ((unhide HV).step hN)
        have HG := hide (digit_is (bt s a') true hN hc0 hc1)
        clear hN
        generalize bt s a' = c at *
        go_wp2_with (first | (with_reducible refine (unhide HQz).mono ?_; rintro e w1 ⟨rfl, m, rfl⟩) | (with_reducible refine (unhide HG _).mono ?_; rintro e w1 ⟨rfl, rfl⟩))
        go_roundg (s.size - (a' + 1))
        case measure => have := unhide HK; omega
        case rel => exact ⟨a' + 1, ((unhide HX).drewN _).add1, (((unhide HF).drewN _).set 1 _), unhide HR, by omega, rfl⟩
      · have hN2 : dgP s a' = false := by simpa using hN
        have hend : numEnd s a = a' := by
          rw [numEnd, unhide HC]
          exact spanAt_run (dgP_lt s) (by omega) (unhide HV) hN2
        have HEnd := hide hend
        have HG := hide (digit_is (bt s a') false hN2 hc0 hc1)
        have hge := (unhide HV).1
        have HPI := hide (fun w2 (hk2 : Keeps W w2) (hne : a + 1 < a') => parse_any (unhide HL).1 hk2 s ha hs (by rw [unhide HC, hend]; exact hne))
        rw [hend] at HPI
        have HEm := hide (empty_iff s hge hle)
        clear hN hN2 hend
        have fin : ∀ (x : ByteArray) (b : Bool) (W2 : World), b = numOk s a → (b = true → x = sub s a a') → LX W2 g s a' v → Fr g w W2 → TokP w g s v (numOk s a) (sub s a (numEnd s a)) (numEnd s a) (.returned (.tuple #[.string x, .bool b])) W2 := by
          intro x b W2 hb hx2 h1 h2
          rw [unhide HEnd, ← hb]
          exact ⟨x, a', rfl, h1, h2, fun q => ⟨hx2 q, rfl⟩⟩
        have HFin := hide fin
        have hno : numOk s a = (decide (a + 1 < a') && !isLet (bt s a') && !(decide (bt s (a + 1) = 48) && !decide (a' = a + 1)) && numIn s a) := by rw [numOk_eq, unhide HEnd, unhide HC]
        have HNo := hide hno
        clear fin hno
        by_cases hemp : a' = a + 1
        · have HEm2 : (s.extract (a + 1) a').toList = [] := (unhide HEm).2 hemp
          have HEE := hide hemp
          clear hemp
          generalize bt s a' = c at HP HQz HG hc0 hc1
          go_wp2_with (first | (with_reducible refine (unhide HQz).mono ?_; rintro e w1 ⟨rfl, m, rfl⟩) | (with_reducible refine (unhide HG _).mono ?_; rintro e w1 ⟨rfl, rfl⟩))
          go_quiet (fail)
          go_wp2
          go_ret2
          refine unhide HFin _ _ _ ?_ (fun q => by cases q) ((unhide HX).drewN _) ((unhide HF).drewN _)
          rw [unhide HNo, decide_eq_false (by have := unhide HEE; omega)]
          rfl
        · have hfa : a + 1 < a' := by omega
          have HEm2 : ¬ (s.extract (a + 1) a').toList = [] := fun q => hemp ((unhide HEm).1 q)
          have hxb := get_bt (s.extract (a + 1) a')
          have hx0 : bt (s.extract (a + 1) a') 0 = bt s (a + 1) := bt_sub s (a + 1) a' 0 hle (by omega)
          have hxz : (s.extract (a + 1) a').size = a' - (a + 1) := sub_size s _ _ hle
          have hxp : 0 < (s.extract (a + 1) a').size := by omega
          have hpos : 0 < a' - (a + 1) := by omega
          have HEm3 : (s.extract (a + 1) a').toList.isEmpty = false := by simpa using HEm2
          have hxpi : (0 : Int) < ((s.extract (a + 1) a').size : Int) := by omega
          have HXZ := hide hxz
          have hz2 : bt s (a + 1) = 48 → ((s.extract a a').toList == [48]) = decide (a' = a + 1) := fun q => by rw [zero_iff s (by omega) hle (.inr (unhide HB)), unhide HB]; simp; omega
          have HZ := hide hz2
          clear hemp hxz hz2
          generalize bt s a' = c at *
          by_cases ql : isLet c = true
          · have HLt := hide (letter_is c true ql hc0 hc1)
            have HLet := hide ql
            clear ql hxb hx0 hxp hxpi hpos
            go_wp2_with (first | (with_reducible refine (unhide HQz).mono ?_; rintro e w1 ⟨rfl, m, rfl⟩) | (with_reducible refine (unhide HP _).mono ?_; rintro e w1 ⟨rfl, m, rfl⟩) | (with_reducible refine (unhide HG _).mono ?_; rintro e w1 ⟨rfl, rfl⟩) | (with_reducible refine (unhide HLt _).mono ?_; rintro e w1 ⟨rfl, rfl⟩))
            go_quiet (fail)
            go_wp2_with (first | (with_reducible refine (unhide HP _).mono ?_; rintro e w1 ⟨rfl, m, rfl⟩) | (with_reducible refine (unhide HG _).mono ?_; rintro e w1 ⟨rfl, rfl⟩) | (with_reducible refine (unhide HLt _).mono ?_; rintro e w1 ⟨rfl, rfl⟩))
            go_ret2
            refine unhide HFin _ _ _ ?_ (fun q => by cases q) ((unhide HX).drewN _) ((unhide HF).drewN _)
            rw [unhide HNo, unhide HLet]
            simp
          · have ql2 : isLet c = false := by simpa using ql
            have HLt := hide (letter_is c false ql2 hc0 hc1)
            have HLet := hide ql2
            clear ql ql2
            by_cases q48 : bt s (a + 1) = 48
            · have hz3 := unhide HZ q48
              rw [q48] at hx0
              have HQ48 := hide q48
              clear q48
              by_cases qz : a' = a + 1
              · rw [decide_eq_true qz] at hz3
                have HQZ := hide qz
                clear qz
                go_wp2_with (first | (with_reducible refine (unhide HQz).mono ?_; rintro e w1 ⟨rfl, m, rfl⟩) | (with_reducible refine (unhide HG _).mono ?_; rintro e w1 ⟨rfl, rfl⟩))
                go_quiet (fail)
                go_wp2_with (first | (with_reducible refine (unhide HP _).mono ?_; rintro e w1 ⟨rfl, m, rfl⟩) | (with_reducible refine (unhide HG _).mono ?_; rintro e w1 ⟨rfl, rfl⟩) | (with_reducible refine (unhide HLt _).mono ?_; rintro e w1 ⟨rfl, rfl⟩))
                refine (unhide HPI _ (((unhide HL).2.fr (unhide HF) hg).drewN _) hfa).mono ?_
                rintro e w2 ⟨u, er, rfl, hk2, hcase⟩
                have HK2 := hide hk2
                clear hk2
                rcases hcase with ⟨i1, rfl⟩ | ⟨i1, te, pe, rfl⟩
                all_goals
                  have HI := hide i1
                  clear i1
                  go_wp2
                  go_quiet (fail)
                  go_wp2
                  go_ret2
                  refine unhide HFin _ _ _ ?_ (fun _ => rfl) (((unhide HX).drewN _).keeps (unhide HK2) |>.drewN _) ((((unhide HF).drewN _).keeps (unhide HK2)).drewN _)
                  rw [unhide HNo, unhide HLet, unhide HI, decide_eq_true hfa, decide_eq_true (unhide HQZ)]
                  simp
              · rw [decide_eq_false qz] at hz3
                have HQZ := hide qz
                clear qz
                go_wp2_with (first | (with_reducible refine (unhide HQz).mono ?_; rintro e w1 ⟨rfl, m, rfl⟩) | (with_reducible refine (unhide HG _).mono ?_; rintro e w1 ⟨rfl, rfl⟩))
                go_quiet (fail)
                go_wp2_with (first | (with_reducible refine (unhide HP _).mono ?_; rintro e w1 ⟨rfl, m, rfl⟩) | (with_reducible refine (unhide HG _).mono ?_; rintro e w1 ⟨rfl, rfl⟩) | (with_reducible refine (unhide HLt _).mono ?_; rintro e w1 ⟨rfl, rfl⟩))
                go_ret2
                refine unhide HFin _ _ _ ?_ (fun q => by cases q) ((unhide HX).drewN _) ((unhide HF).drewN _)
                rw [unhide HNo, unhide HLet, decide_eq_true (unhide HQ48), decide_eq_false (unhide HQZ)]
                simp
            · have e48 : (bt s (a + 1) == 48) = false := beq_eq_false_iff_ne.2 q48
              have HQ48 := hide q48
              clear q48
              go_wp2_with (first | (with_reducible refine (unhide HQz).mono ?_; rintro e w1 ⟨rfl, m, rfl⟩) | (with_reducible refine (unhide HG _).mono ?_; rintro e w1 ⟨rfl, rfl⟩))
              go_quiet (fail)
              go_wp2_with (first | (with_reducible refine (unhide HP _).mono ?_; rintro e w1 ⟨rfl, m, rfl⟩) | (with_reducible refine (unhide HG _).mono ?_; rintro e w1 ⟨rfl, rfl⟩) | (with_reducible refine (unhide HLt _).mono ?_; rintro e w1 ⟨rfl, rfl⟩))
              refine (unhide HPI _ (((unhide HL).2.fr (unhide HF) hg).drewN _) hfa).mono ?_
              rintro e w2 ⟨u, er, rfl, hk2, hcase⟩
              have HK2 := hide hk2
              clear hk2
              rcases hcase with ⟨i1, rfl⟩ | ⟨i1, te, pe, rfl⟩
              all_goals
                have HI := hide i1
                clear i1
                go_wp2
                go_quiet (fail)
                go_wp2
                go_ret2
                refine unhide HFin _ _ _ ?_ (fun _ => rfl) (((unhide HX).drewN _).keeps (unhide HK2) |>.drewN _) ((((unhide HF).drewN _).keeps (unhide HK2)).drewN _)
                rw [unhide HNo, unhide HLet, unhide HI, decide_eq_true hfa, decide_eq_false (unhide HQ48)]
                simp
  · have hf : numFrom s a = a := by rw [numFrom, if_neg h45]
    have HC := hide hf
    have hdg : isDig (bt s a) = true := hc.resolve_right h45
    have e45 : (bt s a == 45) = false := beq_eq_false_iff_ne.2 h45
    have HB := hide hdg
    generalize hcc : bt s a = c at HPz e45
    clear hc h45 hf hdg hcc
    go_enter Tryz.func61, Tryz.ntmps61
    go_wp2_with fail
    with_reducible refine (unhide HPz).mono ?_
    rintro e w1 ⟨rfl, m0, rfl⟩
    go_wp2
    clear h0 h1 h2 h3
    go_loopg [] (s.size - a) (fun k wr => ∃ a', LX wr g s a' v ∧ Fr g w wr ∧ IsRun (dgP s) a a' ∧ a' ≤ s.size ∧ k = s.size - a')
    case atStart => exact ⟨a, ((unhide HH).drewN _), ((Fr.refl g w).drewN _), IsRun.refl _ _, by omega, rfl⟩
    case round =>
      obtain ⟨a', hx, hf, hv, hle, hk⟩ := hrel
      obtain ⟨h0, h1, h2, h3⟩ := hx.cells
      have HX := hide hx
      have HF := hide hf
      have HV := hide hv
      have HK := hide hk
      have HP := hide (fun n => peek0_any hx hle hs (bt s a') rfl n)
      have HQz := hide (peek00_any hx hle hs (bt s a') rfl)
      have hc0 := bt_nonneg s a'
      have hc1 := bt_le s a'
      clear hx hf hv hk
      by_cases hN : dgP s a' = true
      · have hlt := dgP_lt s a' hN
        have HR := hide ((unhide HV).step hN)
        have HG := hide (digit_is (bt s a') true hN hc0 hc1)
        clear hN
        generalize bt s a' = c at *
        go_wp2_with (first | (with_reducible refine (unhide HQz).mono ?_; rintro e w1 ⟨rfl, m, rfl⟩) | (with_reducible refine (unhide HG _).mono ?_; rintro e w1 ⟨rfl, rfl⟩))
        go_roundg (s.size - (a' + 1))
        case measure => have := unhide HK; omega
        case rel => exact ⟨a' + 1, ((unhide HX).drewN _).add1, (((unhide HF).drewN _).set 1 _), unhide HR, by omega, rfl⟩
      · have hN2 : dgP s a' = false := by simpa using hN
        have hend : numEnd s a = a' := by
          rw [numEnd, unhide HC]
          exact spanAt_run (dgP_lt s) (by omega) (unhide HV) hN2
        have HEnd := hide hend
        have HG := hide (digit_is (bt s a') false hN2 hc0 hc1)
        have hge := (unhide HV).1
        have HPI := hide (fun w2 (hk2 : Keeps W w2) (hne : a < a') => parse_any (unhide HL).1 hk2 s ha hs (by rw [unhide HC, hend]; exact hne))
        rw [hend] at HPI
        have HEm := hide (empty_iff s hge hle)
        clear hN hN2 hend
        have fin : ∀ (x : ByteArray) (b : Bool) (W2 : World), b = numOk s a → (b = true → x = sub s a a') → LX W2 g s a' v → Fr g w W2 → TokP w g s v (numOk s a) (sub s a (numEnd s a)) (numEnd s a) (.returned (.tuple #[.string x, .bool b])) W2 := by
          intro x b W2 hb hx2 h1 h2
          rw [unhide HEnd, ← hb]
          exact ⟨x, a', rfl, h1, h2, fun q => ⟨hx2 q, rfl⟩⟩
        have HFin := hide fin
        have hno : numOk s a = (decide (a < a') && !isLet (bt s a') && !(decide (bt s a = 48) && !decide (a' = a + 1)) && numIn s a) := by rw [numOk_eq, unhide HEnd, unhide HC]
        have HNo := hide hno
        clear fin hno
        by_cases hemp : a' = a
        · have HEm2 : (s.extract a a').toList = [] := (unhide HEm).2 hemp
          have HEE := hide hemp
          clear hemp
          generalize bt s a' = c at HP HQz HG hc0 hc1
          go_wp2_with (first | (with_reducible refine (unhide HQz).mono ?_; rintro e w1 ⟨rfl, m, rfl⟩) | (with_reducible refine (unhide HG _).mono ?_; rintro e w1 ⟨rfl, rfl⟩))
          go_quiet (fail)
          go_wp2
          go_ret2
          refine unhide HFin _ _ _ ?_ (fun q => by cases q) ((unhide HX).drewN _) ((unhide HF).drewN _)
          rw [unhide HNo, decide_eq_false (by have := unhide HEE; omega)]
          rfl
        · have hfa : a < a' := by omega
          have HEm2 : ¬ (s.extract a a').toList = [] := fun q => hemp ((unhide HEm).1 q)
          have hxb := get_bt (s.extract a a')
          have hx0 : bt (s.extract a a') 0 = bt s a := bt_sub s a a' 0 hle (by omega)
          have hxz : (s.extract a a').size = a' - a := sub_size s _ _ hle
          have hxp : 0 < (s.extract a a').size := by omega
          have hpos : 0 < a' - a := by omega
          have HEm3 : (s.extract a a').toList.isEmpty = false := by simpa using HEm2
          have hxpi : (0 : Int) < ((s.extract a a').size : Int) := by omega
          have HXZ := hide hxz
          have hz2 : bt s a = 48 → ((s.extract a a').toList == [48]) = decide (a' = a + 1) := fun q => by rw [zero_iff s hfa hle (.inl q)]; simp [q]
          have HZ := hide hz2
          clear hemp hxz hz2
          generalize bt s a' = c at *
          by_cases ql : isLet c = true
          · have HLt := hide (letter_is c true ql hc0 hc1)
            have HLet := hide ql
            clear ql hxb hx0 hxp hxpi hpos
            go_wp2_with (first | (with_reducible refine (unhide HQz).mono ?_; rintro e w1 ⟨rfl, m, rfl⟩) | (with_reducible refine (unhide HP _).mono ?_; rintro e w1 ⟨rfl, m, rfl⟩) | (with_reducible refine (unhide HG _).mono ?_; rintro e w1 ⟨rfl, rfl⟩) | (with_reducible refine (unhide HLt _).mono ?_; rintro e w1 ⟨rfl, rfl⟩))
            go_quiet (fail)
            go_wp2_with (first | (with_reducible refine (unhide HP _).mono ?_; rintro e w1 ⟨rfl, m, rfl⟩) | (with_reducible refine (unhide HG _).mono ?_; rintro e w1 ⟨rfl, rfl⟩) | (with_reducible refine (unhide HLt _).mono ?_; rintro e w1 ⟨rfl, rfl⟩))
            go_ret2
            refine unhide HFin _ _ _ ?_ (fun q => by cases q) ((unhide HX).drewN _) ((unhide HF).drewN _)
            rw [unhide HNo, unhide HLet]
            simp
          · have ql2 : isLet c = false := by simpa using ql
            have HLt := hide (letter_is c false ql2 hc0 hc1)
            have HLet := hide ql2
            clear ql ql2
            by_cases q48 : bt s a = 48
            · have hz3 := unhide HZ q48
              rw [q48] at hx0
              have HQ48 := hide q48
              clear q48
              by_cases qz : a' = a + 1
              · rw [decide_eq_true qz] at hz3
                have HQZ := hide qz
                clear qz
                go_wp2_with (first | (with_reducible refine (unhide HQz).mono ?_; rintro e w1 ⟨rfl, m, rfl⟩) | (with_reducible refine (unhide HG _).mono ?_; rintro e w1 ⟨rfl, rfl⟩))
                go_quiet (fail)
                go_wp2_with (first | (with_reducible refine (unhide HP _).mono ?_; rintro e w1 ⟨rfl, m, rfl⟩) | (with_reducible refine (unhide HG _).mono ?_; rintro e w1 ⟨rfl, rfl⟩) | (with_reducible refine (unhide HLt _).mono ?_; rintro e w1 ⟨rfl, rfl⟩))
                refine (unhide HPI _ (((unhide HL).2.fr (unhide HF) hg).drewN _) hfa).mono ?_
                rintro e w2 ⟨u, er, rfl, hk2, hcase⟩
                have HK2 := hide hk2
                clear hk2
                rcases hcase with ⟨i1, rfl⟩ | ⟨i1, te, pe, rfl⟩
                all_goals
                  have HI := hide i1
                  clear i1
                  go_wp2
                  go_quiet (fail)
                  go_wp2
                  go_ret2
                  refine unhide HFin _ _ _ ?_ (fun _ => rfl) (((unhide HX).drewN _).keeps (unhide HK2) |>.drewN _) ((((unhide HF).drewN _).keeps (unhide HK2)).drewN _)
                  rw [unhide HNo, unhide HLet, unhide HI, decide_eq_true hfa, decide_eq_true (unhide HQZ)]
                  simp
              · rw [decide_eq_false qz] at hz3
                have HQZ := hide qz
                clear qz
                go_wp2_with (first | (with_reducible refine (unhide HQz).mono ?_; rintro e w1 ⟨rfl, m, rfl⟩) | (with_reducible refine (unhide HG _).mono ?_; rintro e w1 ⟨rfl, rfl⟩))
                go_quiet (fail)
                go_wp2_with (first | (with_reducible refine (unhide HP _).mono ?_; rintro e w1 ⟨rfl, m, rfl⟩) | (with_reducible refine (unhide HG _).mono ?_; rintro e w1 ⟨rfl, rfl⟩) | (with_reducible refine (unhide HLt _).mono ?_; rintro e w1 ⟨rfl, rfl⟩))
                go_ret2
                refine unhide HFin _ _ _ ?_ (fun q => by cases q) ((unhide HX).drewN _) ((unhide HF).drewN _)
                rw [unhide HNo, unhide HLet, decide_eq_true (unhide HQ48), decide_eq_false (unhide HQZ)]
                simp
            · have e48 : (bt s a == 48) = false := beq_eq_false_iff_ne.2 q48
              have HQ48 := hide q48
              clear q48
              go_wp2_with (first | (with_reducible refine (unhide HQz).mono ?_; rintro e w1 ⟨rfl, m, rfl⟩) | (with_reducible refine (unhide HG _).mono ?_; rintro e w1 ⟨rfl, rfl⟩))
              go_quiet (fail)
              go_wp2_with (first | (with_reducible refine (unhide HP _).mono ?_; rintro e w1 ⟨rfl, m, rfl⟩) | (with_reducible refine (unhide HG _).mono ?_; rintro e w1 ⟨rfl, rfl⟩) | (with_reducible refine (unhide HLt _).mono ?_; rintro e w1 ⟨rfl, rfl⟩))
              refine (unhide HPI _ (((unhide HL).2.fr (unhide HF) hg).drewN _) hfa).mono ?_
              rintro e w2 ⟨u, er, rfl, hk2, hcase⟩
              have HK2 := hide hk2
              clear hk2
              rcases hcase with ⟨i1, rfl⟩ | ⟨i1, te, pe, rfl⟩
              all_goals
                have HI := hide i1
                clear i1
                go_wp2
                go_quiet (fail)
                go_wp2
                go_ret2
                refine unhide HFin _ _ _ ?_ (fun _ => rfl) (((unhide HX).drewN _).keeps (unhide HK2) |>.drewN _) ((((unhide HF).drewN _).keeps (unhide HK2)).drewN _)
                rw [unhide HNo, unhide HLet, unhide HI, decide_eq_true hfa, decide_eq_false (unhide HQ48)]
                simp
end Go.Proofs.YtckcbgijddglpaaGreatDoor
