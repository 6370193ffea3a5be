/- Numbers as they are written, and their tokens. -/
import Derived.Test.YtknebkncepgppaaDoorLexN6
namespace Go.Proofs.YtknebkncepgppaaDoor
open Go.PlainAid
set_option linter.unusedVariables false

/-- The digits of a number. -/
def decL : Nat → Nat → List UInt8
  | 0, v => [UInt8.ofNat (48 + v % 10)]
  | f + 1, v => if v < 10 then [UInt8.ofNat (48 + v % 10)] else decL f (v / 10) ++ [UInt8.ofNat (48 + v % 10)]
theorem decL_fuel : ∀ f g v, v < 10 ^ (f + 1) → v < 10 ^ (g + 1) → decL f v = decL g v
  | 0, 0, v, _, _ => rfl
  | 0, g + 1, v, h, _ => by simp only [decL]; rw [if_pos (by simpa using h)]
  | f + 1, 0, v, _, h => by simp only [decL]; rw [if_pos (by simpa using h)]
  | f + 1, g + 1, v, h1, h2 => by
    simp only [decL]
    split
    · rfl
    · rw [decL_fuel f g (v / 10) (by rw [Nat.pow_succ] at h1; omega) (by rw [Nat.pow_succ] at h2; omega)]
def decB (v : Nat) : ByteArray := ⟨(decL 19 v).toArray⟩
theorem decB_small {v : Nat} (h : v < 10) : decB v = ⟨#[UInt8.ofNat (48 + v)]⟩ := by
  have : decL 19 v = [UInt8.ofNat (48 + v % 10)] := by simp only [decL]; rw [if_pos h]
  rw [decB, this, Nat.mod_eq_of_lt h]
theorem decB_step {v : Nat} (h : ¬ v < 10) (hv : v < 10 ^ 20) : decB v = decB (v / 10) ++ ⟨#[UInt8.ofNat (48 + v % 10)]⟩ := by
  have : decL 19 v = decL 19 (v / 10) ++ [UInt8.ofNat (48 + v % 10)] := by
    rw [decL_fuel 19 20 v hv (by omega)]
    show (if v < 10 then _ else _) = _
    rw [if_neg h]
  apply ba_ext
  rw [ByteArray.toList_data_append]
  show (decL 19 v).toArray.toList = (decL 19 (v / 10)).toArray.toList ++ _
  simp [this]
theorem dec_digs : ∀ f v, Digs (decL f v)
  | 0, v => by
    intro c hc
    simp only [decL, List.mem_singleton] at hc
    subst hc
    rw [UInt8.toNat_ofNat']; omega
  | f + 1, v => by
    intro c hc
    simp only [decL] at hc
    split at hc
    · rw [List.mem_singleton] at hc; subst hc; rw [UInt8.toNat_ofNat']; omega
    · rcases List.mem_append.1 hc with h | h
      · exact dec_digs f _ c h
      · rw [List.mem_singleton] at h; subst h; rw [UInt8.toNat_ofNat']; omega
theorem dec_val : ∀ f v, v < 10 ^ (f + 1) → valL 0 (decL f v) = v
  | 0, v, h => by
    simp only [decL, valL_cons, valL_nil, UInt8.toNat_ofNat']
    have : v < 10 := by simpa using h
    omega
  | f + 1, v, h => by
    simp only [decL]
    split
    · simp only [valL_cons, valL_nil, UInt8.toNat_ofNat']; omega
    · rw [valL_append, dec_val f (v / 10) (by rw [Nat.pow_succ] at h; omega)]
      simp only [valL_cons, valL_nil, UInt8.toNat_ofNat']; omega
theorem dec_pos : ∀ f v, 0 < (decL f v).length
  | 0, v => by simp [decL]
  | f + 1, v => by simp only [decL]; split <;> simp
theorem dec_len : ∀ f v, (decL f v).length ≤ f + 1
  | 0, v => by simp [decL]
  | f + 1, v => by
    simp only [decL]
    split
    · simp
    · have := dec_len f (v / 10); simp; omega
/-- No digit 0 stands first, but for 0 itself. -/
theorem dec_head : ∀ f v, 0 < v → v < 10 ^ (f + 1) → ∃ c r, decL f v = c :: r ∧ 49 ≤ c.toNat
  | 0, v, h, h2 => by
    have : v < 10 := by simpa using h2
    exact ⟨UInt8.ofNat (48 + v % 10), [], rfl, by rw [UInt8.toNat_ofNat']; omega⟩
  | f + 1, v, h, h2 => by
    simp only [decL]
    split
    · exact ⟨_, [], rfl, by rw [UInt8.toNat_ofNat']; omega⟩
    · obtain ⟨c, r, h3, h4⟩ := dec_head f (v / 10) (by omega) (by rw [Nat.pow_succ] at h2; omega)
      exact ⟨c, r ++ [UInt8.ofNat (48 + v % 10)], by rw [h3]; rfl, h4⟩
theorem dec_zero : decL 19 0 = [48] := rfl
/-- A number, with its sign. -/
def numB (v : Int) : ByteArray := if v < 0 then (⟨#[45]⟩ : ByteArray) ++ decB v.natAbs else decB v.natAbs
theorem bt_at {s : ByteArray} {l : List UInt8} (h : s.data.toList = l) (k : Nat) : bt s k = ((l[k]?).map fun b => (b.toNat : Int)).getD 0 := by rw [bt_list, h]
/-- Digits to the end, of which the first is no 0, or the only one. -/
theorem tok_digits {s : ByteArray} {f : Nat} {l : List UInt8} (hs : s.data.toList.drop f = l) (hf : numFrom s 0 = f) (h0 : isLet (bt s 0) = false) (hstart : isDig (bt s 0) = true ∨ bt s 0 = 45) (hl : Digs l) (hne : 0 < l.length) (hz : s.size = f + l.length)
    (hfirst : bt s f ≠ 48 ∨ (l.length ≤ 1 ∧ bt s 0 ≠ 45)) (hlen : l.length ≤ 19) (hv : valL 0 l ≤ 9223372036854775808) (hv2 : bt s 0 = 45 ∨ valL 0 l ≠ 9223372036854775808) : tokAt s 0 = some (3, s, s.size) := by
  have hrun : IsRun (dgP s) f s.size := by
    refine ⟨by omega, fun k h1 h2 => ?_⟩
    have hk : s.data.toList[k]? = l[k - f]? := by rw [← hs, List.getElem?_drop]; congr 1; omega
    have hk2 : l[k - f]? = some (l[k - f]'(by omega)) := List.getElem?_eq_getElem (by omega)
    have hd := hl _ (List.getElem_mem (show k - f < l.length by omega))
    rw [dgP, bt_list, hk, hk2]
    simp only [Option.map_some, Option.getD_some, isDig, Bool.and_eq_true, decide_eq_true_eq]
    omega
  have hend : numEnd s 0 = s.size := by rw [numEnd, hf]; exact spanAt_run (dgP_lt s) (by omega) hrun (by rw [dgP, bt_end s (Nat.le_refl _)]; rfl)
  have hsub : (sub s f s.size).data.toList = l := by
    rw [sub_list s f s.size (Nat.le_refl _), ← hs, Lib.size_eq, List.take_length]
  have hval : dval s f (min (s.size - f) 19) = valL 0 l := by
    rw [show min (s.size - f) 19 = s.size - f by omega, dval_list s f (s.size - f) (by omega), show f + (s.size - f) = s.size by omega, hsub]
  have hok : numOk s 0 = true := num_yes hf hend (by omega) (by omega) (by rcases hfirst with h | h; exact .inl h; exact .inr ⟨by omega, h.2⟩) (by rw [bt_end s (Nat.le_refl _)]; rfl) (by rw [hval]; exact hv) (by rw [hval]; exact hv2)
  have hwhole : sub s 0 s.size = s := by
    apply ba_ext
    rw [sub_list s 0 s.size (Nat.le_refl _), List.drop_zero, Lib.size_eq, List.take_length]
  rw [tokAt, if_neg (by simp [h0]), if_pos hstart, numAt, if_pos hok, hend, hwhole]
/-- One token that is all of the text. -/
theorem toks_one {s : ByteArray} {k : Int} {t : ByteArray} (hsz : 0 < s.size) (hle : s.size ≤ 8000) (hw : isWh (bt s 0) = false) (hd : ¬ (bt s 0 = 45 ∧ bt s 1 = 45)) (h : tokAt s 0 = some (k, t, s.size)) : toks s = .ok [(k, t, 0), (0, ⟨#[]⟩, s.size)] := by
  have hsk : skipAt s 0 = 0 := skipAt_stop hw hd
  have hse : skipAt s s.size = s.size := by rw [skipAt_eq, bt_end s (Nat.le_refl _), bt_end s (Nat.le_succ _)]; simp [isWh]
  rw [toks, if_neg (by omega), toks_some hsz hsk h, toks_end (Nat.le_refl _) hse (Nat.le_refl _)]
  rfl
theorem numB_list (v : Int) : (numB v).data.toList = (if v < 0 then [45] else []) ++ decL 19 v.natAbs := by
  unfold numB
  split
  · rw [ByteArray.toList_data_append]; rfl
  · rfl
theorem dig_of_list {s : ByteArray} {k : Nat} {c : UInt8} (h : s.data.toList[k]? = some c) : bt s k = c.toNat := by rw [bt_list, h]; rfl
theorem toks_numB (v : Int) (h0 : -9223372036854775808 ≤ v) (h1 : v ≤ 9223372036854775807) : toks (numB v) = .ok [(3, numB v, 0), (0, ⟨#[]⟩, (numB v).size)] := by
  have hL := numB_list v
  have hn : v.natAbs ≤ 9223372036854775808 := by omega
  have hpow : v.natAbs < 10 ^ 20 := Nat.lt_of_le_of_lt hn (by decide)
  have hval := dec_val 19 v.natAbs hpow
  have hdg := dec_digs 19 v.natAbs
  have hps := dec_pos 19 v.natAbs
  have hdl : (decL 19 v.natAbs).length ≤ 19 := by
    have : decL 19 v.natAbs = decL 18 v.natAbs := decL_fuel 19 18 _ hpow (Nat.lt_of_le_of_lt hn (by decide))
    rw [this]; exact dec_len 18 _
  have hzero : v = 0 ∨ 0 < v.natAbs := by omega
  have hsz : (numB v).size = (if v < 0 then 1 else 0) + (decL 19 v.natAbs).length := by
    rw [Lib.size_eq, hL, List.length_append]; split <;> rfl
  have key : ∃ f, tokAt (numB v) 0 = some (3, numB v, (numB v).size) ∧ (numB v).size ≤ 8000 ∧ 0 < (numB v).size ∧ isWh (bt (numB v) 0) = false ∧ ¬ (bt (numB v) 0 = 45 ∧ bt (numB v) 1 = 45) ∧ f = 0 := by
    by_cases hneg : v < 0
    · rw [if_pos hneg] at hL hsz
      obtain ⟨c, r, hcr, hc⟩ := dec_head 19 v.natAbs (by omega) hpow
      have hb0 : bt (numB v) 0 = 45 := dig_of_list (c := 45) (by rw [hL]; rfl)
      have hb1 : bt (numB v) 1 = c.toNat := dig_of_list (by rw [hL, hcr]; rfl)
      have hf : numFrom (numB v) 0 = 1 := by rw [numFrom, if_pos hb0]
      refine ⟨0, tok_digits (f := 1) (l := decL 19 v.natAbs) (by rw [hL]; rfl) hf (by rw [hb0]; rfl) (.inr hb0) hdg hps hsz (.inl (by rw [hb1]; omega)) hdl (by rw [hval]; exact hn) (.inl hb0), by omega, by omega, by rw [hb0]; rfl, ?_, rfl⟩
      rw [hb1]
      rintro ⟨_, h⟩
      omega
    · rw [if_neg hneg, List.nil_append] at hL
      rw [if_neg hneg, Nat.zero_add] at hsz
      obtain ⟨c, hc⟩ : ∃ c, (decL 19 v.natAbs)[0]? = some c := ⟨_, List.getElem?_eq_getElem hps⟩
      have hcd := hdg c (List.mem_of_getElem? hc)
      have hb0 : bt (numB v) 0 = c.toNat := dig_of_list (by rw [hL]; exact hc)
      have hf : numFrom (numB v) 0 = 0 := by rw [numFrom, if_neg (by omega)]
      have hdg0 : isDig (bt (numB v) 0) = true := by rw [hb0]; simp only [isDig, Bool.and_eq_true, decide_eq_true_eq]; omega
      have hfirst : bt (numB v) 0 ≠ 48 ∨ ((decL 19 v.natAbs).length ≤ 1 ∧ bt (numB v) 0 ≠ 45) := by
        rcases hzero with h | h
        · subst h; exact .inr ⟨by decide, by omega⟩
        · obtain ⟨c', r, hcr, hc'⟩ := dec_head 19 v.natAbs h hpow
          rw [hcr] at hc
          injection hc with hc
          subst hc
          exact .inl (by omega)
      refine ⟨0, tok_digits (f := 0) (l := decL 19 v.natAbs) (by rw [hL]; rfl) hf ?_ (.inl hdg0) hdg hps (by omega) hfirst hdl (by rw [hval]; exact hn) (.inr (by rw [hval]; omega)), by omega, by omega, ?_, by omega, rfl⟩
      · rw [hb0]; simp only [isLet, Bool.or_eq_false_iff, Bool.and_eq_false_iff, decide_eq_false_iff_not]; omega
      · rw [hb0]; simp only [isWh, Bool.or_eq_false_iff, decide_eq_false_iff_not]; omega
  obtain ⟨f, h1, h2, h3, h4, h5, _⟩ := key
  exact toks_one h3 h2 h4 h5 h1
end Go.Proofs.YtknebkncepgppaaDoor
