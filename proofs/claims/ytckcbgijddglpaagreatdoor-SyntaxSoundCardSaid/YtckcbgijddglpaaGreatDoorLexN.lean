/- What the lexer answers, as functions on texts: white space, names, digits, tokens. -/
import Derived.PlainAid
import Derived.Lib.ValidU
import Derived.Lib.ParseIntB
import Derived.Lib.Strings
namespace Go.Proofs.YtckcbgijddglpaaGreatDoor
open Go.PlainAid
set_option linter.unusedVariables false

/-! ### Runs -/
def spn (p : Nat → Bool) : Nat → Nat → Nat
  | 0, i => i
  | f + 1, i => if p i then spn p f (i + 1) else i
def spanAt (p : Nat → Bool) (n i : Nat) : Nat := spn p (n - i) i
def IsRun (p : Nat → Bool) (i j : Nat) : Prop := i ≤ j ∧ ∀ k, i ≤ k → k < j → p k = true
theorem IsRun.refl (p : Nat → Bool) (i : Nat) : IsRun p i i := ⟨Nat.le_refl _, fun k h1 h2 => absurd h2 (by omega)⟩
theorem IsRun.step {p : Nat → Bool} {i j : Nat} (h : IsRun p i j) (hj : p j = true) : IsRun p i (j + 1) :=
  ⟨by have := h.1; omega, fun k h1 h2 => if e : k = j then by rw [e]; exact hj else h.2 k h1 (by omega)⟩
theorem spn_run {p : Nat → Bool} : ∀ (m i j : Nat), IsRun p i j → p j = false → j ≤ i + m → spn p m i = j
  | 0, i, j, h, hj, hm => by have := h.1; simp only [spn]; omega
  | m + 1, i, j, h, hj, hm => by
    have h1 := h.1
    by_cases e : i = j
    · subst e; simp [spn, hj]
    · have hp : p i = true := h.2 i (Nat.le_refl _) (by omega)
      simp only [spn, hp, if_true]
      exact spn_run m (i + 1) j ⟨by omega, fun k a b => h.2 k (by omega) b⟩ hj (by omega)
theorem spanAt_run {p : Nat → Bool} {n i j : Nat} (hp : ∀ k, p k = true → k < n) (hi : i ≤ n) (h : IsRun p i j) (hj : p j = false) : spanAt p n i = j := by
  refine spn_run _ _ _ h hj ?_
  by_cases e : j ≤ i
  · omega
  · have := hp (j - 1) (h.2 _ (by omega) (by omega)); omega
theorem spn_is {p : Nat → Bool} : ∀ (m i n : Nat), (∀ k, p k = true → k < n) → n ≤ i + m → IsRun p i (spn p m i) ∧ p (spn p m i) = false
  | 0, i, n, hp, hm => by
    refine ⟨IsRun.refl _ _, ?_⟩
    simp only [spn]
    by_cases e : p i = true
    · have := hp i e; omega
    · simpa using e
  | m + 1, i, n, hp, hm => by
    by_cases e : p i = true
    · simp only [spn, e, if_true]
      obtain ⟨h1, h2⟩ := spn_is m (i + 1) n hp (by omega)
      refine ⟨⟨by have := h1.1; omega, fun k a b => if c : k = i then by rw [c]; exact e else h1.2 k (by omega) b⟩, h2⟩
    · simp only [spn, if_neg e]
      exact ⟨IsRun.refl _ _, by simpa using e⟩
theorem spanAt_is {p : Nat → Bool} {n : Nat} (hp : ∀ k, p k = true → k < n) (i : Nat) : IsRun p i (spanAt p n i) ∧ p (spanAt p n i) = false := spn_is _ _ n hp (by omega)
theorem spanAt_le {p : Nat → Bool} {n : Nat} (hp : ∀ k, p k = true → k < n) {i : Nat} (hi : i ≤ n) : spanAt p n i ≤ n := by
  obtain ⟨h1, h2⟩ := spanAt_is hp i
  by_cases e : spanAt p n i ≤ i
  · omega
  · have := hp _ (h1.2 (spanAt p n i - 1) (by omega) (by omega)); omega
theorem spanAt_ge {p : Nat → Bool} {n : Nat} (hp : ∀ k, p k = true → k < n) (i : Nat) : i ≤ spanAt p n i := (spanAt_is hp i).1.1

/-! ### Bytes -/
def isLet (c : Int) : Bool := (decide (97 ≤ c) && decide (c ≤ 122)) || (decide (65 ≤ c) && decide (c ≤ 90))
def isDig (c : Int) : Bool := decide (48 ≤ c) && decide (c ≤ 57)
def isHex (c : Int) : Bool := isDig c || (decide (65 ≤ c) && decide (c ≤ 70))
def isWh (c : Int) : Bool := decide (c = 32) || decide (c = 9) || decide (c = 10) || decide (c = 13)
def nmP (s : ByteArray) (k : Nat) : Bool := isLet (bt s k) || isDig (bt s k) || (decide (bt s k = 45) && !decide (bt s (k + 1) = 45))
def dgP (s : ByteArray) (k : Nat) : Bool := isDig (bt s k)
def hxP (s : ByteArray) (k : Nat) : Bool := isHex (bt s k)
theorem lt_of_bt {s : ByteArray} {k : Nat} (h : bt s k ≠ 0) : k < s.size := by
  by_cases e : k < s.size
  · exact e
  · exact absurd (bt_end s (by omega)) h
theorem let_ne {c : Int} (h : isLet c = true) : c ≠ 0 := by rintro rfl; simp [isLet] at h
theorem dig_ne {c : Int} (h : isDig c = true) : c ≠ 0 := by rintro rfl; simp [isDig] at h
theorem hex_ne {c : Int} (h : isHex c = true) : c ≠ 0 := by rintro rfl; simp [isHex, isDig] at h
theorem wh_ne {c : Int} (h : isWh c = true) : c ≠ 0 := by rintro rfl; simp [isWh] at h
theorem nmP_lt (s : ByteArray) : ∀ k, nmP s k = true → k < s.size := fun k h => lt_of_bt (by intro e; rw [nmP, e] at h; simp [isLet, isDig] at h)
theorem dgP_lt (s : ByteArray) : ∀ k, dgP s k = true → k < s.size := fun k h => lt_of_bt (dig_ne h)
theorem hxP_lt (s : ByteArray) : ∀ k, hxP s k = true → k < s.size := fun k h => lt_of_bt (hex_ne h)

/-! ### White space and comments -/
def cmt (s : ByteArray) : Nat → Nat → Nat
  | 0, i => i
  | f + 1, i => if bt s i = 10 ∨ s.size ≤ i then i else if bt s i = 45 ∧ bt s (i + 1) = 45 then i + 2 else cmt s f (i + 1)
def cmtAt (s : ByteArray) (i : Nat) : Nat := cmt s (s.size + 1 - i) i
theorem cmtAt_eq {s : ByteArray} {i : Nat} (hi : i ≤ s.size) : cmtAt s i = if bt s i = 10 ∨ s.size ≤ i then i else if bt s i = 45 ∧ bt s (i + 1) = 45 then i + 2 else cmtAt s (i + 1) := by
  unfold cmtAt
  rw [show s.size + 1 - i = (s.size - i) + 1 by omega, show s.size + 1 - (i + 1) = s.size - i by omega]
  rfl
theorem two_le {s : ByteArray} {i : Nat} (h : bt s (i + 1) = 45) : i + 2 ≤ s.size := by
  have := lt_of_bt (s := s) (k := i + 1) (by omega); omega
theorem cmt_ge (s : ByteArray) : ∀ f i, i ≤ cmt s f i
  | 0, i => Nat.le_refl _
  | f + 1, i => by
    simp only [cmt]
    split
    · exact Nat.le_refl _
    · split
      · omega
      · have := cmt_ge s f (i + 1); omega
theorem cmt_le (s : ByteArray) : ∀ f i, i ≤ s.size → cmt s f i ≤ s.size
  | 0, i, h => h
  | f + 1, i, h => by
    simp only [cmt]
    split
    · exact h
    · rename_i h1
      split
      · rename_i h2; have := two_le h2.2; omega
      · exact cmt_le s f (i + 1) (by omega)
theorem cmtAt_ge (s : ByteArray) (i : Nat) : i ≤ cmtAt s i := cmt_ge s _ i
theorem cmtAt_le {s : ByteArray} {i : Nat} (h : i ≤ s.size) : cmtAt s i ≤ s.size := cmt_le s _ i h
def skp (s : ByteArray) : Nat → Nat → Nat
  | 0, i => i
  | f + 1, i => if isWh (bt s i) = true then skp s f (i + 1) else if bt s i = 45 ∧ bt s (i + 1) = 45 then skp s f (cmtAt s (i + 2)) else i
def skipAt (s : ByteArray) (i : Nat) : Nat := skp s (s.size + 1 - i) i
theorem skp_past {s : ByteArray} {i : Nat} (h : s.size ≤ i) : ∀ f, skp s f i = i
  | 0 => rfl
  | f + 1 => by
    have e := bt_end s h
    simp [skp, e, isWh]
theorem skp_fuel (s : ByteArray) : ∀ f g i, s.size < f + i → s.size < g + i → skp s f i = skp s g i
  | 0, g, i, hf, hg => by rw [skp_past (by omega), skp_past (by omega)]
  | f + 1, 0, i, hf, hg => by rw [skp_past (by omega), skp_past (by omega)]
  | f + 1, g + 1, i, hf, hg => by
    simp only [skp]
    split
    · exact skp_fuel s f g _ (by omega) (by omega)
    · split
      · have := cmtAt_ge s (i + 2)
        exact skp_fuel s f g _ (by omega) (by omega)
      · rfl
theorem skipAt_eq (s : ByteArray) (i : Nat) : skipAt s i = if isWh (bt s i) = true then skipAt s (i + 1) else if bt s i = 45 ∧ bt s (i + 1) = 45 then skipAt s (cmtAt s (i + 2)) else i := by
  have h0 : skipAt s i = skp s (s.size + 2) i := skp_fuel s _ _ _ (by omega) (by omega)
  rw [h0]
  show (if _ then skp s (s.size + 1) _ else _) = _
  split
  · exact skp_fuel s _ _ _ (by omega) (by omega)
  · split
    · exact skp_fuel s _ _ _ (by omega) (by omega)
    · rfl
theorem skipAt_white {s : ByteArray} {i : Nat} (h : isWh (bt s i) = true) : skipAt s i = skipAt s (i + 1) := by rw [skipAt_eq, if_pos h]
theorem skipAt_comment {s : ByteArray} {i : Nat} (h : bt s i = 45) (h2 : bt s (i + 1) = 45) : skipAt s i = skipAt s (cmtAt s (i + 2)) := by
  rw [skipAt_eq, if_neg (by rw [h]; simp [isWh]), if_pos ⟨h, h2⟩]
theorem skipAt_stop {s : ByteArray} {i : Nat} (h : isWh (bt s i) = false) (h2 : ¬ (bt s i = 45 ∧ bt s (i + 1) = 45)) : skipAt s i = i := by
  rw [skipAt_eq, if_neg (by rw [h]; simp), if_neg h2]
theorem skp_is (s : ByteArray) : ∀ f i, s.size < f + i → i ≤ s.size → i ≤ skp s f i ∧ skp s f i ≤ s.size ∧ isWh (bt s (skp s f i)) = false ∧ ¬ (bt s (skp s f i) = 45 ∧ bt s (skp s f i + 1) = 45)
  | 0, i, hf, hi => by omega
  | f + 1, i, hf, hi => by
    simp only [skp]
    split
    · rename_i h
      have := lt_of_bt (wh_ne h)
      obtain ⟨a, b, c⟩ := skp_is s f (i + 1) (by omega) (by omega)
      exact ⟨by omega, b, c⟩
    · split
      · rename_i h
        have h2 := two_le h.2
        have := cmtAt_ge s (i + 2)
        obtain ⟨a, b, c⟩ := skp_is s f (cmtAt s (i + 2)) (by omega) (cmtAt_le h2)
        exact ⟨by omega, b, c⟩
      · rename_i h1 h2
        exact ⟨Nat.le_refl _, hi, by simpa using h1, h2⟩
theorem skipAt_is {s : ByteArray} {i : Nat} (hi : i ≤ s.size) : i ≤ skipAt s i ∧ skipAt s i ≤ s.size ∧ isWh (bt s (skipAt s i)) = false ∧ ¬ (bt s (skipAt s i) = 45 ∧ bt s (skipAt s i + 1) = 45) := skp_is s _ i (by omega) hi

/-! ### Tokens -/
def sub (s : ByteArray) (i j : Nat) : ByteArray := s.extract i j
def wordsL : List ByteArray := [⟨#[68, 69, 70, 73, 78, 73, 84, 73, 79, 78, 83]⟩, ⟨#[69, 88, 80, 76, 73, 67, 73, 84]⟩, ⟨#[73, 77, 80, 76, 73, 67, 73, 84]⟩, ⟨#[65, 85, 84, 79, 77, 65, 84, 73, 67]⟩, ⟨#[84, 65, 71, 83]⟩, ⟨#[66, 69, 71, 73, 78]⟩, ⟨#[69, 78, 68]⟩, ⟨#[66, 79, 79, 76, 69, 65, 78]⟩, ⟨#[73, 78, 84, 69, 71, 69, 82]⟩, ⟨#[69, 78, 85, 77, 69, 82, 65, 84, 69, 68]⟩, ⟨#[78, 85, 76, 76]⟩, ⟨#[79, 67, 84, 69, 84]⟩, ⟨#[83, 84, 82, 73, 78, 71]⟩, ⟨#[85, 84, 70, 56, 83, 116, 114, 105, 110, 103]⟩, ⟨#[83, 69, 81, 85, 69, 78, 67, 69]⟩, ⟨#[83, 69, 84]⟩, ⟨#[67, 72, 79, 73, 67, 69]⟩, ⟨#[79, 70]⟩, ⟨#[79, 80, 84, 73, 79, 78, 65, 76]⟩, ⟨#[68, 69, 70, 65, 85, 76, 84]⟩, ⟨#[83, 73, 90, 69]⟩, ⟨#[77, 73, 78]⟩, ⟨#[77, 65, 88]⟩, ⟨#[84, 82, 85, 69]⟩, ⟨#[70, 65, 76, 83, 69]⟩]
def signsL : List ByteArray := [⟨#[58, 58, 61]⟩, ⟨#[46, 46, 46]⟩, ⟨#[46, 46]⟩, ⟨#[91, 91]⟩, ⟨#[93, 93]⟩, ⟨#[123]⟩, ⟨#[125]⟩, ⟨#[91]⟩, ⟨#[93]⟩, ⟨#[40]⟩, ⟨#[41]⟩, ⟨#[44]⟩, ⟨#[58]⟩]
def isWord (s : ByteArray) : Bool := wordsL.any fun x => s.data.toList == x.data.toList
def kindOf (s : ByteArray) : Int := if isWord s = true then 5 else if bt s 0 ≤ 90 then 1 else 2
def dval (s : ByteArray) (i : Nat) : Nat → Nat
  | 0 => 0
  | n + 1 => 10 * dval s i n + (bt s (i + n) - 48).toNat
def numFrom (s : ByteArray) (i : Nat) : Nat := if bt s i = 45 then i + 1 else i
def numEnd (s : ByteArray) (i : Nat) : Nat := spanAt (dgP s) s.size (numFrom s i)
def numVal (s : ByteArray) (i : Nat) : Nat := dval s (numFrom s i) (numEnd s i - numFrom s i)
def numOk (s : ByteArray) (i : Nat) : Bool :=
  decide (numFrom s i < numEnd s i) && !isLet (bt s (numEnd s i)) && !(decide (bt s (numFrom s i) = 48) && !decide (numEnd s i = i + 1)) && decide (numVal s i < 9223372036854775808 ∨ (bt s i = 45 ∧ numVal s i = 9223372036854775808))
abbrev Tok := Int × ByteArray × Nat
def nameEnd (s : ByteArray) (i : Nat) : Nat := spanAt (nmP s) s.size i
def nameOk (s : ByteArray) (i : Nat) : Bool := decide (nameEnd s i - i ≤ 60 ∧ bt s (nameEnd s i - 1) ≠ 45)
def nameAt (s : ByteArray) (i : Nat) : Option Tok := if nameOk s i = true then some (kindOf (sub s i (nameEnd s i)), sub s i (nameEnd s i), nameEnd s i) else none
def numAt (s : ByteArray) (i : Nat) : Option Tok := if numOk s i = true then some (3, sub s i (numEnd s i), numEnd s i) else none
def hexEnd (s : ByteArray) (i : Nat) : Nat := spanAt (hxP s) s.size (i + 1)
def hexOk (s : ByteArray) (i : Nat) : Bool := decide ((hexEnd s i - (i + 1)) % 2 = 0 ∧ bt s (hexEnd s i) = 39 ∧ bt s (hexEnd s i + 1) = 72)
def hexAt (s : ByteArray) (i : Nat) : Option Tok := if hexOk s i = true then some (4, sub s (i + 1) (hexEnd s i), hexEnd s i + 2) else none
def byteAt (s : ByteArray) (i : Nat) : UInt8 := UInt8.ofNat (bt s i).toNat
def qt (s : ByteArray) : Nat → Nat → List UInt8 → Option (List UInt8 × Nat)
  | 0, _, _ => none
  | f + 1, i, out =>
    if s.size ≤ i then none else if bt s i ≠ 34 then qt s f (i + 1) (out ++ [byteAt s i])
    else if bt s (i + 1) = 34 then qt s f (i + 2) (out ++ [34]) else some (out, i + 1)
def qtAt (s : ByteArray) (i : Nat) (out : List UInt8) : Option (List UInt8 × Nat) := qt s (s.size + 1 - i) i out
def quoAt (s : ByteArray) (i : Nat) : Option Tok :=
  match qtAt s (i + 1) [] with
  | none => none
  | some (out, e) => if Lib.validD out = true then some (7, ⟨out.toArray⟩, e) else none
def starts (s : ByteArray) (i : Nat) (x : ByteArray) : Bool := Lib.hasPrefix (sub s i s.size).data.toList x.data.toList
def signAt (s : ByteArray) (i : Nat) : Option Tok :=
  match signsL.find? (starts s i) with
  | none => none
  | some x => some (6, x, i + x.size)
def tokAt (s : ByteArray) (i : Nat) : Option Tok :=
  if isLet (bt s i) = true then nameAt s i
  else if isDig (bt s i) = true ∨ bt s i = 45 then numAt s i
  else if bt s i = 39 then hexAt s i
  else if bt s i = 34 then quoAt s i
  else signAt s i
theorem qt_fuel (s : ByteArray) : ∀ f g i out, s.size < f + i → s.size < g + i → qt s f i out = qt s g i out
  | 0, 0, i, out, hf, hg => rfl
  | 0, g + 1, i, out, hf, hg => by simp only [qt]; rw [if_pos (by omega)]
  | f + 1, 0, i, out, hf, hg => by simp only [qt]; rw [if_pos (by omega)]
  | f + 1, g + 1, i, out, hf, hg => by
    simp only [qt]
    split
    · rfl
    · split
      · exact qt_fuel s f g _ _ (by omega) (by omega)
      · split
        · exact qt_fuel s f g _ _ (by omega) (by omega)
        · rfl
theorem qtAt_eq (s : ByteArray) (i : Nat) (out : List UInt8) : qtAt s i out = if s.size ≤ i then none else if bt s i ≠ 34 then qtAt s (i + 1) (out ++ [byteAt s i])
    else if bt s (i + 1) = 34 then qtAt s (i + 2) (out ++ [34]) else some (out, i + 1) := by
  have h0 : qtAt s i out = qt s (s.size + 2) i out := qt_fuel s _ _ _ _ (by omega) (by omega)
  rw [h0]
  show (if _ then _ else if _ then qt s (s.size + 1) _ _ else if _ then qt s (s.size + 1) _ _ else _) = _
  split
  · rfl
  · split
    · exact qt_fuel s _ _ _ _ (by omega) (by omega)
    · split
      · exact qt_fuel s _ _ _ _ (by omega) (by omega)
      · rfl
theorem qt_le (s : ByteArray) : ∀ f i out x e, qt s f i out = some (x, e) → i < e ∧ e ≤ s.size
  | 0, i, out, x, e, h => by cases h
  | f + 1, i, out, x, e, h => by
    simp only [qt] at h
    split at h
    · cases h
    · rename_i h0
      split at h
      · have := qt_le s f _ _ _ _ h; omega
      · split at h
        · have := qt_le s f _ _ _ _ h; omega
        · cases h; omega
theorem tokAt_end {s : ByteArray} {i : Nat} (hi : i < s.size) {k : Int} {t : ByteArray} {e : Nat} (h : tokAt s i = some (k, t, e)) : i < e ∧ e ≤ s.size := by
  unfold tokAt at h
  split at h
  · rename_i hl
    unfold nameAt at h
    have h1 : i ≤ nameEnd s i := spanAt_ge (nmP_lt s) i
    have h2 : nameEnd s i ≤ s.size := spanAt_le (nmP_lt s) (Nat.le_of_lt hi)
    have h3 : nameEnd s i ≠ i := by
      intro e
      have : nmP s (nameEnd s i) = false := (spanAt_is (nmP_lt s) i).2
      rw [e] at this
      simp [nmP, hl] at this
    split at h
    · cases h; omega
    · cases h
  · split at h
    · unfold numAt at h
      split at h
      · rename_i ho
        cases h
        have h0 : numFrom s i < numEnd s i := by
          simp only [numOk, Bool.and_eq_true, decide_eq_true_eq] at ho
          exact ho.1.1.1
        have h1 : i ≤ numFrom s i := by unfold numFrom; split <;> omega
        have h2 : numFrom s i ≤ s.size := by unfold numFrom; split <;> omega
        have h3 : numEnd s i ≤ s.size := spanAt_le (dgP_lt s) h2
        omega
      · cases h
    · split at h
      · unfold hexAt at h
        split at h
        · rename_i hc
          simp only [hexOk, decide_eq_true_eq] at hc
          cases h
          have : i + 1 ≤ hexEnd s i := spanAt_ge (hxP_lt s) (i + 1)
          have := lt_of_bt (s := s) (k := hexEnd s i + 1) (by omega)
          omega
        · cases h
      · split at h
        · unfold quoAt at h
          split at h
          · cases h
          · rename_i out e' hq
            split at h
            · cases h
              have := qt_le s _ _ _ _ _ hq
              omega
            · cases h
        · unfold signAt at h
          split at h
          · cases h
          · rename_i x hx
            cases h
            have hm := List.mem_of_find?_eq_some hx
            have hs := List.find?_some hx
            have hsz : 0 < t.size := by
              revert hm
              have : ∀ x ∈ signsL, 0 < x.size := by decide +kernel
              exact this t
            simp only [starts, Lib.hasPrefix] at hs
            have hl := (List.isPrefixOf_iff_prefix.1 hs).length_le
            have e1 : t.data.toList.length = t.size := (Lib.size_eq _).symm
            have e2 : (sub s i s.size).data.toList.length = s.size - i := by
              rw [← Lib.size_eq, sub, ByteArray.size_extract]
              omega
            rw [e1, e2] at hl
            omega

/-- The tokens from a place on, or where none begins. -/
def tks (s : ByteArray) : Nat → Nat → Except Nat (List Tok)
  | 0, i => .error i
  | f + 1, i =>
    let a := skipAt s i
    if s.size ≤ a then .ok [(0, ⟨#[]⟩, s.size)]
    else match tokAt s a with
      | none => .error a
      | some (k, t, e) => match tks s f e with
        | .error b => .error b
        | .ok l => .ok ((k, t, a) :: l)
def toksAt (s : ByteArray) (i : Nat) : Except Nat (List Tok) := tks s (s.size + 1 - i) i
theorem tks_fuel (s : ByteArray) : ∀ f g i, s.size < f + i → s.size < g + i → i ≤ s.size → tks s f i = tks s g i
  | 0, g, i, hf, hg, hi => by omega
  | f + 1, 0, i, hf, hg, hi => by omega
  | f + 1, g + 1, i, hf, hg, hi => by
    obtain ⟨h1, h2, _⟩ := skipAt_is hi
    simp only [tks]
    split
    · rfl
    · split
      · rfl
      · rename_i k t e ht
        have := tokAt_end (by omega) ht
        rw [tks_fuel s f g e (by omega) (by omega) (by omega)]
theorem toksAt_eq {s : ByteArray} {i : Nat} (hi : i ≤ s.size) : toksAt s i = if s.size ≤ skipAt s i then .ok [(0, ⟨#[]⟩, s.size)]
    else match tokAt s (skipAt s i) with
      | none => .error (skipAt s i)
      | some (k, t, e) => match toksAt s e with
        | .error b => .error b
        | .ok l => .ok ((k, t, skipAt s i) :: l) := by
  have h0 : toksAt s i = tks s (s.size + 2) i := tks_fuel s _ _ _ (by omega) (by omega) hi
  obtain ⟨h1, h2, _⟩ := skipAt_is hi
  rw [h0]
  simp only [tks]
  by_cases hc : s.size ≤ skipAt s i
  · rw [if_pos hc, if_pos hc]
  · rw [if_neg hc, if_neg hc]
    cases ht : tokAt s (skipAt s i) with
    | none => rfl
    | some x =>
      obtain ⟨k, t, e⟩ := x
      have := tokAt_end (by omega) ht
      show (match tks s (s.size + 1) e with | .error b => _ | .ok l => _) = _
      rw [tks_fuel s (s.size + 1) (s.size + 1 - e) e (by omega) (by omega) (by omega)]
      rfl
theorem tks_ok (s : ByteArray) : ∀ f i l, i ≤ s.size → tks s f i = .ok l → 0 < l.length ∧ l.length ≤ s.size + 1 - i
  | 0, i, l, hi, h => by cases h
  | f + 1, i, l, hi, h => by
    obtain ⟨h1, h2, _⟩ := skipAt_is hi
    simp only [tks] at h
    split at h
    · cases h; simp; omega
    · split at h
      · cases h
      · rename_i k t e ht
        have he := tokAt_end (by omega) ht
        split at h
        · cases h
        · rename_i l' hl
          cases h
          have := tks_ok s f e l' (by omega) hl
          simp; omega
end Go.Proofs.YtckcbgijddglpaaGreatDoor
