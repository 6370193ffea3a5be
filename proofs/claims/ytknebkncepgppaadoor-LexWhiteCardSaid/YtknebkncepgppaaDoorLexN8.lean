/- Names that are made of parts. -/
import Derived.Test.YtknebkncepgppaaDoorLexN7
namespace Go.Proofs.YtknebkncepgppaaDoor
open Go.PlainAid
set_option linter.unusedVariables false

/-- Letters, digits and single hyphens that stand ahead of something. -/
def NL (l : List UInt8) : Prop := ∀ (k : Nat) (c : UInt8), l[k]? = some c → isLet c.toNat = true ∨ isDig c.toNat = true ∨ (c = 45 ∧ ∃ d, l[k + 1]? = some d ∧ d ≠ 45)
theorem NL.append {l m : List UInt8} (hl : NL l) (hm : NL m) : NL (l ++ m) := by
  intro k c hk
  rcases Nat.lt_or_ge k l.length with h | h
  · rw [List.getElem?_append_left h] at hk
    rcases hl k c hk with h1 | h1 | ⟨h1, d, h2, h3⟩
    · exact .inl h1
    · exact .inr (.inl h1)
    · have hlt : k + 1 < l.length := by
        rcases Nat.lt_or_ge (k + 1) l.length with h | h
        · exact h
        · rw [List.getElem?_eq_none h] at h2; cases h2
      exact .inr (.inr ⟨h1, d, by rw [List.getElem?_append_left hlt]; exact h2, h3⟩)
  · rw [List.getElem?_append_right h] at hk
    rcases hm _ c hk with h1 | h1 | ⟨h1, d, h2, h3⟩
    · exact .inl h1
    · exact .inr (.inl h1)
    · exact .inr (.inr ⟨h1, d, by rw [List.getElem?_append_right (by omega), show k + 1 - l.length = k - l.length + 1 by omega]; exact h2, h3⟩)
/-- A name of parts: the first letter is c0, and no U is second. -/
def NI (c0 : UInt8) (l : List UInt8) : Prop := NL l ∧ l[0]? = some c0 ∧ l[1]? ≠ some 85
theorem NI.append {c0 : UInt8} {l m : List UInt8} (h : NI c0 l) (hm : NL m) (h0 : m[0]? ≠ some 85) : NI c0 (l ++ m) := by
  have hpos : 0 < l.length := by
    rcases Nat.eq_zero_or_pos l.length with h1 | h1
    · have := h.2.1; rw [List.getElem?_eq_none (by omega)] at this; cases this
    · exact h1
  refine ⟨h.1.append hm, by rw [List.getElem?_append_left hpos]; exact h.2.1, ?_⟩
  rcases Nat.lt_or_ge 1 l.length with h1 | h1
  · rw [List.getElem?_append_left h1]; exact h.2.2
  · rw [List.getElem?_append_right h1, show 1 - l.length = 0 by omega]; exact h0
def partL : Nat → List UInt8
  | 0 => [98]
  | 1 => [55]
  | 2 => [45, 99]
  | 3 => [90]
  | _ => [45, 57]
theorem part_ok (r : Nat) : NL (partL r) ∧ (partL r)[0]? ≠ some 85 ∧ (partL r).length ≤ 2 := by
  have one : ∀ c : UInt8, (isLet c.toNat = true ∨ isDig c.toNat = true) → NL [c] := by
    intro c hc k d hk
    cases k with
    | zero => simp at hk; subst hk; rcases hc with h | h; exact .inl h; exact .inr (.inl h)
    | succ k => simp at hk
  have two : ∀ c : UInt8, (isLet c.toNat = true ∨ isDig c.toNat = true) → c ≠ 45 → NL [45, c] := by
    intro c hc h45 k d hk
    match k with
    | 0 => simp at hk; subst hk; exact .inr (.inr ⟨rfl, c, rfl, h45⟩)
    | 1 => simp at hk; subst hk; rcases hc with h | h; exact .inl h; exact .inr (.inl h)
    | k + 2 => simp at hk
  match r with
  | 0 => exact ⟨one 98 (.inl rfl), by decide, by decide⟩
  | 1 => exact ⟨one 55 (.inr rfl), by decide, by decide⟩
  | 2 => exact ⟨two 99 (.inl rfl) (by decide), by decide, by decide⟩
  | 3 => exact ⟨one 90 (.inl rfl), by decide, by decide⟩
  | r + 4 => exact ⟨two 57 (.inr rfl) (by decide), by show ([45, 57] : List UInt8)[0]? ≠ some 85; decide, by simp [partL]⟩
theorem x_ok : NL [120] ∧ ([120] : List UInt8)[0]? ≠ some 85 := by
  refine ⟨?_, by decide⟩
  intro k d hk
  cases k with
  | zero => simp at hk; subst hk; exact .inl rfl
  | succ k => simp at hk
theorem start_ok (c0 : UInt8) (h : isLet c0.toNat = true) : NI c0 [c0] := by
  refine ⟨?_, rfl, by simp⟩
  intro k d hk
  cases k with
  | zero => simp at hk; subst hk; exact .inl h
  | succ k => simp at hk
theorem ni_not_word {c0 : UInt8} {s : ByteArray} (hc : c0 = 65 ∨ c0 = 97) (h : NI c0 s.data.toList) : isWord s = false := by
  cases hw : isWord s with
  | false => rfl
  | true =>
    exfalso
    obtain ⟨x, hx, he⟩ := List.any_eq_true.1 hw
    have he : s.data.toList = x.data.toList := by simpa using he
    rw [he] at h
    have hall : ∀ x ∈ wordsL, ¬ ((x.data.toList[0]? = some 65 ∨ x.data.toList[0]? = some 97) ∧ x.data.toList[1]? ≠ some 85) := by decide
    refine hall x hx ⟨?_, h.2.2⟩
    rcases hc with rfl | rfl
    · exact .inl h.2.1
    · exact .inr h.2.1
/-- .. at a place of a text, with what stands behind it. -/
theorem nl_run {s : ByteArray} {l : List UInt8} {i : Nat} (hl : NL l) (h : ∀ k c, l[k]? = some c → s.data.toList[i + k]? = some c) : IsRun (nmP s) i (i + l.length) := by
  refine ⟨by omega, fun k h1 h2 => ?_⟩
  have hk : l[k - i]? = some (l[k - i]'(by omega)) := List.getElem?_eq_getElem (by omega)
  have hb := dig_of_list (h (k - i) _ hk)
  rw [show i + (k - i) = k by omega] at hb
  rcases hl _ _ hk with h3 | h3 | ⟨h3, d, h4, h5⟩
  · simp [nmP, hb, h3]
  · simp [nmP, hb, h3]
  · have hb2 := dig_of_list (h _ _ h4)
    rw [show i + (k - i + 1) = k + 1 by omega] at hb2
    have hne : (d.toNat : Int) ≠ 45 := by
      intro e
      apply h5
      apply UInt8.toNat_inj.1
      show d.toNat = 45
      omega
    simp [nmP, hb, hb2, h3, hne]
theorem toks_name {c0 : UInt8} {s : ByteArray} (hc : c0 = 65 ∨ c0 = 97) (h : NI c0 s.data.toList) (hs : s.size ≤ 60) : toks s = .ok [(if c0 = 65 then 1 else 2, s, 0), (0, ⟨#[]⟩, s.size)] := by
  have hz := Lib.size_eq s
  have hpos : 0 < s.size := by
    rcases Nat.eq_zero_or_pos s.size with h1 | h1
    · have := h.2.1; rw [List.getElem?_eq_none (by omega)] at this; cases this
    · exact h1
  have hb0 := dig_of_list h.2.1
  have hlet : isLet (bt s 0) = true := by rw [hb0]; rcases hc with rfl | rfl <;> rfl
  have hrun : IsRun (nmP s) 0 s.size := by have := nl_run (s := s) (i := 0) h.1 (fun k c hk => by rw [Nat.zero_add]; exact hk); rwa [Nat.zero_add, ← hz] at this
  have hend : nameEnd s 0 = s.size := spanAt_run (nmP_lt s) (Nat.zero_le _) hrun (by simp [nmP, bt_end s (Nat.le_refl _), isLet, isDig])
  have hlast : bt s (s.size - 1) ≠ 45 := by
    obtain ⟨c, hcc⟩ : ∃ c, s.data.toList[s.size - 1]? = some c := ⟨_, List.getElem?_eq_getElem (by omega)⟩
    rw [dig_of_list hcc]
    rcases h.1 _ _ hcc with h1 | h1 | ⟨h1, d, h2, h3⟩
    · intro e; rw [e] at h1; cases h1
    · intro e; rw [e] at h1; cases h1
    · rw [List.getElem?_eq_none (by omega)] at h2; cases h2
  have hok : nameOk s 0 = true := by rw [nameOk, hend, decide_eq_true_iff]; exact ⟨by omega, hlast⟩
  have hwhole : sub s 0 s.size = s := by apply ba_ext; rw [sub_list s 0 s.size (Nat.le_refl _), List.drop_zero, hz, List.take_length]
  have hkind : kindOf s = if c0 = 65 then 1 else 2 := by
    rw [kindOf, ni_not_word hc h, if_neg (by simp), hb0]
    rcases hc with rfl | rfl <;> rfl
  have htok : tokAt s 0 = some (if c0 = 65 then 1 else 2, s, s.size) := by rw [tokAt, if_pos hlet, nameAt, if_pos hok, hend, hwhole, hkind]
  have hne : isWh (bt s 0) = false := by rw [hb0]; rcases hc with rfl | rfl <;> rfl
  have h45 : ¬ (bt s 0 = 45 ∧ bt s 1 = 45) := by rw [hb0]; rcases hc with rfl | rfl <;> (rintro ⟨h, _⟩; cases h)
  exact toks_one hpos (by omega) hne h45 htok
theorem toks_long {c0 : UInt8} {s : ByteArray} (hc : c0 = 65 ∨ c0 = 97) (h : NI c0 s.data.toList) (hs : 60 < s.size) (hmax : s.size ≤ 8000) : toks s = .error (0, 6) := by
  have hz := Lib.size_eq s
  have hb0 := dig_of_list h.2.1
  have hlet : isLet (bt s 0) = true := by rw [hb0]; rcases hc with rfl | rfl <;> rfl
  have hrun : IsRun (nmP s) 0 s.size := by have := nl_run (s := s) (i := 0) h.1 (fun k c hk => by rw [Nat.zero_add]; exact hk); rwa [Nat.zero_add, ← hz] at this
  have hend : nameEnd s 0 = s.size := spanAt_run (nmP_lt s) (Nat.zero_le _) hrun (by simp [nmP, bt_end s (Nat.le_refl _), isLet, isDig])
  have hok : nameOk s 0 = false := by rw [nameOk, hend, decide_eq_false_iff_not]; omega
  have htok : tokAt s 0 = none := by rw [tokAt, if_pos hlet, nameAt, hok]; rfl
  have hne : isWh (bt s 0) = false := by rw [hb0]; rcases hc with rfl | rfl <;> rfl
  have h45 : ¬ (bt s 0 = 45 ∧ bt s 1 = 45) := by rw [hb0]; rcases hc with rfl | rfl <;> (rintro ⟨h, _⟩; cases h)
  have hsk : skipAt s 0 = 0 := skipAt_stop hne h45
  rw [toks, if_neg (by omega), toks_none (by omega) hsk htok]; rfl
/-- Behind "B ", and with a hyphen at its end, it is none. -/
def bndB (s : ByteArray) : ByteArray := (⟨#[66, 32]⟩ : ByteArray) ++ s ++ ⟨#[45]⟩
theorem bndB_list (s : ByteArray) : (bndB s).data.toList = 66 :: 32 :: (s.data.toList ++ [45]) := by
  rw [bndB, ByteArray.toList_data_append, ByteArray.toList_data_append]; rfl
theorem toks_bnd {c0 : UInt8} {s : ByteArray} (hc : c0 = 65 ∨ c0 = 97) (h : NI c0 s.data.toList) (hmax : s.size ≤ 7000) : toks (bndB s) = .error (2, 6) := by
  have hz := Lib.size_eq s
  have hL := bndB_list s
  have hsz : (bndB s).size = s.size + 3 := by rw [Lib.size_eq, hL]; simp
  have b0 : bt (bndB s) 0 = 66 := dig_of_list (c := 66) (by rw [hL]; rfl)
  have b1 : bt (bndB s) 1 = 32 := dig_of_list (c := 32) (by rw [hL]; rfl)
  have bs : ∀ k c, s.data.toList[k]? = some c → (bndB s).data.toList[2 + k]? = some c := by
    intro k c hk
    rw [hL, show 2 + k = k + 1 + 1 by omega, List.getElem?_cons_succ, List.getElem?_cons_succ, List.getElem?_append_left (by
      rcases Nat.lt_or_ge k s.data.toList.length with h1 | h1
      · exact h1
      · rw [List.getElem?_eq_none h1] at hk; cases hk)]
    exact hk
  have b2 : bt (bndB s) 2 = c0.toNat := dig_of_list (by have := bs 0 c0 h.2.1; exact this)
  have blast : bt (bndB s) (s.size + 2) = 45 := dig_of_list (c := 45) (by
    rw [hL, show s.size + 2 = s.size + 1 + 1 by omega, List.getElem?_cons_succ, List.getElem?_cons_succ, List.getElem?_append_right (by omega), show s.size - s.data.toList.length = 0 by omega]; rfl)
  have bend : bt (bndB s) (s.size + 3) = 0 := bt_end _ (by omega)
  -- the first name
  have e1 : nameEnd (bndB s) 0 = 1 := by
    refine spanAt_run (nmP_lt _) (Nat.zero_le _) ⟨by omega, fun k h1 h2 => ?_⟩ (by simp [nmP, b1, isLet, isDig])
    obtain rfl : k = 0 := by omega
    simp [nmP, b0, isLet]
  have t1 : ∃ k x, tokAt (bndB s) 0 = some (k, x, 1) := by
    refine ⟨kindOf (sub (bndB s) 0 1), sub (bndB s) 0 1, ?_⟩
    rw [tokAt, if_pos (by rw [b0]; rfl), nameAt, if_pos (by rw [nameOk, e1, decide_eq_true_iff]; exact ⟨by omega, by rw [show 1 - 1 = 0 by rfl, b0]; omega⟩), e1]
  obtain ⟨k1, x1, t1⟩ := t1
  have s0 : skipAt (bndB s) 0 = 0 := skipAt_stop (by rw [b0]; rfl) (by rw [b0]; omega)
  have hlet2 : isLet (bt (bndB s) 2) = true := by rw [b2]; rcases hc with rfl | rfl <;> rfl
  have s2 : skipAt (bndB s) 2 = 2 := skipAt_stop (by rw [b2]; rcases hc with rfl | rfl <;> rfl) (by rw [b2]; rcases hc with rfl | rfl <;> (rintro ⟨h, _⟩; cases h))
  have s1 : skipAt (bndB s) 1 = 2 := by rw [skipAt_white (by rw [b1]; rfl)]; exact s2
  have run2 : IsRun (nmP (bndB s)) 2 (s.size + 3) := by
    have hr := nl_run (s := bndB s) (i := 2) h.1 bs
    refine ⟨by omega, fun k h1 h2 => ?_⟩
    by_cases hk : k < 2 + s.data.toList.length
    · exact hr.2 k h1 hk
    · obtain rfl : k = s.size + 2 := by omega
      simp [nmP, blast, bend]
  have e2 : nameEnd (bndB s) 2 = s.size + 3 := spanAt_run (nmP_lt _) (by omega) run2 (by simp [nmP, bend, isLet, isDig])
  have t2 : tokAt (bndB s) 2 = none := by
    rw [tokAt, if_pos hlet2, nameAt, if_neg (by
      rw [nameOk, e2, show s.size + 3 - 1 = s.size + 2 by omega, blast]; simp)]
  have h2 : toksAt (bndB s) 1 = .error 2 := by
    rw [← toks_at (by omega), s1, toks_none (by omega) s2 t2]
  rw [toks, if_neg (by omega), toks_some (by omega) s0 t1, h2]; rfl
end Go.Proofs.YtknebkncepgppaaDoor
