/- What the tokens of a text are like. -/
import Derived.Test.YtknebkncepgppaaDoorLexR7
namespace Go.Proofs.YtknebkncepgppaaDoor
open Go.PlainAid
set_option linter.unusedVariables false

/-- A token that is written as it reads. -/
def PlainTok (s : ByteArray) (t : Tok) : Prop := t.1 ≠ 4 → t.1 ≠ 7 → t.1 ≠ 0 → t.2.2 + t.2.1.size ≤ s.size ∧ s.extract t.2.2 (t.2.2 + t.2.1.size) = t.2.1
theorem kindOf_cases (x : ByteArray) : kindOf x = 1 ∨ kindOf x = 2 ∨ kindOf x = 5 := by unfold kindOf; split <;> (try split) <;> simp
theorem tok_is {s : ByteArray} {a : Nat} (ha : a < s.size) {k : Int} {t : ByteArray} {e : Nat} (h : tokAt s a = some (k, t, e)) : k ≠ 0 ∧ (k ≠ 4 → k ≠ 7 → t = sub s a e) := by
  unfold tokAt at h
  split at h
  · unfold nameAt at h
    split at h
    · simp only [Option.some.injEq, Prod.mk.injEq] at h
      obtain ⟨h1, h2, h3⟩ := h
      rw [← h1, ← h2, ← h3]
      exact ⟨by rcases kindOf_cases (sub s a (nameEnd s a)) with h | h | h <;> rw [h] <;> decide, fun _ _ => rfl⟩
    · cases h
  · split at h
    · unfold numAt at h
      split at h
      · simp only [Option.some.injEq, Prod.mk.injEq] at h
        obtain ⟨h1, h2, h3⟩ := h
        rw [← h1, ← h2, ← h3]
        exact ⟨by decide, fun _ _ => rfl⟩
      · cases h
    · split at h
      · unfold hexAt at h
        split at h
        · simp only [Option.some.injEq, Prod.mk.injEq] at h
          obtain ⟨h1, h2, h3⟩ := h
          rw [← h1]
          exact ⟨by decide, fun h => absurd rfl h⟩
        · cases h
      · split at h
        · unfold quoAt at h
          split at h
          · cases h
          · split at h
            · simp only [Option.some.injEq, Prod.mk.injEq] at h
              obtain ⟨h1, h2, h3⟩ := h
              rw [← h1]
              exact ⟨by decide, fun _ h => absurd rfl h⟩
            · cases h
        · obtain ⟨h1, h2, h3, h4⟩ := sign_facts ha h
          rw [h3]
          exact ⟨by decide, fun _ _ => h4⟩
theorem plain_tok {s : ByteArray} {a : Nat} (ha : a < s.size) {k : Int} {t : ByteArray} {e : Nat} (h : tokAt s a = some (k, t, e)) : PlainTok s (k, t, a) := by
  intro h4 h7 h0
  have he := tokAt_end ha h
  obtain rfl := (tok_is ha h).2 h4 h7
  show a + (sub s a e).size ≤ s.size ∧ s.extract a (a + (sub s a e).size) = sub s a e
  rw [sub_size s a e he.2, show a + (e - a) = e by omega]
  exact ⟨he.2, rfl⟩
/-- The tokens from a place on. -/
def Lst (s : ByteArray) : Nat → List Tok → Prop
  | _, [] => False
  | i, [t] => t = (0, ⟨#[]⟩, s.size) ∧ i ≤ s.size
  | i, t :: r :: q => i ≤ t.2.2 ∧ t.2.2 < s.size ∧ t.1 ≠ 0 ∧ PlainTok s t ∧ Lst s (t.2.2 + 1) (r :: q)
theorem lst_mono {s : ByteArray} : ∀ {l : List Tok} {i j : Nat}, j ≤ i → Lst s i l → Lst s j l
  | [], _, _, _, h => h
  | [t], _, _, hij, h => ⟨h.1, Nat.le_trans hij h.2⟩
  | t :: r :: q, _, _, hij, h => ⟨Nat.le_trans hij h.1, h.2⟩
theorem tks_lst (s : ByteArray) : ∀ f i l, i ≤ s.size → tks s f i = .ok l → Lst s i l
  | 0, i, l, hi, h => by cases h
  | f + 1, i, l, hi, h => by
    obtain ⟨h1, h2, _⟩ := skipAt_is hi
    simp only [tks] at h
    split at h
    · cases h; exact ⟨rfl, hi⟩
    · split at h
      · cases h
      · rename_i k t e ht
        have he := tokAt_end (by omega) ht
        split at h
        · cases h
        · rename_i l' hl
          cases h
          have ih := tks_lst s f e l' he.2 hl
          cases l' with
          | nil => exact ih.elim
          | cons r q => exact ⟨h1, by show skipAt s i < s.size; omega, (tok_is (by omega) ht).1, plain_tok (by omega) ht, lst_mono (by show skipAt s i + 1 ≤ e; omega) ih⟩
theorem lst_at {s : ByteArray} : ∀ {l : List Tok} {i : Nat}, Lst s i l → ∀ j t, l[j]? = some t → i ≤ t.2.2 ∧ t.2.2 ≤ s.size ∧ (t.1 = 0 ↔ j + 1 = l.length) ∧ PlainTok s t ∧ (j + 1 = l.length → t.2.2 = s.size)
  | [], _, h, _, _, _ => h.elim
  | [u], i, h, j, t, hj => by
    obtain ⟨rfl, hi⟩ := h
    cases j with
    | zero =>
      simp at hj; subst hj
      exact ⟨hi, Nat.le_refl _, by simp, fun _ _ h => absurd rfl h, fun _ => rfl⟩
    | succ j => simp at hj
  | u :: r :: q, i, h, j, t, hj => by
    obtain ⟨h1, h2, h3, h4, h5⟩ := h
    cases j with
    | zero =>
      simp at hj; subst hj
      exact ⟨h1, Nat.le_of_lt h2, ⟨fun h => absurd h h3, fun h => by simp at h⟩, h4, fun h => by simp at h⟩
    | succ j =>
      have := lst_at h5 j t (by simpa using hj)
      refine ⟨by omega, this.2.1, ?_, this.2.2.2.1, ?_⟩
      · rw [this.2.2.1]; simp
      · intro h; exact this.2.2.2.2 (by simpa using h)
theorem lst_next {s : ByteArray} : ∀ {l : List Tok} {i : Nat}, Lst s i l → ∀ j t u, l[j]? = some t → l[j + 1]? = some u → t.2.2 < u.2.2
  | [], _, h, _, _, _, _, _ => h.elim
  | [u], i, h, j, t, v, hj, hk => by simp at hk
  | u :: r :: q, i, h, j, t, v, hj, hk => by
    obtain ⟨h1, h2, h3, h4, h5⟩ := h
    cases j with
    | zero =>
      simp at hj; subst hj
      have := (lst_at h5 0 v (by simpa using hk)).1
      omega
    | succ j => exact lst_next h5 j t v (by simpa using hj) (by simpa using hk)
theorem tks_err (s : ByteArray) : ∀ f i p, i ≤ s.size → tks s f i = .error p → p ≤ s.size
  | 0, i, p, hi, h => by cases h; exact hi
  | f + 1, i, p, hi, h => by
    obtain ⟨h1, h2, _⟩ := skipAt_is hi
    simp only [tks] at h
    split at h
    · cases h
    · split at h
      · cases h; exact h2
      · rename_i k t e ht
        have he := tokAt_end (by omega) ht
        split at h
        · rename_i b hl
          cases h
          exact tks_err s f e _ he.2 hl
        · cases h
theorem toks_lst {s : ByteArray} {l : List Tok} (h : toks s = .ok l) : Lst s 0 l := by
  unfold toks at h
  split at h
  · cases h
  · cases ht : toksAt s 0 with
    | error p => rw [ht] at h; cases h
    | ok m => rw [ht] at h; cases h; exact tks_lst s _ 0 _ (Nat.zero_le _) ht
theorem toks_err {s : ByteArray} {p : Nat} {x : Int} (h : toks s = .error (p, x)) : p ≤ s.size ∧ x ≠ 0 := by
  unfold toks at h
  split at h
  · cases h; exact ⟨Nat.zero_le _, by decide⟩
  · cases ht : toksAt s 0 with
    | error q => rw [ht] at h; cases h; exact ⟨tks_err s _ 0 _ (Nat.zero_le _) ht, by decide⟩
    | ok m => rw [ht] at h; cases h
theorem lst_pos {s : ByteArray} {l : List Tok} {i : Nat} (h : Lst s i l) : 0 < l.length := by
  cases l with
  | nil => exact h.elim
  | cons t r => simp
end Go.Proofs.YtknebkncepgppaaDoor
