/- The tokens of a text: its numbers are numbers, and all are small. -/
import Derived.Test.YtckcbgijddglpaaGreatDoorSyn26
namespace Go.Proofs.YtckcbgijddglpaaGreatDoor
open Go.ChangeShapes Go.WideShapes Go.ChangeAt Go.RowKit Go.PlainAid
set_option linter.unusedVariables false
/-- A token that is small, and, if it is a number, one of 64 bits. -/
def GoodT (t : Tok) : Prop := t.2.1.size ≤ 1000000 ∧ (t.1 = 3 → Lib.parseIntB 64 t.2.1.data.toList = .ok (numT t.2.1))
theorem kindOf_three (x : ByteArray) : kindOf x ≠ 3 := by unfold kindOf; split <;> (try split) <;> decide
theorem sub_small (s : ByteArray) (a b : Nat) (hs : s.size ≤ 8000) : (sub s a b).size ≤ 1000000 := by
  unfold sub
  rw [ByteArray.size_extract]; omega
theorem numOk_in {s : ByteArray} {i : Nat} (h : numOk s i = true) : numFrom s i < numEnd s i ∧ numIn s i = true := by
  rw [numOk_eq] at h
  simp only [Bool.and_eq_true, decide_eq_true_eq] at h
  exact ⟨h.1.1.1, h.2⟩
theorem qt_small (s : ByteArray) : ∀ f i out x e, qt s f i out = some (x, e) → x.length ≤ out.length + f
  | 0, i, out, x, e, h => by cases h
  | f + 1, i, out, x, e, h => by
    simp only [qt] at h
    split at h
    · cases h
    · split at h
      · have := qt_small s f _ _ _ _ h
        simp at this; omega
      · split at h
        · have := qt_small s f _ _ _ _ h
          simp at this; omega
        · injection h with h; injection h with h1 h2; subst h1; omega
theorem sign_small {s : ByteArray} {i : Nat} {k : Int} {t : ByteArray} {e : Nat} (h : signAt s i = some (k, t, e)) : k = 6 ∧ t.size ≤ 3 := by
  unfold signAt at h
  split at h
  · cases h
  · rename_i x hx
    injection h with h; injection h with h1 h2; injection h2 with h2 h3
    refine ⟨h1.symm, ?_⟩
    have hm := List.mem_of_find?_eq_some hx
    subst h2
    have : ∀ y ∈ signsL, y.size ≤ 3 := by decide
    exact this _ hm
theorem tok_good {s : ByteArray} (hs : s.size ≤ 8000) {a : Nat} (ha : a < s.size) {k : Int} {t : ByteArray} {e : Nat} (h : tokAt s a = some (k, t, e)) : GoodT (k, t, a) := by
  unfold tokAt at h
  split at h
  · unfold nameAt at h
    split at h
    · simp only [Option.some.injEq, Prod.mk.injEq] at h
      obtain ⟨h1, h2, h3⟩ := h
      rw [← h1, ← h2]
      exact ⟨sub_small _ _ _ hs, fun q => absurd q (kindOf_three _)⟩
    · cases h
  · split at h
    · unfold numAt at h
      split at h
      · rename_i hok
        simp only [Option.some.injEq, Prod.mk.injEq] at h
        obtain ⟨h1, h2, h3⟩ := h
        rw [← h1, ← h2]
        refine ⟨sub_small _ _ _ hs, fun _ => ?_⟩
        obtain ⟨p1, p2⟩ := numOk_in hok
        rcases parse_num s ha p1 with ⟨_, v, hv⟩ | ⟨hn, _⟩
        · show Lib.parseIntB 64 (sub s a (numEnd s a)).data.toList = .ok (numT (sub s a (numEnd s a)))
          rw [numT, hv]
        · rw [hn] at p2; cases p2
      · cases h
    · split at h
      · unfold hexAt at h
        split at h
        · simp only [Option.some.injEq, Prod.mk.injEq] at h
          obtain ⟨h1, h2, h3⟩ := h
          rw [← h1, ← h2]
          exact ⟨sub_small _ _ _ hs, fun q => by simp at q⟩
        · cases h
      · split at h
        · unfold quoAt at h
          split at h
          · cases h
          · split at h
            · rename_i x b hq _
              simp only [Option.some.injEq, Prod.mk.injEq] at h
              obtain ⟨h1, h2, h3⟩ := h
              rw [← h1, ← h2]
              refine ⟨?_, fun q => by simp at q⟩
              have := qt_small s _ _ _ _ _ hq
              show x.toArray.size ≤ 1000000
              simp at this ⊢; omega
            · cases h
        · obtain ⟨h1, h2⟩ := sign_small h
          exact ⟨by show t.size ≤ 1000000; omega, fun q => absurd (h1.symm.trans q) (by decide)⟩
theorem tks_good {s : ByteArray} (hs : s.size ≤ 8000) : ∀ f i l, i ≤ s.size → tks s f i = .ok l → ∀ t ∈ l, GoodT t
  | 0, i, l, hi, h => by cases h
  | f + 1, i, l, hi, h => by
    obtain ⟨h1, h2, h3, h4⟩ := skipAt_is hi
    simp only [tks] at h
    split at h
    · cases h
      intro t ht
      simp only [List.mem_singleton] at ht
      subst ht
      exact ⟨Nat.zero_le _, fun q => by simp at q⟩
    · split at h
      · cases h
      · rename_i k t e ht
        have he := tokAt_end (by omega) ht
        split at h
        · cases h
        · rename_i l' hl
          cases h
          have ih := tks_good hs f e l' he.2 hl
          intro u hu
          simp only [List.mem_cons] at hu
          rcases hu with rfl | hu
          · exact tok_good hs (by omega) ht
          · exact ih u hu
theorem toks_good {s : ByteArray} {l : List Tok} (h : toks s = .ok l) : ∀ t ∈ l, GoodT t := by
  unfold toks at h
  split at h
  · cases h
  · cases ht : toksAt s 0 with
    | error p => rw [ht] at h; cases h
    | ok m => rw [ht] at h; cases h; exact tks_good (by omega) _ 0 _ (Nat.zero_le _) ht
theorem tk_good {l : List Tok} (h : ∀ t ∈ l, GoodT t) (i : Nat) : GoodT (tk l i) := by
  rcases Nat.lt_or_ge i l.length with q | q
  · exact h _ (List.mem_of_getElem? (tk_get q))
  · rw [tk_past q]; exact ⟨Nat.zero_le _, fun q => by simp at q⟩
theorem toks_nums {s : ByteArray} {l : List Tok} (h : toks s = .ok l) : NumsL l := fun i h3 => ⟨(tk_good (toks_good h) i).1, (tk_good (toks_good h) i).2 h3⟩
theorem toks_small {s : ByteArray} {l : List Tok} (h : toks s = .ok l) : SmallL l := fun i => (tk_good (toks_good h) i).1
theorem toks_len {s : ByteArray} {l : List Tok} (h : toks s = .ok l) : l.length ≤ 8001 := by
  unfold toks at h
  split at h
  · cases h
  · cases ht : toksAt s 0 with
    | error p => rw [ht] at h; cases h
    | ok m => rw [ht] at h; cases h; have := (tks_ok s _ 0 _ (Nat.zero_le _) ht).2; omega
theorem assignsT_same (l : List Tok) : ∀ (f : Nat) (m : ModV) (i : Nat) (r : ModV × Nat), assignsT l f m i = .ok r → r.1.name = m.name ∧ r.1.tagging = m.tagging := by
  intro f
  induction f with
  | zero => intro m i r h; simp [assignsT, errT] at h
  | succ f ih =>
    intro m i r h
    unfold assignsT at h
    split at h
    · split at h
      · simp [errT] at h
      · simp only [ex_bind] at h
        obtain ⟨j, h1, ⟨k, j2, ns⟩, h2, h3⟩ := h
        have := ih _ _ _ h3
        exact this
    · injection h with h; subst h; exact ⟨rfl, rfl⟩
end Go.Proofs.YtckcbgijddglpaaGreatDoor
