/- The parser as a function: it goes on. -/
import Derived.Test.YtckcbgijddglpaaGreatDoorSynN
namespace Go.Proofs.YtckcbgijddglpaaGreatDoor
open Go.PlainAid
set_option linter.unusedVariables false

section
variable {α β : Type} {l : List Tok} {i j : Nat}
theorem ex_bind {x : Except SErr α} {f : α → Except SErr β} {r : β} : (x >>= f) = .ok r ↔ ∃ a, x = .ok a ∧ f a = .ok r := by cases x <;> simp [bind, Except.bind]
theorem ex_pure {a r : α} : (pure a : Except SErr α) = .ok r ↔ a = r := by simp [pure, Except.pure]
theorem ex_err {i : Nat} {e : Int} {r : α} : (errT l i e : Except SErr α) = .ok r ↔ False := by simp [errT]
theorem ite_or {c : Prop} [Decidable c] {a b : Except SErr α} {r : α} (h : (if c then a else b) = .ok r) : (c ∧ a = .ok r) ∨ (¬ c ∧ b = .ok r) := by
  by_cases q : c
  · rw [if_pos q] at h; exact .inl ⟨q, h⟩
  · rw [if_neg q] at h; exact .inr ⟨q, h⟩
theorem wantT_ok {s : ByteArray} (h : wantT l i s = .ok j) : isT l i s = true ∧ j = i + 1 := by
  unfold wantT at h
  split at h
  · injection h with h; exact ⟨by assumption, h.symm⟩
  · cases h
theorem tokT_ok {k : Int} {r : ByteArray × Nat} (hk : k ≠ 0) (h : tokT l i k = .ok r) : (tk l i).1 = k ∧ r.1 = (tk l i).2.1 ∧ r.2 = i + 1 := by
  unfold tokT at h
  split at h
  · injection h with h; subst h; exact ⟨by assumption, rfl, by rw [skT, if_neg (by omega)]⟩
  · cases h
theorem numberT_ok {r : Int × Nat} (h : numberT l i = .ok r) : (tk l i).1 = 3 ∧ r.1 = numT (tk l i).2.1 ∧ r.2 = i + 1 := by
  simp only [numberT, ex_bind, ex_pure] at h
  obtain ⟨⟨s, k⟩, h1, h2⟩ := h
  obtain ⟨h3, h4, h5⟩ := tokT_ok (by decide) h1
  subst h2
  simp only at h4 h5
  exact ⟨h3, by rw [← h4], h5⟩
theorem boundsT_lt {r : ConV × Nat} (h : boundsT l i = .ok r) : i < r.2 := by
  simp only [boundsT, ex_bind] at h
  obtain ⟨⟨c1, i1⟩, h1, ⟨c2, i2⟩, h2, h3⟩ := h
  have e1 : i + 1 ≤ i1 := by
    split at h1
    · simp only [ex_pure] at h1; injection h1 with _ h1; omega
    · simp only [ex_bind, ex_pure] at h1
      obtain ⟨⟨v, k⟩, h1, h4⟩ := h1
      have := (numberT_ok h1).2.2
      injection h4 with _ h4; simp only at this; omega
  have e2 : i1 ≤ i2 := by
    simp only at h2
    split at h2
    · split at h2
      · simp only [ex_pure] at h2; injection h2 with _ h2; omega
      · simp only [ex_bind, ex_pure] at h2
        obtain ⟨⟨v, k⟩, h2, h4⟩ := h2
        have := (numberT_ok h2).2.2
        injection h4 with _ h4; simp only at this; omega
    · simp only [ex_pure] at h2; injection h2 with _ h2; omega
  simp only at h3
  split at h3
  · simp only [ex_bind, ex_pure] at h3
    obtain ⟨k, h3, h4⟩ := h3
    have := (wantT_ok h3).2
    subst h4; simp only; omega
  · simp only [ex_pure] at h3; subst h3; simp only; omega
theorem rangeT_le {r : ConV × Nat} (h : rangeT l i = .ok r) : i ≤ r.2 := by
  unfold rangeT at h
  split at h
  · simp only [ex_bind, ex_pure] at h
    obtain ⟨⟨c, k⟩, h1, k2, h2, h3⟩ := h
    have := boundsT_lt h1
    have := (wantT_ok h2).2
    subst h3; simp only at *; omega
  · injection h with h; subst h; exact Nat.le_refl _
theorem sizeT_le {r : ConV × Nat} (h : sizeT l i = .ok r) : i ≤ r.2 := by
  unfold sizeT at h
  split at h
  · simp only [ex_bind, ex_pure] at h
    obtain ⟨j1, h1, j2, h2, ⟨c, k⟩, h3, j3, h4, j4, h5, h6⟩ := h
    have := (wantT_ok h1).2
    have := (wantT_ok h2).2
    have := boundsT_lt h3
    have := (wantT_ok h4).2
    have := (wantT_ok h5).2
    subst h6; simp only at *; omega
  · injection h with h; subst h; exact Nat.le_refl _
theorem itemT_lt {r : ItemV × Nat} (h : itemT l i = .ok r) : i < r.2 := by
  simp only [itemT, ex_bind] at h
  obtain ⟨⟨s, k⟩, h1, h2⟩ := h
  have := (tokT_ok (by decide) h1).2.2
  simp only at this h2
  split at h2
  · simp only [ex_bind, ex_pure] at h2
    obtain ⟨⟨v, k2⟩, h2, k3, h3, h4⟩ := h2
    have := (numberT_ok h2).2.2
    have := (wantT_ok h3).2
    subst h4; simp only at *; omega
  · simp only [ex_pure] at h2; subst h2; simp only; omega
theorem itemsT_le : ∀ (f : Nat) (n : NodeV) (i : Nat) (r : NodeV × Nat), itemsT l f n i = .ok r → i ≤ r.2 := by
  intro f
  induction f with
  | zero => intro n i r h; simp [itemsT, errT] at h
  | succ f ih =>
    intro n i r h
    unfold itemsT at h
    split at h
    · split at h
      · have := ih _ _ _ h; omega
      · simp only [ex_bind] at h
        obtain ⟨⟨x, j⟩, h1, h2⟩ := h
        have := itemT_lt h1
        have := ih _ _ _ h2
        simp only at *; omega
    · injection h with h; subst h; exact Nat.le_refl _
theorem valueT_lt {r : ValV × Nat} (h : valueT l i = .ok r) : r.2 = i + 1 := by
  simp only [valueT] at h
  repeat' split at h
  all_goals first | (injection h with h; subst h; rfl) | (simp [errT] at h)
theorem markT_le {n : NodeV} {r : NodeV × Nat} (h : markT l n i = .ok r) : i ≤ r.2 := by
  unfold markT at h
  split at h
  · simp only [ex_bind] at h
    obtain ⟨⟨v, k⟩, h1, h2⟩ := h
    have := (numberT_ok h1).2.2
    simp only at this h2
    split at h2
    · cases h2
    · simp only [ex_bind] at h2
      obtain ⟨j, h2, h3⟩ := h2
      have := (wantT_ok h2).2
      split at h3
      · simp only [ex_pure] at h3; subst h3; simp only at *; omega
      · split at h3
        · simp only [ex_pure] at h3; subst h3; simp only at *; omega
        · simp only [ex_pure] at h3; subst h3; simp only at *; omega
  · injection h with h; subst h; exact Nat.le_refl _
/-- A way to read a type goes on. -/
def NdLe (nd : NodeP) : Prop := ∀ i ns r, nd i ns = .ok r → i ≤ r.2.1
section
variable {nd : NodeP} (hnd : NdLe nd) {ns : List NodeV}
include hnd
theorem fieldT_lt {k : Int} {g : Nat} {r : FieldV × Nat × List NodeV} (h : fieldT l nd k g i ns = .ok r) : i < r.2.1 := by
  simp only [fieldT, ex_bind] at h
  obtain ⟨⟨s, j1⟩, h1, ⟨a, j2, ms⟩, h2, h3⟩ := h
  have := (tokT_ok (by decide) h1).2.2
  have := hnd _ _ _ h2
  simp only at *
  split at h3
  · simp only [ex_pure] at h3; subst h3; simp only; omega
  · split at h3
    · simp only [ex_pure] at h3; subst h3; simp only; omega
    · split at h3
      · simp only [ex_bind, ex_pure] at h3
        obtain ⟨⟨v, j3⟩, h3, h4⟩ := h3
        have := valueT_lt h3
        subst h4; simp only at *; omega
      · simp only [ex_pure] at h3; subst h3; simp only; omega
theorem rootT_le : ∀ (f : Nat) (n : NodeV) (i : Nat) (ns : List NodeV) (r), rootT l nd f n i ns = .ok r → i ≤ r.2.1 := by
  intro f
  induction f with
  | zero => intro n i ns r h; simp [rootT, errT] at h
  | succ f ih =>
    intro n i ns r h
    unfold rootT at h
    split at h
    · injection h with h; subst h; exact Nat.le_refl _
    · simp only [ex_bind] at h
      obtain ⟨⟨x, j, ms⟩, h1, h2⟩ := h
      have := fieldT_lt hnd h1
      simp only at *
      split at h2
      · have := ih _ _ _ _ h2; omega
      · simp only [ex_pure] at h2; subst h2; simp only; omega
theorem groupT_le (g : Nat) : ∀ (f : Nat) (n : NodeV) (i : Nat) (ns : List NodeV) (r), groupT l nd g f n i ns = .ok r → i ≤ r.2.1 := by
  intro f
  induction f with
  | zero => intro n i ns r h; simp [groupT, errT] at h
  | succ f ih =>
    intro n i ns r h
    simp only [groupT, ex_bind] at h
    obtain ⟨⟨x, j, ms⟩, h1, h2⟩ := h
    have := fieldT_lt hnd h1
    simp only at *
    split at h2
    · have := ih _ _ _ _ h2; omega
    · simp only [ex_bind, ex_pure] at h2
      obtain ⟨k, h2, h3⟩ := h2
      have := (wantT_ok h2).2
      subst h3; simp only; omega
theorem addT_le : ∀ (f g : Nat) (n : NodeV) (i : Nat) (ns : List NodeV) (r), addT l nd f g n i ns = .ok r → i ≤ r.2.1 := by
  intro f
  induction f with
  | zero => intro g n i ns r h; simp [addT, errT] at h
  | succ f ih =>
    intro g n i ns r h
    unfold addT at h
    split at h
    · split at h
      · simp only [ex_bind] at h
        obtain ⟨⟨x, j, ms⟩, h1, h2⟩ := h
        have := groupT_le hnd _ _ _ _ _ _ h1
        have := ih _ _ _ _ _ h2
        simp only at *; omega
      · simp only [ex_bind] at h
        obtain ⟨⟨x, j, ms⟩, h1, h2⟩ := h
        have := fieldT_lt hnd h1
        have := ih _ _ _ _ _ h2
        simp only at *; omega
    · injection h with h; subst h; exact Nat.le_refl _
theorem bracedT_le {n : NodeV} {r : NodeV × Nat × List NodeV} (h : bracedT l nd n i ns = .ok r) : i ≤ r.2.1 := by
  simp only [bracedT, ex_bind] at h
  obtain ⟨j, h1, h2⟩ := h
  have := (wantT_ok h1).2
  split at h2
  · simp only [ex_pure] at h2; subst h2; simp only; omega
  · simp only [ex_bind] at h2
    obtain ⟨⟨⟨n1, more⟩, j1, ms⟩, h2, ⟨n2, j2, ms2⟩, h3, j4, h4, h5⟩ := h2
    have := rootT_le hnd _ _ _ _ _ h2
    have := (wantT_ok h4).2
    simp only [ex_pure] at h5
    simp only at *
    split at h3
    · have := addT_le hnd _ _ _ _ _ _ h3
      subst h5; simp only at *; omega
    · simp only [ex_pure] at h3
      injection h3 with _ h3; injection h3 with h3 _
      subst h5; simp only at *; omega
theorem baseT_le {n : NodeV} {r : NodeV × Nat × List NodeV} (h : baseT l nd n i ns = .ok r) : i ≤ r.2.1 := by
  unfold baseT at h
  rcases ite_or h with ⟨hc, h⟩ | ⟨hc, h⟩
  · injection h with h; subst h; simp only; omega
  rcases ite_or h with ⟨hc, h⟩ | ⟨hc, h⟩
  · injection h with h; subst h; simp only; omega
  rcases ite_or h with ⟨hc, h⟩ | ⟨hc, h⟩
  · injection h with h; subst h; simp only; omega
  rcases ite_or h with ⟨hc, h⟩ | ⟨hc, h⟩
  · simp only [ex_bind, ex_pure] at h
    obtain ⟨⟨c, j⟩, h1, h2⟩ := h
    have := rangeT_le h1
    subst h2; simp only at *; omega
  rcases ite_or h with ⟨hc, h⟩ | ⟨hc, h⟩
  · simp only [ex_bind, ex_pure] at h
    obtain ⟨⟨c, j⟩, h1, h2⟩ := h
    have := sizeT_le h1
    subst h2; simp only at *; omega
  rcases ite_or h with ⟨hc, h⟩ | ⟨hc, h⟩
  · simp only [ex_bind, ex_pure] at h
    obtain ⟨j0, h0, ⟨c, j⟩, h1, h2⟩ := h
    have := (wantT_ok h0).2
    have := sizeT_le h1
    subst h2; simp only at *; omega
  rcases ite_or h with ⟨hc, h⟩ | ⟨hc, h⟩
  · simp only [ex_bind, ex_pure] at h
    obtain ⟨j0, h0, ⟨x, j1⟩, h1, ⟨n2, j2⟩, h2, j3, h3, h4⟩ := h
    have := (wantT_ok h0).2
    have := itemT_lt h1
    have := itemsT_le _ _ _ _ h2
    have := (wantT_ok h3).2
    subst h4; simp only at *; omega
  rcases ite_or h with ⟨hc, h⟩ | ⟨hc, h⟩
  · rcases ite_or h with ⟨hc, h⟩ | ⟨hc, h⟩
    · have := bracedT_le hnd h; omega
    · simp only [ex_bind, ex_pure] at h
      obtain ⟨⟨c, j⟩, h1, j2, h2, ⟨k, j3, ms⟩, h3, h4⟩ := h
      have := sizeT_le h1
      have := (wantT_ok h2).2
      have := hnd _ _ _ h3
      subst h4; simp only at *; omega
  rcases ite_or h with ⟨hc, h⟩ | ⟨hc, h⟩
  · have := bracedT_le hnd h; omega
  rcases ite_or h with ⟨hc, h⟩ | ⟨hc, h⟩
  · have := bracedT_le hnd h; omega
  · simp [errT] at h
end
theorem nodeT_le (l : List Tok) : ∀ d, NdLe (nodeT l d) := by
  intro d
  induction d with
  | zero => intro i ns r h; simp only [nodeT] at h; split at h <;> simp [errT] at h
  | succ d ih =>
    intro i ns r h
    simp only [nodeT] at h
    split at h
    · simp [errT] at h
    split at h
    · simp [errT] at h
    simp only [ex_bind, ex_pure] at h
    obtain ⟨⟨n, j⟩, h1, ⟨n2, j2, ms⟩, h2, h3⟩ := h
    have := markT_le h1
    have := baseT_le ih h2
    subst h3; simp only at *; omega
end
end Go.Proofs.YtckcbgijddglpaaGreatDoor
