/- The parser: a node: lengths, and what is stored. -/
import Derived.Test.YtckcbgijddglpaaGreatDoorSyn21
namespace Go.Proofs.YtckcbgijddglpaaGreatDoor
open Go.ChangeShapes Go.WideShapes Go.ChangeAt Go.RowKit Go.PlainAid
set_option linter.unusedVariables false
set_option linter.unusedSimpArgs false
/-- Nodes become no fewer. -/
def NdLen (nd : NodeP) : Prop := ∀ i ns r, nd i ns = .ok r → ns.length ≤ r.2.2.length
section
variable {l : List Tok} {nd : NodeP} (hnd : NdLen nd) {i : Nat} {ns : List NodeV}
include hnd
theorem fieldT_len {k : Int} {g : Nat} {r : FieldV × Nat × List NodeV} (h : fieldT l nd k g i ns = .ok r) : ns.length ≤ r.2.2.length := by
  simp only [fieldT, ex_bind] at h
  obtain ⟨⟨s, j1⟩, h1, ⟨a, j2, ms⟩, h2, h3⟩ := h
  have hl := hnd _ _ _ h2
  simp only at hl h3
  split at h3
  · simp only [ex_pure] at h3; subst h3; exact hl
  · split at h3
    · simp only [ex_pure] at h3; subst h3; exact hl
    · split at h3
      · simp only [ex_bind, ex_pure] at h3
        obtain ⟨⟨v, j3⟩, h3, h4⟩ := h3
        subst h4; exact hl
      · simp only [ex_pure] at h3; subst h3; exact hl
theorem rootT_len : ∀ (f : Nat) (n : NodeV) (i : Nat) (ns : List NodeV) (r), rootT l nd f n i ns = .ok r → ns.length ≤ r.2.2.length := by
  intro f
  induction f with
  | zero => intro n i ns r h; simp [rootT, errT] at h
  | succ f ih =>
    intro n i ns r h
    unfold rootT at h
    split at h
    · injection h with h; subst h; exact Nat.le_refl _
    · simp only [ex_bind] at h
      obtain ⟨⟨x, j, ms⟩, h1, h2⟩ := h
      have hl := fieldT_len hnd h1
      simp only at hl h2
      split at h2
      · have := ih _ _ _ _ h2; omega
      · simp only [ex_pure] at h2; subst h2; exact hl
theorem groupT_len (g : Nat) : ∀ (f : Nat) (n : NodeV) (i : Nat) (ns : List NodeV) (r), groupT l nd g f n i ns = .ok r → ns.length ≤ r.2.2.length := by
  intro f
  induction f with
  | zero => intro n i ns r h; simp [groupT, errT] at h
  | succ f ih =>
    intro n i ns r h
    simp only [groupT, ex_bind] at h
    obtain ⟨⟨x, j, ms⟩, h1, h2⟩ := h
    have hl := fieldT_len hnd h1
    simp only at hl h2
    split at h2
    · have := ih _ _ _ _ h2; omega
    · simp only [ex_bind, ex_pure] at h2
      obtain ⟨k, h2, h3⟩ := h2
      subst h3; exact hl
theorem addT_len : ∀ (f g : Nat) (n : NodeV) (i : Nat) (ns : List NodeV) (r), addT l nd f g n i ns = .ok r → ns.length ≤ r.2.2.length := by
  intro f
  induction f with
  | zero => intro g n i ns r h; simp [addT, errT] at h
  | succ f ih =>
    intro g n i ns r h
    unfold addT at h
    split at h
    · split at h
      · simp only [ex_bind] at h
        obtain ⟨⟨x, j, ms⟩, h1, h2⟩ := h
        have := groupT_len hnd _ _ _ _ _ _ h1
        have := ih _ _ _ _ _ h2
        simp only at *; omega
      · simp only [ex_bind] at h
        obtain ⟨⟨x, j, ms⟩, h1, h2⟩ := h
        have := fieldT_len hnd h1
        have := ih _ _ _ _ _ h2
        simp only at *; omega
    · injection h with h; subst h; exact Nat.le_refl _
theorem bracedT_len {n : NodeV} {r : NodeV × Nat × List NodeV} (h : bracedT l nd n i ns = .ok r) : ns.length ≤ r.2.2.length := by
  simp only [bracedT, ex_bind] at h
  obtain ⟨j, h1, h2⟩ := h
  split at h2
  · simp only [ex_pure] at h2; subst h2; exact Nat.le_refl _
  · simp only [ex_bind] at h2
    obtain ⟨⟨⟨n1, more⟩, j1, ms⟩, h2, ⟨n2, j2, ms2⟩, h3, j4, h4, h5⟩ := h2
    have hl := rootT_len hnd _ _ _ _ _ h2
    simp only [ex_pure] at h5
    simp only at hl h3
    subst h5
    split at h3
    · have := addT_len hnd _ _ _ _ _ _ h3
      simp only at *; omega
    · simp only [ex_pure] at h3
      injection h3 with _ h3; injection h3 with _ h3; subst h3; exact hl
theorem baseT_len {n : NodeV} {r : NodeV × Nat × List NodeV} (h : baseT l nd n i ns = .ok r) : ns.length ≤ r.2.2.length := by
  unfold baseT at h
  rcases ite_or h with ⟨hc, h⟩ | ⟨hc, h⟩
  · injection h with h; subst h; exact Nat.le_refl _
  rcases ite_or h with ⟨hc, h⟩ | ⟨hc, h⟩
  · injection h with h; subst h; exact Nat.le_refl _
  rcases ite_or h with ⟨hc, h⟩ | ⟨hc, h⟩
  · injection h with h; subst h; exact Nat.le_refl _
  rcases ite_or h with ⟨hc, h⟩ | ⟨hc, h⟩
  · simp only [ex_bind, ex_pure] at h
    obtain ⟨⟨c, j⟩, h1, h2⟩ := h
    subst h2; exact Nat.le_refl _
  rcases ite_or h with ⟨hc, h⟩ | ⟨hc, h⟩
  · simp only [ex_bind, ex_pure] at h
    obtain ⟨⟨c, j⟩, h1, h2⟩ := h
    subst h2; exact Nat.le_refl _
  rcases ite_or h with ⟨hc, h⟩ | ⟨hc, h⟩
  · simp only [ex_bind, ex_pure] at h
    obtain ⟨j0, h0, ⟨c, j⟩, h1, h2⟩ := h
    subst h2; exact Nat.le_refl _
  rcases ite_or h with ⟨hc, h⟩ | ⟨hc, h⟩
  · simp only [ex_bind, ex_pure] at h
    obtain ⟨j0, h0, ⟨x, j1⟩, h1, ⟨n2, j2⟩, h2, j3, h3, h4⟩ := h
    subst h4; exact Nat.le_refl _
  rcases ite_or h with ⟨hc, h⟩ | ⟨hc, h⟩
  · rcases ite_or h with ⟨hc, h⟩ | ⟨hc, h⟩
    · exact bracedT_len hnd h
    · simp only [ex_bind, ex_pure] at h
      obtain ⟨⟨c, j⟩, h1, j2, h2, ⟨k, j3, ms⟩, h3, h4⟩ := h
      have := hnd _ _ _ h3
      subst h4; exact this
  rcases ite_or h with ⟨hc, h⟩ | ⟨hc, h⟩
  · exact bracedT_len hnd h
  rcases ite_or h with ⟨hc, h⟩ | ⟨hc, h⟩
  · exact bracedT_len hnd h
  · simp [errT] at h
end
theorem nodeT_len (l : List Tok) : ∀ d, NdLen (nodeT l d) := by
  intro d
  induction d with
  | zero => intro i ns r h; simp only [nodeT] at h; split at h <;> simp [errT] at h
  | succ d ih =>
    intro i ns r h
    simp only [nodeT] at h
    split at h
    · simp [errT] at h
    split at h
    · simp [errT] at h
    simp only [ex_bind, ex_pure] at h
    obtain ⟨⟨n, j⟩, h1, ⟨n2, j2, ms⟩, h2, h3⟩ := h
    have := baseT_len ih h2
    subst h3; simp at *; omega
theorem markT_form {l : List Tok} {i : Nat} {r : NodeV × Nat} (h : markT l {} i = .ok r) : r.1 = { mHas := r.1.mHas, mNum := r.1.mNum, mMode := r.1.mMode } := by
  unfold markT at h
  split at h
  · simp only [ex_bind] at h
    obtain ⟨⟨v, k⟩, h1, h2⟩ := h
    simp only at h2
    split at h2
    · cases h2
    · simp only [ex_bind] at h2
      obtain ⟨j, h2, h3⟩ := h2
      split at h3
      · simp only [ex_pure] at h3; subst h3; rfl
      · split at h3
        · simp only [ex_pure] at h3; subst h3; rfl
        · simp only [ex_pure] at h3; subst h3; rfl
  · injection h with h; subst h; rfl
/-- Cells that are written one behind the other. -/
def putW (w : World) (R : Nat) : Nat → List Value → World
  | _, [] => w
  | j, u :: us => putW (w.setCell ⟨R, j, none⟩ u) R (j + 1) us
def putL (xs : List Value) : Nat → List Value → List Value
  | _, [] => xs
  | j, u :: us => putL (xs.set j u) (j + 1) us
theorem putL_mid : ∀ (us old pre post : List Value), old.length = us.length → putL (pre ++ old ++ post) pre.length us = pre ++ us ++ post
  | [], old, pre, post, h => by
    have : old = [] := List.eq_nil_of_length_eq_zero h
    subst this; rfl
  | u :: us, [], pre, post, h => by simp at h
  | u :: us, o :: old, pre, post, h => by
    have e : (pre ++ o :: old ++ post).set pre.length u = (pre ++ [u]) ++ old ++ post := by simp
    rw [putL, e]
    have := putL_mid us old (pre ++ [u]) post (by simpa using h)
    simp only [List.length_append, List.length_cons, List.length_nil] at this
    rw [this]; simp
theorem putW_own {base : Nat} {e : TypeId} {size R n cap : Nat} : ∀ (us : List Value) (j : Nat) (w : World) (xs : List Value), w.ownsRow base e size (.slice (some ⟨R, 0, none⟩) n cap) n xs → (putW w R j us).ownsRow base e size (.slice (some ⟨R, 0, none⟩) n cap) n (putL xs j us)
  | [], j, w, xs, h => h
  | u :: us, j, w, xs, h => putW_own us (j + 1) _ _ (h.stored j u).1
theorem putW_fs {R : Nat} : ∀ (us : List Value) (j : Nat) (w : World), FS (· = R) w (putW w R j us)
  | [], j, w => FS.refl _ w
  | u :: us, j, w => ((FS.refl (· = R) w).set (p := ⟨R, j, none⟩) (.inl rfl) u).trans (putW_fs us (j + 1) _)
theorem nodeC_len (n : NodeV) (a b : Value) : (nodeC n a b).toList.length = 16 := rfl
theorem nodesC_len (qs : List (NodeV × Value × Value)) : (nodesC qs).length = qs.length * 16 := by
  induction qs with
  | nil => rfl
  | cons q qs ih => simp only [nodesC, List.flatMap_cons, List.length_append, List.length_cons] at ih ⊢; rw [ih, nodeC_len]; omega
theorem nodesC_put (qs : List (NodeV × Value × Value)) (k : Nat) (hk : k < qs.length) (q : NodeV × Value × Value) : putL (nodesC qs) (k * 16) (nodeC q.1 q.2.1 q.2.2).toList = nodesC (qs.set k q) := by
  have e : qs = qs.take k ++ qs[k] :: qs.drop (k + 1) := by
    rw [List.getElem_cons_drop]; simp
  have hl : (nodesC (qs.take k)).length = k * 16 := by rw [nodesC_len, List.length_take]; rw [Nat.min_eq_left (by omega)]
  have e1 : nodesC qs = nodesC (qs.take k) ++ (nodeC qs[k].1 qs[k].2.1 qs[k].2.2).toList ++ nodesC (qs.drop (k + 1)) := by
    refine (congrArg nodesC e).trans ?_
    simp only [nodesC, List.flatMap_append, List.flatMap_cons, List.append_assoc]
  have e2 : nodesC (qs.set k q) = nodesC (qs.take k) ++ (nodeC q.1 q.2.1 q.2.2).toList ++ nodesC (qs.drop (k + 1)) := by
    rw [List.set_eq_take_append_cons_drop, if_pos hk]
    simp [nodesC]
  rw [e1, e2, ← hl]
  exact putL_mid _ _ _ _ rfl
end Go.Proofs.YtckcbgijddglpaaGreatDoor
