/- A writer and the reference's one, side by side. -/
import Derived.Test.YtgaapigagglgbaaRefW2
namespace Go.Proofs.Ytgaapigagglgbaa
open Go.ChangeShapes Go.WideShapes Go.ChangeAt Go.RowKit

/-- The writer at g and the reference's one at gv hold the same n bits of N; where their lists lie is Q. -/
def WP (base : Nat) (wr : World) (g gv : Nat) (N : Int) (n : Nat) (Q : Nat → Prop) : Prop :=
  ∃ m room A c A' c', WrV base wr g N n m room A c ∧ room < 8 ∧ RefV base wr gv N n A' c' ∧ (∀ b, rowOf A = some b → rowOf A' ≠ some b) ∧ (∀ b, rowOf A = some b → Q b) ∧ (∀ b, rowOf A' = some b → Q b)
section
variable {base : Nat} {wr w1 w2 : World} {g gv : Nat} {N N' : Int} {n n' : Nat} {Q : Nat → Prop}
theorem WP.w (h : WP base wr g gv N n Q) : WS base wr g N n := by
  obtain ⟨m, room, A, c, A', c', h1, h2, _⟩ := h
  exact ⟨m, room, A, c, h1, h2⟩
theorem WP.v (h : WP base wr g gv N n Q) : RWS base wr gv N n := by
  obtain ⟨m, room, A, c, A', c', h1, h2, h3, _⟩ := h
  exact ⟨A', c', h3⟩
theorem WP.keeps (h : WP base wr g gv N n Q) (hk : Keeps wr w1) : WP base w1 g gv N n Q := by
  obtain ⟨m, room, A, c, A', c', h1, h2, h3, h4⟩ := h
  exact ⟨m, room, A, c, A', c', ⟨h1.1, h1.2.1.keeps hk, own_keeps_ h1.2.2 hk⟩, h2, ⟨h3.1.keeps hk, own_keeps_ h3.2 hk⟩, h4⟩
theorem WP.any (h : WP base wr g gv N n Q) : WP base wr g gv N n (fun _ => True) := by
  obtain ⟨m, room, A, c, A', c', h1, h2, h3, h4, _⟩ := h
  exact ⟨m, room, A, c, A', c', h1, h2, h3, h4, fun _ _ => trivial, fun _ _ => trivial⟩
/-- A block that is none of theirs is written. -/
theorem WP.fr {g' : Nat} (h : WP base wr g gv N n Q) (hf : Fr g' none wr w1) (hg : g ≠ g') (hv : gv ≠ g') (hQ : ∀ b, Q b → b ≠ g') : WP base w1 g gv N n Q := by
  obtain ⟨m, room, A, c, A', c', h1, h2, h3, h4, h5, h6⟩ := h
  exact ⟨m, room, A, c, A', c', h1.fr hf hg (fun e => by cases e) (fun e => hQ _ (h5 _ e) rfl) (fun b e h => by cases h), h2, h3.fr hf hv (fun e => by cases e) (fun e => hQ _ (h6 _ e) rfl) (fun b e h => by cases h), h4, h5, h6⟩
end
theorem ref_stays {base : Nat} {wr w1 : World} {g gv : Nat} {N N' : Int} {n n' m room c c' : Nat} {A A' : Option Addr} (h1 : WrV base wr g N n m room A c) (h3 : RefV base wr gv N n A' c') (h4 : ∀ b, rowOf A = some b → rowOf A' ≠ some b) (hg : g ≠ gv)
    (hS : St base wr g A N' n' w1) : RefV base w1 gv N n A' c' :=
  h3.fr hS.fr (fun e => hg e.symm) (h1.row_ne h3.1 (by decide)) (own_row_ne h3.2 h1.2.1 (by decide)) (fun b e h => h4 b h e)
theorem both_step {base : Nat} {wr w1 w2 w3 : World} {g gv : Nat} {N N' : Int} {n n' m room c c' : Nat} {A A' : Option Addr} (h1 : WrV base wr g N n m room A c) (h3 : RefV base wr gv N n A' c') (h4 : ∀ b, rowOf A = some b → rowOf A' ≠ some b) (hg : g ≠ gv)
    (hS : St base wr g A N' n' w1) (hk : Keeps w1 w2) (hR : RSt base w2 gv A' N' n' w3) : WP base w3 g gv N' n' (fun b => (rowOf A = some b ∨ rowOf A' = some b) ∨ wr.heap.size ≤ b) := by
  have hr : RefV base w2 gv N n A' c' := by
    have := ref_stays h1 h3 h4 hg hS
    exact ⟨this.1.keeps hk, own_keeps_ this.2 hk⟩
  have hz := hS.fr.2.2.2.1
  obtain ⟨m2, room2, A2, c2, k1', k2, k3, k4⟩ := hS
  obtain ⟨A3, c3, l1, l2, l3⟩ := hR
  have k1 : WrV base w2 g N' n' m2 room2 A2 c2 := ⟨k1'.1, k1'.2.1.keeps hk, own_keeps_ k1'.2.2 hk⟩
  have hd : ∀ b, rowOf A2 = some b → rowOf A' ≠ some b := by
    intro b e e2
    rcases k4.row b e with h | h
    · exact h4 b h e2
    · have := (h3.row_lt b e2).2; omega
  have hw2 : WrV base w3 g N' n' m2 room2 A2 c2 := k1.fr l2 hg (own_row_ne hr.2 k1.2.1 (by decide)) (k1.row_ne hr.1 (by decide)) hd
  have hkz := hk.size
  refine ⟨m2, room2, A2, c2, A3, c3, hw2, k2, l1, fun b e e2 => ?_, fun b e => ?_, fun b e => ?_⟩
  · rcases l3.row b e2 with h | h
    · exact hd b e h
    · have := (k1.row_lt b e).2; omega
  · rcases k4.row b e with h | h
    · exact .inl (.inl h)
    · exact .inr h
  · rcases l3.row b e with h | h
    · exact .inl (.inr h)
    · exact .inr (by omega)
end Go.Proofs.Ytgaapigagglgbaa
