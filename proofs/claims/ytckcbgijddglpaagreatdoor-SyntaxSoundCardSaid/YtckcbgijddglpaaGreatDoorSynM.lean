/- A module in a variable of its own: what a line leaves that parses. -/
import Derived.Test.YtckcbgijddglpaaGreatDoorSyn31
namespace Go.Proofs.YtckcbgijddglpaaGreatDoor
open Go.ChangeShapes Go.WideShapes Go.ChangeAt Go.RowKit Go.PlainAid
set_option linter.unusedVariables false
set_option linter.unusedSimpArgs false
set_option linter.unnecessarySimpa false
theorem ModH.keeps {w w' : World} {B : Nat} {m2 m3 m4 : Value} {m : ModV} (h : ModH w B m2 m3 m4 m) (k : Keeps w w') : ModH w' B m2 m3 m4 m := by
  obtain ⟨g, h1, h2, h3, h4, h5⟩ := h
  exact ⟨g, h1, (FS.of_keeps (S := fun _ => False) k).own h2 (fun _ _ q => q), (FS.of_keeps (S := fun _ => False) k).own h3 (fun _ _ q => q), h4.keeps k, h5⟩
theorem ModH.nil (w : World) (B : Nat) : ModH w B (.slice none 0 0) (.slice none 0 0) (.slice none 0 0) {} :=
  ⟨B, Nat.le_refl _, World.ownsRow_nil _ _ _ _, World.ownsRow_nil _ _ _ _, ⟨[], rfl, World.ownsRow_nil _ _ _ _, fun q h => by cases h⟩, by decide, rfl, by decide⟩
/-- What Parse hands back, an error or not. -/
def GivesM (md : ModV) (p : Nat) (x : Int) (w : World) (e : Ending) (w' : World) : Prop :=
  ∃ A2 c2 A3 c3 A4 c4, e = .returned (.tuple #[.agg #[.string md.name, .int .i64 md.tagging, .slice A2 md.names.length c2, .slice A3 md.types.length c3, .slice A4 md.nodes.length c4], .int .i64 (p : Nat), .int .i64 x]) ∧ ModH w' w.heap.size (.slice A2 md.names.length c2) (.slice A3 md.types.length c3) (.slice A4 md.nodes.length c4) md ∧ Keeps w w'
theorem givesM_err {p : Nat} {x : Int} {w w' : World} {e : Ending} (h : GivesMod (.error (p, x)) w e w') : GivesM {} p x w e w' := by
  obtain ⟨rfl, hk⟩ := h
  exact ⟨none, 0, none, 0, none, 0, rfl, ModH.nil _ _, hk⟩
theorem givesM_ok {md : ModV} {w w' : World} {e : Ending} (h : GivesMod (.ok md) w e w') : GivesM md 0 0 w e w' := by
  obtain ⟨A2, c2, A3, c3, A4, c4, rfl, hm, hk⟩ := h
  exact ⟨A2, c2, A3, c3, A4, c4, rfl, hm, hk⟩
/-- A module in the variable V, made since w0. -/
def ModAt (w0 w1 : World) (V : Nat) (md : ModV) : Prop :=
  Keeps w0 w1 ∧ ∃ A2 c2 A3 c3 A4 c4, Blk w1 V 27 #[.string md.name, .int .i64 md.tagging, .slice A2 md.names.length c2, .slice A3 md.types.length c3, .slice A4 md.nodes.length c4] ∧ ModH w1 w0.heap.size (.slice A2 md.names.length c2) (.slice A3 md.types.length c3) (.slice A4 md.nodes.length c4) md
theorem ModAt.keeps {w0 w1 w2 : World} {V : Nat} {md : ModV} (h : ModAt w0 w1 V md) (k : Keeps w1 w2) : ModAt w0 w2 V md := by
  obtain ⟨h1, A2, c2, A3, c3, A4, c4, h2, h3⟩ := h
  exact ⟨h1.trans k, A2, c2, A3, c3, A4, c4, h2.keeps k, h3.keeps k⟩
theorem ModAt.stored {w0 w : World} {V B : Nat} {md : ModV} {v0 v1 v2 v3 v4 : Value} {A2 A3 A4 : Option Addr} {c2 c3 c4 : Nat} (hK : Keeps w0 w) (hV : w0.heap.size ≤ V) (hB : Blk w V 27 #[v0, v1, v2, v3, v4]) (hM : ModH w B (.slice A2 md.names.length c2) (.slice A3 md.types.length c3) (.slice A4 md.nodes.length c4) md) (hwB : w0.heap.size ≤ B) :
    ModAt w0 (((((w.setCell ⟨V, 0, none⟩ (.string md.name)).setCell ⟨V, 1, none⟩ (.int .i64 md.tagging)).setCell ⟨V, 2, none⟩ (.slice A2 md.names.length c2)).setCell ⟨V, 3, none⟩ (.slice A3 md.types.length c3)).setCell ⟨V, 4, none⟩ (.slice A4 md.nodes.length c4)) V md := by
  refine ⟨hK.set5 hV _ _ _ _ _, A2, c2, A3, c3, A4, c4, mod_out hB _ _ _ _ _, ?_⟩
  obtain ⟨g, h1, h2⟩ := hM.set5 hB (.string md.name) (.int .i64 md.tagging) (.slice A2 md.names.length c2) (.slice A3 md.types.length c3) (.slice A4 md.nodes.length c4)
  exact ⟨g, Nat.le_trans hwB h1, h2⟩
theorem ModAt.node {w0 w1 : World} {V : Nat} {md : ModV} (h : ModAt w0 w1 V md) {k : Nat} {n : NodeV} (hk : md.nodes[k]? = some n) : ∃ A2 c2 A3 c3 R c vi vf, Blk w1 V 27 #[.string md.name, .int .i64 md.tagging, .slice A2 md.names.length c2, .slice A3 md.types.length c3, .slice (some ⟨R, 0, none⟩) md.nodes.length c] ∧ R < w1.heap.size ∧ ∀ o u, o < 16 → (nodeC n vi vf)[o]? = some u → w1.cell? ⟨R, k * 16 + o, none⟩ = some u := by
  obtain ⟨h1, A2, c2, A3, c3, A4, c4, h2, g, _, _, _, h3, _⟩ := h
  obtain ⟨R, c, vi, vf, e, hR, hc⟩ := h3.node hk
  rw [e] at h2
  exact ⟨A2, c2, A3, c3, R, c, vi, vf, h2, hR, hc⟩
/-- What follows a piece of a walk, said once for all ways through it. -/
theorem cut_at {P : Prop} {F G : World → Nat → Prop} (h1 : (∀ w g, F w g → G w g) → P) (h2 : ∀ w g, F w g → G w g) : P := h1 h2
theorem drew_keeps {w w1 : World} (h : Keeps w w1) : Keeps w w1.drew := ⟨h.os, h.tape, h.output, h.size, h.block⟩
theorem drew_cell {w : World} {p : Addr} {v : Value} (h : w.cell? p = some v) : w.drew.cell? p = some v := h
theorem set5_cell {w : World} {V g : Nat} (hg : g ≠ V) (m : Nat) (u0 u1 u2 u3 u4 : Value) : (((((w.setCell ⟨V, 0, none⟩ u0).setCell ⟨V, 1, none⟩ u1).setCell ⟨V, 2, none⟩ u2).setCell ⟨V, 3, none⟩ u3).setCell ⟨V, 4, none⟩ u4).cell? ⟨g, m, none⟩ = w.cell? ⟨g, m, none⟩ :=
  World.cell?_of_block (by
    simp only
    rw [Below.heap_setCell _ ⟨V, 4, none⟩ _ g (by simp; omega), Below.heap_setCell _ ⟨V, 3, none⟩ _ g (by simp; omega), Below.heap_setCell _ ⟨V, 2, none⟩ _ g (by simp; omega), Below.heap_setCell _ ⟨V, 1, none⟩ _ g (by simp; omega), Below.heap_setCell _ ⟨V, 0, none⟩ _ g (by simp; omega)])
end Go.Proofs.YtckcbgijddglpaaGreatDoor
