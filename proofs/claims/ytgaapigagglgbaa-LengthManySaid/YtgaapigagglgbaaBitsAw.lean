/- Writer.Octets as awake calls it. -/
import Derived.Test.YtgaapigagglgbaaBitsB
namespace Go.Proofs.Ytgaapigagglgbaa
open Go.ChangeShapes Go.WideShapes Go.ChangeAt Go.RowKit

theorem own_keeps_ {w w' : World} {base : Nat} {e : TypeId} {size : Nat} {v : Value} {n : Nat} {xs : List Value} (h : w.ownsRow base e size v n xs) (hk : Keeps w w') : w'.ownsRow base e size v n xs := own_kept h fun b hb => hk.block b (h.lt b hb).2
theorem fr_blk {g b : Nat} {row : Option Nat} {w w' : World} {t : TypeId} {cs : Array Value} (h : Fr g row w w') (hb : Blk w b t cs) (hg : b ≠ g) (hr : row ≠ some b) : Blk w' b t cs := (h.2.2.2.2 b hb.lt hg hr).trans hb

theorem fr_keeps {g : Nat} {row : Option Nat} {w wA wB : World} (hk : Keeps w wA) (h : Fr g row wA wB) (hg : w.heap.size ≤ g) (hrow : ∀ b, row = some b → w.heap.size ≤ b) : Keeps w wB := by
  obtain ⟨h1, h2, h3, h4, h5⟩ := h
  refine ⟨h1.trans hk.os, h2.trans hk.tape, h3.trans hk.output, Nat.le_trans hk.size h4, fun b hb => (h5 b (Nat.lt_of_lt_of_le hb hk.size) (by omega) (fun e => by have := hrow b e; omega)).trans (hk.block b hb)⟩
theorem WrV.alloc_ {base : Nat} {w : World} {g : Nat} {N : Int} {n m room : Nat} {A : Option Addr} {c : Nat} (h : WrV base w g N n m room A c) (o : Obj) : WrV base (w.alloc o) g N n m room A c := ⟨h.1, h.2.1.alloc o, h.2.2.alloc o⟩
theorem WrV.row_lt {base : Nat} {w : World} {g : Nat} {N : Int} {n m room : Nat} {A : Option Addr} {c : Nat} (h : WrV base w g N n m room A c) : ∀ b, rowOf A = some b → base ≤ b ∧ b < w.heap.size := fun b e => h.2.2.lt b ((own_row rfl).trans e)

end Go.Proofs.Ytgaapigagglgbaa
