/- The contract of Spoil: it turns the bytes that it is given, and nothing else. -/
import Derived.Test.YtgaapigagglgbaaJoin
namespace Go.Proofs.Ytgaapigagglgbaa
open Go.ChangeShapes Go.WideShapes Go.ChangeAt Go.RowKit

def SpRel (B : Nat) (w : World) (g n k : Nat) (wr : World) : Prop := Below B w wr ∧ (∀ i, k ≤ i → i < n → wr.cell? ⟨g, i, none⟩ = w.cell? ⟨g, i, none⟩) ∧ ∀ i, i < n → wr.frozen? ⟨g, i, none⟩ = false
theorem SpRel.step {B : Nat} {w : World} {g n k : Nat} {wr : World} (h : SpRel B w g n k wr) (hg : B ≤ g) (v : Value) : SpRel B w g n (k + 1) (wr.setCell ⟨g, k, none⟩ v) := by
  obtain ⟨h1, h2, h3⟩ := h
  refine ⟨h1.setCell hg v, fun i hi hin => ?_, fun i hin => ?_⟩
  · rw [World.cell?_setCell_other _ _ _ _ (by intro e; injection e with _ e _; omega)]
    exact h2 i (by omega) hin
  · rw [World.frozen?_setCell]; exact h3 i hin

end Go.Proofs.Ytgaapigagglgbaa
