/- Words for slices that may be written. -/
import Derived.Test.YtgaapigagglgbaaRows
import Derived.Test.YtgaapigagglgbaaBase
namespace Go.Proofs.Ytgaapigagglgbaa
open Go.ChangeShapes Go.WideShapes Go.ChangeAt Go.RowKit

def B8 (xs : List Int) : Prop := ∀ x ∈ xs, 0 ≤ x ∧ x ≤ 255
/-- The first n cells of a slice of bytes are of a block from B on, and none is frozen. -/
def Wr (B : Nat) (w : World) (A : Option Addr) (n : Nat) : Prop := 0 < n → ∃ g, A = some ⟨g, 0, none⟩ ∧ B ≤ g ∧ ∀ i, i < n → w.frozen? ⟨g, i, none⟩ = false

end Go.Proofs.Ytgaapigagglgbaa
