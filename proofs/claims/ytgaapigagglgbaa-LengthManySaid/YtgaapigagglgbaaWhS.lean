/- A small number of package whole's writer; awake of layer 17; the walk of WholeNil. -/
import Derived.Test.YtgaapigagglgbaaWhW
namespace Go.Proofs.Ytgaapigagglgbaa
open Go.ChangeShapes Go.WideShapes Go.ChangeAt Go.RowKit

theorem uOct_bytes (v : Int) : B8 (uOct v) := by unfold uOct; exact lo_range _ _
/-- The bits of a small number. -/
def smN (N m : Int) : Int := if m < 64 then tot (tot N 0 1) m 6 else appB (tot (tot N 1 1) (uLen m) 8) (uOct m)
def smL (m : Int) : Nat := if m < 64 then 7 else 9 + 8 * uLen m
theorem smL_le (m : Int) : smL m ≤ 73 := by
  unfold smL
  have := (uLen_le m).2
  split <;> omega

theorem WrV.keeps_ {base : Nat} {w w' : World} {g : Nat} {N : Int} {n m room : Nat} {A : Option Addr} {c : Nat} (h : WrV base w g N n m room A c) (hk : Keeps w w') : WrV base w' g N n m room A c := ⟨h.1, h.2.1.keeps hk, own_keeps_ h.2.2 hk⟩
theorem wh_new (w : World) (base : Nat) : WrV base (w.alloc (.cells #[.slice none 0 0, .int .i64 0] 32)) w.heap.size 0 0 0 0 none 0 := ⟨rfl, Blk.new _ _ _, by simpa [lo] using World.ownsRow_nil _ _ _ _⟩
end Go.Proofs.Ytgaapigagglgbaa
