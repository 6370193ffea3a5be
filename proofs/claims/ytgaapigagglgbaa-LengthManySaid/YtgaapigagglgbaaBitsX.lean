/- The contracts of Writer.Bit, Len and Bytes. -/
import Derived.Test.YtgaapigagglgbaaBitsW
namespace Go.Proofs.Ytgaapigagglgbaa
open Go.ChangeShapes Go.WideShapes Go.ChangeAt Go.RowKit

theorem len_any (g base : Nat) (N : Int) (n m room : Nat) (A : Option Addr) (c : Nat) (w : World) (hg : WrV base w g N n m room A c) :
    Calls Try.prog 41 #[.pointer (some ⟨g, 0, none⟩)] w fun e w' => e = .returned (.int .i64 (n : Nat)) ∧ w' = w := by
  have hg1 : w.cell? ⟨g, 1, none⟩ = some (.int .i64 n) := hg.2.1.cell 1
  clear hg
  go_enter Try.func41, Try.ntmps41
  go_wp2
  go_ret
  exact ⟨rfl, rfl⟩
theorem lenNil_any (w : World) : Calls Try.prog 41 #[.pointer none] w fun e w' => e = .returned (.int .i64 0) ∧ w' = w := by
  go_enter Try.func41, Try.ntmps41
  go_wp2
  go_ret
  exact ⟨rfl, rfl⟩
end Go.Proofs.Ytgaapigagglgbaa
