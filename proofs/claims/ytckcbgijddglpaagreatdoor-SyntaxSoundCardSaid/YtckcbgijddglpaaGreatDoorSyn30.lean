/- Parse, of the text of awake. -/
import Derived.Test.YtckcbgijddglpaaGreatDoorSyn29
namespace Go.Proofs.YtckcbgijddglpaaGreatDoor
open Go.ChangeShapes Go.WideShapes Go.ChangeAt Go.RowKit Go.PlainAid
set_option linter.unusedVariables false
set_option linter.unusedSimpArgs false
def awText : ByteArray := ⟨#[77, 32, 68, 69, 70, 73, 78, 73, 84, 73, 79, 78, 83, 32, 58, 58, 61, 32, 66, 69, 71, 73, 78, 32, 65, 32, 58, 58, 61, 32, 83, 69, 81, 85, 69, 78, 67, 69, 32, 123, 32, 120, 32, 73, 78, 84, 69, 71, 69, 82, 32, 40, 48, 46, 46, 55, 41, 44, 32, 46, 46, 46, 32, 125, 32, 69, 78, 68]⟩
def awMod : ModV := { name := ⟨#[77]⟩, names := [⟨#[65]⟩], types := [0], nodes := [{ kind := 7, fields := [{ name := ⟨#[120]⟩, type := 1 }], root := 1, more := true }, { kind := 2, con := { has := true, hasLow := true, hasHigh := true, low := 0, high := 7 } }] }
theorem awake_mod : parseT (toks awText) = .ok awMod := by kernel_rfl
end Go.Proofs.YtckcbgijddglpaaGreatDoor
