/-
  No cell of these rows narrows 'for every input' (looked for: loops, veiled, ifaces, maps, wideKeys, modest, calm, conditions, laid).
  DERIVED. THE GIVEN ROWS OF THIS SEAT. 4 by the template 'for every input the law returns true; each argument reads behind the call as it read before'; 0 by the template 'total and deterministic' (their statements: YtgaapigagglgbaaTotals.lean).
  GIVEN WITH THE SEED: the statements are not yours to turn. If you find one false, say at which input.
  Laid BY PROGRAM, IN A SANDBOX (cutbox-rows.mjs): the forced cells as the released guide's own fill.sh prints them over the translation 529f6bbc54887319… (all of the seat's roots in one cut). By AI agents, Wed Nov 11 2026. No macro, syntax, notation, axiom, sorry.
-/
import Derived.Test.YtgaapigagglgbaaChecked
import GoSem.Claim
import GoSem.ClaimJoined
import GoSem.ClaimMapViews
import Derived.JoinedTies
import Derived.KernelRfl
namespace Go.Proofs.Ytgaapigagglgbaa
/- THE CELL 'sum', in the pinned program and in every row, IS THE sha256 OF THE DUMP (.gsa) THAT YtgaapigagglgbaaProg.lean LOADS. Nothing in Lean hashes anything: it is a label: what it is worth is what the hold of that sum in a sandbox is worth. -/
noncomputable def Try.pinned : Pinned := { name := "ytgaapigagglgbaa", sum := "529f6bbc5488731947a4079dc8f973fac1efbd63f437e4f82b3ee609e99517c3", checked := Try.checked }
namespace Rows
def none {H : Type} : Left H := { results := [], args := [] }

/-- 'oghamlaw18.LengthCuts': WHATEVER THE INPUT: true; the input reads as it did. -/
def lengthCutsSpec : ChangeSpec := { name := "lengthCuts", fn := fun _ => fun
  | [d] => { results := [.lit (.bool true)], args := [d] }
  | _ => none }
def lengthCutsRow : OpenClaim := { program := "ytgaapigagglgbaa", sum := "529f6bbc5488731947a4079dc8f973fac1efbd63f437e4f82b3ee609e99517c3", func := "ogham/oghamlaw18.LengthCuts", spec := "lengthCuts", unfollowed := true, recurses := true, apart := false }
def LengthCutsSaid : Prop := lengthCutsRow.holds Try.pinned (OpenSpec.ofChange lengthCutsSpec)

/-- ITS FALSE NEIGHBOUR: 'it returns false'. Refute it at one input. -/
def lengthCutsWrong : ChangeSpec := { name := "lengthCuts", fn := fun _ => fun
  | [d] => { results := [.lit (.bool false)], args := [d] }
  | _ => none }
def LengthCutsWrongFalsely : Prop := lengthCutsRow.holds Try.pinned (OpenSpec.ofChange lengthCutsWrong)

/-- 'oghamlaw18.LengthPuts': WHATEVER THE INPUT: true; the input reads as it did. -/
def lengthPutsSpec : ChangeSpec := { name := "lengthPuts", fn := fun _ => fun
  | [d1, d2] => { results := [.lit (.bool true)], args := [d1, d2] }
  | _ => none }
def lengthPutsRow : OpenClaim := { program := "ytgaapigagglgbaa", sum := "529f6bbc5488731947a4079dc8f973fac1efbd63f437e4f82b3ee609e99517c3", func := "ogham/oghamlaw18.LengthPuts", spec := "lengthPuts", inPlace := ["internal/bytealg.MakeNoZero"], apart := false }
def LengthPutsSaid : Prop := lengthPutsRow.holds Try.pinned (OpenSpec.ofChange lengthPutsSpec)

/-- ITS FALSE NEIGHBOUR: 'it returns false'. Refute it at one input. -/
def lengthPutsWrong : ChangeSpec := { name := "lengthPuts", fn := fun _ => fun
  | [d1, d2] => { results := [.lit (.bool false)], args := [d1, d2] }
  | _ => none }
def LengthPutsWrongFalsely : Prop := lengthPutsRow.holds Try.pinned (OpenSpec.ofChange lengthPutsWrong)

/-- 'oghamlaw18.LengthBack': WHATEVER THE INPUT: true; the input reads as it did. -/
def lengthBackSpec : ChangeSpec := { name := "lengthBack", fn := fun _ => fun
  | [d1, d2, d3] => { results := [.lit (.bool true)], args := [d1, d2, d3] }
  | _ => none }
def lengthBackRow : OpenClaim := { program := "ytgaapigagglgbaa", sum := "529f6bbc5488731947a4079dc8f973fac1efbd63f437e4f82b3ee609e99517c3", func := "ogham/oghamlaw18.LengthBack", spec := "lengthBack", inPlace := ["internal/bytealg.MakeNoZero"], apart := false }
def LengthBackSaid : Prop := lengthBackRow.holds Try.pinned (OpenSpec.ofChange lengthBackSpec)

/-- ITS FALSE NEIGHBOUR: 'it returns false'. Refute it at one input. -/
def lengthBackWrong : ChangeSpec := { name := "lengthBack", fn := fun _ => fun
  | [d1, d2, d3] => { results := [.lit (.bool false)], args := [d1, d2, d3] }
  | _ => none }
def LengthBackWrongFalsely : Prop := lengthBackRow.holds Try.pinned (OpenSpec.ofChange lengthBackWrong)

/-- 'oghamlaw18.LengthMany': WHATEVER THE INPUT: true; the input reads as it did. -/
def lengthManySpec : ChangeSpec := { name := "lengthMany", fn := fun _ => fun
  | [d1, d2, d3] => { results := [.lit (.bool true)], args := [d1, d2, d3] }
  | _ => none }
def lengthManyRow : OpenClaim := { program := "ytgaapigagglgbaa", sum := "529f6bbc5488731947a4079dc8f973fac1efbd63f437e4f82b3ee609e99517c3", func := "ogham/oghamlaw18.LengthMany", spec := "lengthMany", unfollowed := true, recurses := true, apart := false }
def LengthManySaid : Prop := lengthManyRow.holds Try.pinned (OpenSpec.ofChange lengthManySpec)

/-- ITS FALSE NEIGHBOUR: 'it returns false'. Refute it at one input. -/
def lengthManyWrong : ChangeSpec := { name := "lengthMany", fn := fun _ => fun
  | [d1, d2, d3] => { results := [.lit (.bool false)], args := [d1, d2, d3] }
  | _ => none }
def LengthManyWrongFalsely : Prop := lengthManyRow.holds Try.pinned (OpenSpec.ofChange lengthManyWrong)

/- THE SECOND FORM. 'bulk': how many values and letters a reading holds, each counted each time it is reached (what is shared counts as often as it is met; a slice's spare places count too). A statement '..UptoSaid' is the law's where the arguments, and the package variables that the reading takes, are together of bulk at most 1048576: NARROWER than '..Said'. Prove '..Said' where nothing that the law and all that it calls make is longer than what came in: it says more and counts as full. Else prove '..UptoSaid'. A law counts once. -/
mutual
def uptoBulk {H : Type} : DataW H → Nat
  | .lit (.string bytes) => bytes.length + 1
  | .lit _ => 1
  | .nil => 1
  | .ptr d => uptoBulk d + 1
  | .slice elems spare => uptoBulkAll elems + uptoBulkAll spare + 1
  | .agg parts => uptoBulkAll parts + 1
  | .iface _ d => uptoBulk d + 1
  | .map entries => uptoBulkEntries entries + 1
  | .held _ => 1
def uptoBulkAll {H : Type} : List (DataW H) → Nat
  | [] => 0
  | d :: r => uptoBulk d + uptoBulkAll r
def uptoBulkEntries {H : Type} : List (Lit × DataW H) → Nat
  | [] => 0
  | x :: r => uptoBulkEntry x + uptoBulkEntries r
def uptoBulkEntry {H : Type} : Lit × DataW H → Nat
  | (.string bytes, d) => bytes.length + uptoBulk d + 1
  | (_, d) => uptoBulk d + 1
 end
def uptoSmall : (H : Type) → List (DataW H) → Bool := fun _ ds => decide (uptoBulkAll ds ≤ 1048576)
def OpenSpec.upto (s : _root_.Go.ChangeSpec) : _root_.Go.OpenSpec := { _root_.Go.OpenSpec.ofChange s with cond := some uptoSmall }

/-- 'oghamlaw18.LengthCuts', WHERE WHAT IT READS IS OF BULK AT MOST 1048576: true; the input reads as it did. -/
def lengthCutsUptoRow : OpenClaim := { program := "ytgaapigagglgbaa", sum := "529f6bbc5488731947a4079dc8f973fac1efbd63f437e4f82b3ee609e99517c3", func := "ogham/oghamlaw18.LengthCuts", spec := "lengthCuts", unfollowed := true, recurses := true, apart := false, narrowed := true }
def LengthCutsUptoSaid : Prop := lengthCutsUptoRow.holds Try.pinned (OpenSpec.upto lengthCutsSpec)

/-- 'oghamlaw18.LengthPuts', WHERE WHAT IT READS IS OF BULK AT MOST 1048576: true; the input reads as it did. -/
def lengthPutsUptoRow : OpenClaim := { program := "ytgaapigagglgbaa", sum := "529f6bbc5488731947a4079dc8f973fac1efbd63f437e4f82b3ee609e99517c3", func := "ogham/oghamlaw18.LengthPuts", spec := "lengthPuts", inPlace := ["internal/bytealg.MakeNoZero"], apart := false, narrowed := true }
def LengthPutsUptoSaid : Prop := lengthPutsUptoRow.holds Try.pinned (OpenSpec.upto lengthPutsSpec)

/-- 'oghamlaw18.LengthBack', WHERE WHAT IT READS IS OF BULK AT MOST 1048576: true; the input reads as it did. -/
def lengthBackUptoRow : OpenClaim := { program := "ytgaapigagglgbaa", sum := "529f6bbc5488731947a4079dc8f973fac1efbd63f437e4f82b3ee609e99517c3", func := "ogham/oghamlaw18.LengthBack", spec := "lengthBack", inPlace := ["internal/bytealg.MakeNoZero"], apart := false, narrowed := true }
def LengthBackUptoSaid : Prop := lengthBackUptoRow.holds Try.pinned (OpenSpec.upto lengthBackSpec)

/-- 'oghamlaw18.LengthMany', WHERE WHAT IT READS IS OF BULK AT MOST 1048576: true; the input reads as it did. -/
def lengthManyUptoRow : OpenClaim := { program := "ytgaapigagglgbaa", sum := "529f6bbc5488731947a4079dc8f973fac1efbd63f437e4f82b3ee609e99517c3", func := "ogham/oghamlaw18.LengthMany", spec := "lengthMany", unfollowed := true, recurses := true, apart := false, narrowed := true }
def LengthManyUptoSaid : Prop := lengthManyUptoRow.holds Try.pinned (OpenSpec.upto lengthManySpec)

end Rows
end Go.Proofs.Ytgaapigagglgbaa
