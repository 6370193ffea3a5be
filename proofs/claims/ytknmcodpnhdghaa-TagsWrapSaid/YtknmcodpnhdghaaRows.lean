/-
  No cell of these rows narrows 'for every input' (looked for: loops, veiled, ifaces, maps, wideKeys, modest, calm, conditions, laid).
  DERIVED. THE GIVEN ROWS OF THIS SEAT. 12 by the template 'for every input the law returns true; each argument reads behind the call as it read before'; 0 by the template 'total and deterministic' (their statements: YtknmcodpnhdghaaTotals.lean).
  GIVEN WITH THE SEED: the statements are not yours to turn. If you find one false, say at which input.
  Laid BY PROGRAM, IN A SANDBOX (cutbox-rows.mjs): the forced cells as the released guide's own fill.sh prints them over the translation 5ff746cc6490e6c4… (all of the seat's roots in one cut). By AI agents, Wed Nov 11 2026. No macro, syntax, notation, axiom, sorry.
-/
import Derived.Test.YtknmcodpnhdghaaChecked
import GoSem.Claim
import GoSem.ClaimJoined
import GoSem.ClaimMapViews
import Derived.JoinedTies
import Derived.KernelRfl
namespace Go.Proofs.Ytknmcodpnhdghaa
/- THE CELL 'sum', in the pinned program and in every row, IS THE sha256 OF THE DUMP (.gsa) THAT YtknmcodpnhdghaaProg.lean LOADS. Nothing in Lean hashes anything: it is a label: what it is worth is what the hold of that sum in a sandbox is worth. -/
noncomputable def Try.pinned : Pinned := { name := "ytknmcodpnhdghaa", sum := "5ff746cc6490e6c4e9d4a6989b15d6258c06aa2af150a9c386abbc2d7e03b88a", checked := Try.checked }
namespace Rows
def none {H : Type} : Left H := { results := [], args := [] }

/-- 'oghamlaw01.BitsWrite': WHATEVER THE INPUT: true; the input reads as it did. -/
def bitsWriteSpec : ChangeSpec := { name := "bitsWrite", fn := fun _ => fun
  | [d] => { results := [.lit (.bool true)], args := [d] }
  | _ => none }
def bitsWriteRow : OpenClaim := { program := "ytknmcodpnhdghaa", sum := "5ff746cc6490e6c4e9d4a6989b15d6258c06aa2af150a9c386abbc2d7e03b88a", func := "ogham/oghamlaw01.BitsWrite", spec := "bitsWrite", unfollowed := true, recurses := true, plainKeys := false, apart := false }
def BitsWriteSaid : Prop := bitsWriteRow.holds Try.pinned (OpenSpec.ofChange bitsWriteSpec)

/-- ITS FALSE NEIGHBOUR: 'it returns false'. Refute it at one input. -/
def bitsWriteWrong : ChangeSpec := { name := "bitsWrite", fn := fun _ => fun
  | [d] => { results := [.lit (.bool false)], args := [d] }
  | _ => none }
def BitsWriteWrongFalsely : Prop := bitsWriteRow.holds Try.pinned (OpenSpec.ofChange bitsWriteWrong)

/-- 'oghamlaw01.BitsRead': WHATEVER THE INPUT: true; the input reads as it did. -/
def bitsReadSpec : ChangeSpec := { name := "bitsRead", fn := fun _ => fun
  | [d1, d2] => { results := [.lit (.bool true)], args := [d1, d2] }
  | _ => none }
def bitsReadRow : OpenClaim := { program := "ytknmcodpnhdghaa", sum := "5ff746cc6490e6c4e9d4a6989b15d6258c06aa2af150a9c386abbc2d7e03b88a", func := "ogham/oghamlaw01.BitsRead", spec := "bitsRead", unfollowed := true, recurses := true, plainKeys := false, apart := false }
def BitsReadSaid : Prop := bitsReadRow.holds Try.pinned (OpenSpec.ofChange bitsReadSpec)

/-- ITS FALSE NEIGHBOUR: 'it returns false'. Refute it at one input. -/
def bitsReadWrong : ChangeSpec := { name := "bitsRead", fn := fun _ => fun
  | [d1, d2] => { results := [.lit (.bool false)], args := [d1, d2] }
  | _ => none }
def BitsReadWrongFalsely : Prop := bitsReadRow.holds Try.pinned (OpenSpec.ofChange bitsReadWrong)

/-- 'oghamlaw01.BitsBack': WHATEVER THE INPUT: true; the input reads as it did. -/
def bitsBackSpec : ChangeSpec := { name := "bitsBack", fn := fun _ => fun
  | [d] => { results := [.lit (.bool true)], args := [d] }
  | _ => none }
def bitsBackRow : OpenClaim := { program := "ytknmcodpnhdghaa", sum := "5ff746cc6490e6c4e9d4a6989b15d6258c06aa2af150a9c386abbc2d7e03b88a", func := "ogham/oghamlaw01.BitsBack", spec := "bitsBack", plainKeys := false, apart := false }
def BitsBackSaid : Prop := bitsBackRow.holds Try.pinned (OpenSpec.ofChange bitsBackSpec)

/-- ITS FALSE NEIGHBOUR: 'it returns false'. Refute it at one input. -/
def bitsBackWrong : ChangeSpec := { name := "bitsBack", fn := fun _ => fun
  | [d] => { results := [.lit (.bool false)], args := [d] }
  | _ => none }
def BitsBackWrongFalsely : Prop := bitsBackRow.holds Try.pinned (OpenSpec.ofChange bitsBackWrong)

/-- 'oghamlaw01.BitsNil': WHATEVER THE INPUT: true; the input reads as it did. -/
def bitsNilSpec : ChangeSpec := { name := "bitsNil", fn := fun _ => fun
  | [d1, d2] => { results := [.lit (.bool true)], args := [d1, d2] }
  | _ => none }
def bitsNilRow : OpenClaim := { program := "ytknmcodpnhdghaa", sum := "5ff746cc6490e6c4e9d4a6989b15d6258c06aa2af150a9c386abbc2d7e03b88a", func := "ogham/oghamlaw01.BitsNil", spec := "bitsNil", plainKeys := false, apart := false }
def BitsNilSaid : Prop := bitsNilRow.holds Try.pinned (OpenSpec.ofChange bitsNilSpec)

/-- ITS FALSE NEIGHBOUR: 'it returns false'. Refute it at one input. -/
def bitsNilWrong : ChangeSpec := { name := "bitsNil", fn := fun _ => fun
  | [d1, d2] => { results := [.lit (.bool false)], args := [d1, d2] }
  | _ => none }
def BitsNilWrongFalsely : Prop := bitsNilRow.holds Try.pinned (OpenSpec.ofChange bitsNilWrong)

/-- 'oghamlaw01.BitsOctets': WHATEVER THE INPUT: true; the input reads as it did. -/
def bitsOctetsSpec : ChangeSpec := { name := "bitsOctets", fn := fun _ => fun
  | [d1, d2] => { results := [.lit (.bool true)], args := [d1, d2] }
  | _ => none }
def bitsOctetsRow : OpenClaim := { program := "ytknmcodpnhdghaa", sum := "5ff746cc6490e6c4e9d4a6989b15d6258c06aa2af150a9c386abbc2d7e03b88a", func := "ogham/oghamlaw01.BitsOctets", spec := "bitsOctets", plainKeys := false, apart := false }
def BitsOctetsSaid : Prop := bitsOctetsRow.holds Try.pinned (OpenSpec.ofChange bitsOctetsSpec)

/-- ITS FALSE NEIGHBOUR: 'it returns false'. Refute it at one input. -/
def bitsOctetsWrong : ChangeSpec := { name := "bitsOctets", fn := fun _ => fun
  | [d1, d2] => { results := [.lit (.bool false)], args := [d1, d2] }
  | _ => none }
def BitsOctetsWrongFalsely : Prop := bitsOctetsRow.holds Try.pinned (OpenSpec.ofChange bitsOctetsWrong)

/-- 'oghamlaw01.BitsSplit': WHATEVER THE INPUT: true; the input reads as it did. -/
def bitsSplitSpec : ChangeSpec := { name := "bitsSplit", fn := fun _ => fun
  | [d1, d2, d3] => { results := [.lit (.bool true)], args := [d1, d2, d3] }
  | _ => none }
def bitsSplitRow : OpenClaim := { program := "ytknmcodpnhdghaa", sum := "5ff746cc6490e6c4e9d4a6989b15d6258c06aa2af150a9c386abbc2d7e03b88a", func := "ogham/oghamlaw01.BitsSplit", spec := "bitsSplit", plainKeys := false, apart := false }
def BitsSplitSaid : Prop := bitsSplitRow.holds Try.pinned (OpenSpec.ofChange bitsSplitSpec)

/-- ITS FALSE NEIGHBOUR: 'it returns false'. Refute it at one input. -/
def bitsSplitWrong : ChangeSpec := { name := "bitsSplit", fn := fun _ => fun
  | [d1, d2, d3] => { results := [.lit (.bool false)], args := [d1, d2, d3] }
  | _ => none }
def BitsSplitWrongFalsely : Prop := bitsSplitRow.holds Try.pinned (OpenSpec.ofChange bitsSplitWrong)

/-- 'oghamlaw08.BoundsTell': WHATEVER THE INPUT: true; the input reads as it did. -/
def boundsTellSpec : ChangeSpec := { name := "boundsTell", fn := fun _ => fun
  | [d1, d2, d3, d4] => { results := [.lit (.bool true)], args := [d1, d2, d3, d4] }
  | _ => none }
def boundsTellRow : OpenClaim := { program := "ytknmcodpnhdghaa", sum := "5ff746cc6490e6c4e9d4a6989b15d6258c06aa2af150a9c386abbc2d7e03b88a", func := "ogham/oghamlaw08.BoundsTell", spec := "boundsTell", plainKeys := false, apart := false }
def BoundsTellSaid : Prop := boundsTellRow.holds Try.pinned (OpenSpec.ofChange boundsTellSpec)

/-- ITS FALSE NEIGHBOUR: 'it returns false'. Refute it at one input. -/
def boundsTellWrong : ChangeSpec := { name := "boundsTell", fn := fun _ => fun
  | [d1, d2, d3, d4] => { results := [.lit (.bool false)], args := [d1, d2, d3, d4] }
  | _ => none }
def BoundsTellWrongFalsely : Prop := boundsTellRow.holds Try.pinned (OpenSpec.ofChange boundsTellWrong)

/-- 'oghamlaw08.BoundsFit': WHATEVER THE INPUT: true; the input reads as it did. -/
def boundsFitSpec : ChangeSpec := { name := "boundsFit", fn := fun _ => fun
  | [d1, d2, d3] => { results := [.lit (.bool true)], args := [d1, d2, d3] }
  | _ => none }
def boundsFitRow : OpenClaim := { program := "ytknmcodpnhdghaa", sum := "5ff746cc6490e6c4e9d4a6989b15d6258c06aa2af150a9c386abbc2d7e03b88a", func := "ogham/oghamlaw08.BoundsFit", spec := "boundsFit", plainKeys := false, apart := false }
def BoundsFitSaid : Prop := boundsFitRow.holds Try.pinned (OpenSpec.ofChange boundsFitSpec)

/-- ITS FALSE NEIGHBOUR: 'it returns false'. Refute it at one input. -/
def boundsFitWrong : ChangeSpec := { name := "boundsFit", fn := fun _ => fun
  | [d1, d2, d3] => { results := [.lit (.bool false)], args := [d1, d2, d3] }
  | _ => none }
def BoundsFitWrongFalsely : Prop := boundsFitRow.holds Try.pinned (OpenSpec.ofChange boundsFitWrong)

/-- 'oghamlaw08.BoundsEnds': WHATEVER THE INPUT: true; the input reads as it did. -/
def boundsEndsSpec : ChangeSpec := { name := "boundsEnds", fn := fun _ => fun
  | [d1, d2] => { results := [.lit (.bool true)], args := [d1, d2] }
  | _ => none }
def boundsEndsRow : OpenClaim := { program := "ytknmcodpnhdghaa", sum := "5ff746cc6490e6c4e9d4a6989b15d6258c06aa2af150a9c386abbc2d7e03b88a", func := "ogham/oghamlaw08.BoundsEnds", spec := "boundsEnds", plainKeys := false, apart := false }
def BoundsEndsSaid : Prop := boundsEndsRow.holds Try.pinned (OpenSpec.ofChange boundsEndsSpec)

/-- ITS FALSE NEIGHBOUR: 'it returns false'. Refute it at one input. -/
def boundsEndsWrong : ChangeSpec := { name := "boundsEnds", fn := fun _ => fun
  | [d1, d2] => { results := [.lit (.bool false)], args := [d1, d2] }
  | _ => none }
def BoundsEndsWrongFalsely : Prop := boundsEndsRow.holds Try.pinned (OpenSpec.ofChange boundsEndsWrong)

/-- 'oghamlaw09.TagsTell': WHATEVER THE INPUT: true; the input reads as it did. -/
def tagsTellSpec : ChangeSpec := { name := "tagsTell", fn := fun _ => fun
  | [d1, d2, d3, d4] => { results := [.lit (.bool true)], args := [d1, d2, d3, d4] }
  | _ => none }
def tagsTellRow : OpenClaim := { program := "ytknmcodpnhdghaa", sum := "5ff746cc6490e6c4e9d4a6989b15d6258c06aa2af150a9c386abbc2d7e03b88a", func := "ogham/oghamlaw09.TagsTell", spec := "tagsTell", plainKeys := false, apart := false }
def TagsTellSaid : Prop := tagsTellRow.holds Try.pinned (OpenSpec.ofChange tagsTellSpec)

/-- ITS FALSE NEIGHBOUR: 'it returns false'. Refute it at one input. -/
def tagsTellWrong : ChangeSpec := { name := "tagsTell", fn := fun _ => fun
  | [d1, d2, d3, d4] => { results := [.lit (.bool false)], args := [d1, d2, d3, d4] }
  | _ => none }
def TagsTellWrongFalsely : Prop := tagsTellRow.holds Try.pinned (OpenSpec.ofChange tagsTellWrong)

/-- 'oghamlaw09.TagsWrap': WHATEVER THE INPUT: true; the input reads as it did. -/
def tagsWrapSpec : ChangeSpec := { name := "tagsWrap", fn := fun _ => fun
  | [d1, d2, d3] => { results := [.lit (.bool true)], args := [d1, d2, d3] }
  | _ => none }
def tagsWrapRow : OpenClaim := { program := "ytknmcodpnhdghaa", sum := "5ff746cc6490e6c4e9d4a6989b15d6258c06aa2af150a9c386abbc2d7e03b88a", func := "ogham/oghamlaw09.TagsWrap", spec := "tagsWrap", unfollowed := true, recurses := true, plainKeys := false, apart := false }
def TagsWrapSaid : Prop := tagsWrapRow.holds Try.pinned (OpenSpec.ofChange tagsWrapSpec)

/-- ITS FALSE NEIGHBOUR: 'it returns false'. Refute it at one input. -/
def tagsWrapWrong : ChangeSpec := { name := "tagsWrap", fn := fun _ => fun
  | [d1, d2, d3] => { results := [.lit (.bool false)], args := [d1, d2, d3] }
  | _ => none }
def TagsWrapWrongFalsely : Prop := tagsWrapRow.holds Try.pinned (OpenSpec.ofChange tagsWrapWrong)

/-- 'oghamlaw09.TagsOrder': WHATEVER THE INPUT: true; the input reads as it did. -/
def tagsOrderSpec : ChangeSpec := { name := "tagsOrder", fn := fun _ => fun
  | [d1, d2, d3] => { results := [.lit (.bool true)], args := [d1, d2, d3] }
  | _ => none }
def tagsOrderRow : OpenClaim := { program := "ytknmcodpnhdghaa", sum := "5ff746cc6490e6c4e9d4a6989b15d6258c06aa2af150a9c386abbc2d7e03b88a", func := "ogham/oghamlaw09.TagsOrder", spec := "tagsOrder", plainKeys := false, apart := false }
def TagsOrderSaid : Prop := tagsOrderRow.holds Try.pinned (OpenSpec.ofChange tagsOrderSpec)

/-- ITS FALSE NEIGHBOUR: 'it returns false'. Refute it at one input. -/
def tagsOrderWrong : ChangeSpec := { name := "tagsOrder", fn := fun _ => fun
  | [d1, d2, d3] => { results := [.lit (.bool false)], args := [d1, d2, d3] }
  | _ => none }
def TagsOrderWrongFalsely : Prop := tagsOrderRow.holds Try.pinned (OpenSpec.ofChange tagsOrderWrong)

/- THE SECOND FORM. 'bulk': how many values and letters a reading holds, each counted each time it is reached (what is shared counts as often as it is met; a slice's spare places count too). A statement '..UptoSaid' is the law's where the arguments, and the package variables that the reading takes, are together of bulk at most 1048576: NARROWER than '..Said'. Prove '..Said' where nothing that the law and all that it calls make is longer than what came in: it says more and counts as full. Else prove '..UptoSaid'. A law counts once. -/
mutual
def uptoBulk {H : Type} : DataW H → Nat
  | .lit (.string bytes) => bytes.length + 1
  | .lit _ => 1
  | .nil => 1
  | .ptr d => uptoBulk d + 1
  | .slice elems spare => uptoBulkAll elems + uptoBulkAll spare + 1
  | .agg parts => uptoBulkAll parts + 1
  | .iface _ d => uptoBulk d + 1
  | .map entries => uptoBulkEntries entries + 1
  | .held _ => 1
def uptoBulkAll {H : Type} : List (DataW H) → Nat
  | [] => 0
  | d :: r => uptoBulk d + uptoBulkAll r
def uptoBulkEntries {H : Type} : List (Lit × DataW H) → Nat
  | [] => 0
  | x :: r => uptoBulkEntry x + uptoBulkEntries r
def uptoBulkEntry {H : Type} : Lit × DataW H → Nat
  | (.string bytes, d) => bytes.length + uptoBulk d + 1
  | (_, d) => uptoBulk d + 1
 end
def uptoSmall : (H : Type) → List (DataW H) → Bool := fun _ ds => decide (uptoBulkAll ds ≤ 1048576)
def OpenSpec.upto (s : _root_.Go.ChangeSpec) : _root_.Go.OpenSpec := { _root_.Go.OpenSpec.ofChange s with cond := some uptoSmall }

/-- 'oghamlaw01.BitsWrite', WHERE WHAT IT READS IS OF BULK AT MOST 1048576: true; the input reads as it did. -/
def bitsWriteUptoRow : OpenClaim := { program := "ytknmcodpnhdghaa", sum := "5ff746cc6490e6c4e9d4a6989b15d6258c06aa2af150a9c386abbc2d7e03b88a", func := "ogham/oghamlaw01.BitsWrite", spec := "bitsWrite", unfollowed := true, recurses := true, plainKeys := false, apart := false, narrowed := true }
def BitsWriteUptoSaid : Prop := bitsWriteUptoRow.holds Try.pinned (OpenSpec.upto bitsWriteSpec)

/-- 'oghamlaw01.BitsRead', WHERE WHAT IT READS IS OF BULK AT MOST 1048576: true; the input reads as it did. -/
def bitsReadUptoRow : OpenClaim := { program := "ytknmcodpnhdghaa", sum := "5ff746cc6490e6c4e9d4a6989b15d6258c06aa2af150a9c386abbc2d7e03b88a", func := "ogham/oghamlaw01.BitsRead", spec := "bitsRead", unfollowed := true, recurses := true, plainKeys := false, apart := false, narrowed := true }
def BitsReadUptoSaid : Prop := bitsReadUptoRow.holds Try.pinned (OpenSpec.upto bitsReadSpec)

/-- 'oghamlaw01.BitsBack', WHERE WHAT IT READS IS OF BULK AT MOST 1048576: true; the input reads as it did. -/
def bitsBackUptoRow : OpenClaim := { program := "ytknmcodpnhdghaa", sum := "5ff746cc6490e6c4e9d4a6989b15d6258c06aa2af150a9c386abbc2d7e03b88a", func := "ogham/oghamlaw01.BitsBack", spec := "bitsBack", plainKeys := false, apart := false, narrowed := true }
def BitsBackUptoSaid : Prop := bitsBackUptoRow.holds Try.pinned (OpenSpec.upto bitsBackSpec)

/-- 'oghamlaw01.BitsNil', WHERE WHAT IT READS IS OF BULK AT MOST 1048576: true; the input reads as it did. -/
def bitsNilUptoRow : OpenClaim := { program := "ytknmcodpnhdghaa", sum := "5ff746cc6490e6c4e9d4a6989b15d6258c06aa2af150a9c386abbc2d7e03b88a", func := "ogham/oghamlaw01.BitsNil", spec := "bitsNil", plainKeys := false, apart := false, narrowed := true }
def BitsNilUptoSaid : Prop := bitsNilUptoRow.holds Try.pinned (OpenSpec.upto bitsNilSpec)

/-- 'oghamlaw01.BitsOctets', WHERE WHAT IT READS IS OF BULK AT MOST 1048576: true; the input reads as it did. -/
def bitsOctetsUptoRow : OpenClaim := { program := "ytknmcodpnhdghaa", sum := "5ff746cc6490e6c4e9d4a6989b15d6258c06aa2af150a9c386abbc2d7e03b88a", func := "ogham/oghamlaw01.BitsOctets", spec := "bitsOctets", plainKeys := false, apart := false, narrowed := true }
def BitsOctetsUptoSaid : Prop := bitsOctetsUptoRow.holds Try.pinned (OpenSpec.upto bitsOctetsSpec)

/-- 'oghamlaw01.BitsSplit', WHERE WHAT IT READS IS OF BULK AT MOST 1048576: true; the input reads as it did. -/
def bitsSplitUptoRow : OpenClaim := { program := "ytknmcodpnhdghaa", sum := "5ff746cc6490e6c4e9d4a6989b15d6258c06aa2af150a9c386abbc2d7e03b88a", func := "ogham/oghamlaw01.BitsSplit", spec := "bitsSplit", plainKeys := false, apart := false, narrowed := true }
def BitsSplitUptoSaid : Prop := bitsSplitUptoRow.holds Try.pinned (OpenSpec.upto bitsSplitSpec)

/-- 'oghamlaw08.BoundsTell', WHERE WHAT IT READS IS OF BULK AT MOST 1048576: true; the input reads as it did. -/
def boundsTellUptoRow : OpenClaim := { program := "ytknmcodpnhdghaa", sum := "5ff746cc6490e6c4e9d4a6989b15d6258c06aa2af150a9c386abbc2d7e03b88a", func := "ogham/oghamlaw08.BoundsTell", spec := "boundsTell", plainKeys := false, apart := false, narrowed := true }
def BoundsTellUptoSaid : Prop := boundsTellUptoRow.holds Try.pinned (OpenSpec.upto boundsTellSpec)

/-- 'oghamlaw08.BoundsFit', WHERE WHAT IT READS IS OF BULK AT MOST 1048576: true; the input reads as it did. -/
def boundsFitUptoRow : OpenClaim := { program := "ytknmcodpnhdghaa", sum := "5ff746cc6490e6c4e9d4a6989b15d6258c06aa2af150a9c386abbc2d7e03b88a", func := "ogham/oghamlaw08.BoundsFit", spec := "boundsFit", plainKeys := false, apart := false, narrowed := true }
def BoundsFitUptoSaid : Prop := boundsFitUptoRow.holds Try.pinned (OpenSpec.upto boundsFitSpec)

/-- 'oghamlaw08.BoundsEnds', WHERE WHAT IT READS IS OF BULK AT MOST 1048576: true; the input reads as it did. -/
def boundsEndsUptoRow : OpenClaim := { program := "ytknmcodpnhdghaa", sum := "5ff746cc6490e6c4e9d4a6989b15d6258c06aa2af150a9c386abbc2d7e03b88a", func := "ogham/oghamlaw08.BoundsEnds", spec := "boundsEnds", plainKeys := false, apart := false, narrowed := true }
def BoundsEndsUptoSaid : Prop := boundsEndsUptoRow.holds Try.pinned (OpenSpec.upto boundsEndsSpec)

/-- 'oghamlaw09.TagsTell', WHERE WHAT IT READS IS OF BULK AT MOST 1048576: true; the input reads as it did. -/
def tagsTellUptoRow : OpenClaim := { program := "ytknmcodpnhdghaa", sum := "5ff746cc6490e6c4e9d4a6989b15d6258c06aa2af150a9c386abbc2d7e03b88a", func := "ogham/oghamlaw09.TagsTell", spec := "tagsTell", plainKeys := false, apart := false, narrowed := true }
def TagsTellUptoSaid : Prop := tagsTellUptoRow.holds Try.pinned (OpenSpec.upto tagsTellSpec)

/-- 'oghamlaw09.TagsWrap', WHERE WHAT IT READS IS OF BULK AT MOST 1048576: true; the input reads as it did. -/
def tagsWrapUptoRow : OpenClaim := { program := "ytknmcodpnhdghaa", sum := "5ff746cc6490e6c4e9d4a6989b15d6258c06aa2af150a9c386abbc2d7e03b88a", func := "ogham/oghamlaw09.TagsWrap", spec := "tagsWrap", unfollowed := true, recurses := true, plainKeys := false, apart := false, narrowed := true }
def TagsWrapUptoSaid : Prop := tagsWrapUptoRow.holds Try.pinned (OpenSpec.upto tagsWrapSpec)

/-- 'oghamlaw09.TagsOrder', WHERE WHAT IT READS IS OF BULK AT MOST 1048576: true; the input reads as it did. -/
def tagsOrderUptoRow : OpenClaim := { program := "ytknmcodpnhdghaa", sum := "5ff746cc6490e6c4e9d4a6989b15d6258c06aa2af150a9c386abbc2d7e03b88a", func := "ogham/oghamlaw09.TagsOrder", spec := "tagsOrder", plainKeys := false, apart := false, narrowed := true }
def TagsOrderUptoSaid : Prop := tagsOrderUptoRow.holds Try.pinned (OpenSpec.upto tagsOrderSpec)

end Rows
end Go.Proofs.Ytknmcodpnhdghaa
