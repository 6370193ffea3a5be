/-
  No cell of these rows narrows 'for every input' (looked for: loops, veiled, ifaces, maps, wideKeys, modest, calm, conditions, laid).
  DERIVED. THE GIVEN ROWS OF THIS SEAT. 13 by the template 'for every input the law returns true; each argument reads behind the call as it read before'; 0 by the template 'total and deterministic' (their statements: YtpogpjnbgdbpfaaTotals.lean).
  GIVEN WITH THE SEED: the statements are not yours to turn. If you find one false, say at which input.
  Laid BY PROGRAM, IN A SANDBOX (cutbox-rows.mjs): the forced cells as the released guide's own fill.sh prints them over the translation 0037020be07a99e1… (all of the seat's roots in one cut). By AI agents, Wed Nov 11 2026. No macro, syntax, notation, axiom, sorry.
-/
import Derived.Test.YtpogpjnbgdbpfaaChecked
import GoSem.Claim
import GoSem.ClaimJoined
import GoSem.ClaimMapViews
import Derived.JoinedTies
import Derived.KernelRfl
namespace Go.Proofs.Ytpogpjnbgdbpfaa
/- THE CELL 'sum', in the pinned program and in every row, IS THE sha256 OF THE DUMP (.gsa) THAT YtpogpjnbgdbpfaaProg.lean LOADS. Nothing in Lean hashes anything: it is a label: what it is worth is what the hold of that sum in a sandbox is worth. -/
noncomputable def Try.pinned : Pinned := { name := "ytpogpjnbgdbpfaa", sum := "0037020be07a99e12fcde73b5aea7494d3909dc2d426bd320ab24fdf1dba2dbe", checked := Try.checked }
namespace Rows
def none {H : Type} : Left H := { results := [], args := [] }

/-- 'oghamlaw02.OctetsWrite': WHATEVER THE INPUT: true; the input reads as it did. -/
def octetsWriteSpec : ChangeSpec := { name := "octetsWrite", fn := fun _ => fun
  | [d1, d2, d3, d4, d5] => { results := [.lit (.bool true)], args := [d1, d2, d3, d4, d5] }
  | _ => none }
def octetsWriteRow : OpenClaim := { program := "ytpogpjnbgdbpfaa", sum := "0037020be07a99e12fcde73b5aea7494d3909dc2d426bd320ab24fdf1dba2dbe", func := "ogham/oghamlaw02.OctetsWrite", spec := "octetsWrite", inPlace := ["internal/bytealg.MakeNoZero", "internal/bytealg.Compare"], unfollowed := true, recurses := true, apart := false }
def OctetsWriteSaid : Prop := octetsWriteRow.holds Try.pinned (OpenSpec.ofChange octetsWriteSpec)

/-- ITS FALSE NEIGHBOUR: 'it returns false'. Refute it at one input. -/
def octetsWriteWrong : ChangeSpec := { name := "octetsWrite", fn := fun _ => fun
  | [d1, d2, d3, d4, d5] => { results := [.lit (.bool false)], args := [d1, d2, d3, d4, d5] }
  | _ => none }
def OctetsWriteWrongFalsely : Prop := octetsWriteRow.holds Try.pinned (OpenSpec.ofChange octetsWriteWrong)

/-- 'oghamlaw02.OctetsRead': WHATEVER THE INPUT: true; the input reads as it did. -/
def octetsReadSpec : ChangeSpec := { name := "octetsRead", fn := fun _ => fun
  | [d] => { results := [.lit (.bool true)], args := [d] }
  | _ => none }
def octetsReadRow : OpenClaim := { program := "ytpogpjnbgdbpfaa", sum := "0037020be07a99e12fcde73b5aea7494d3909dc2d426bd320ab24fdf1dba2dbe", func := "ogham/oghamlaw02.OctetsRead", spec := "octetsRead", unfollowed := true, recurses := true, apart := false }
def OctetsReadSaid : Prop := octetsReadRow.holds Try.pinned (OpenSpec.ofChange octetsReadSpec)

/-- ITS FALSE NEIGHBOUR: 'it returns false'. Refute it at one input. -/
def octetsReadWrong : ChangeSpec := { name := "octetsRead", fn := fun _ => fun
  | [d] => { results := [.lit (.bool false)], args := [d] }
  | _ => none }
def OctetsReadWrongFalsely : Prop := octetsReadRow.holds Try.pinned (OpenSpec.ofChange octetsReadWrong)

/-- 'oghamlaw02.OctetsBack': WHATEVER THE INPUT: true; the input reads as it did. -/
def octetsBackSpec : ChangeSpec := { name := "octetsBack", fn := fun _ => fun
  | [d1, d2, d3, d4] => { results := [.lit (.bool true)], args := [d1, d2, d3, d4] }
  | _ => none }
def octetsBackRow : OpenClaim := { program := "ytpogpjnbgdbpfaa", sum := "0037020be07a99e12fcde73b5aea7494d3909dc2d426bd320ab24fdf1dba2dbe", func := "ogham/oghamlaw02.OctetsBack", spec := "octetsBack", apart := false }
def OctetsBackSaid : Prop := octetsBackRow.holds Try.pinned (OpenSpec.ofChange octetsBackSpec)

/-- ITS FALSE NEIGHBOUR: 'it returns false'. Refute it at one input. -/
def octetsBackWrong : ChangeSpec := { name := "octetsBack", fn := fun _ => fun
  | [d1, d2, d3, d4] => { results := [.lit (.bool false)], args := [d1, d2, d3, d4] }
  | _ => none }
def OctetsBackWrongFalsely : Prop := octetsBackRow.holds Try.pinned (OpenSpec.ofChange octetsBackWrong)

/-- 'oghamlaw02.OctetsOrder': WHATEVER THE INPUT: true; the input reads as it did. -/
def octetsOrderSpec : ChangeSpec := { name := "octetsOrder", fn := fun _ => fun
  | [d1, d2] => { results := [.lit (.bool true)], args := [d1, d2] }
  | _ => none }
def octetsOrderRow : OpenClaim := { program := "ytpogpjnbgdbpfaa", sum := "0037020be07a99e12fcde73b5aea7494d3909dc2d426bd320ab24fdf1dba2dbe", func := "ogham/oghamlaw02.OctetsOrder", spec := "octetsOrder", inPlace := ["internal/bytealg.Compare"], unfollowed := true, recurses := true, apart := false }
def OctetsOrderSaid : Prop := octetsOrderRow.holds Try.pinned (OpenSpec.ofChange octetsOrderSpec)

/-- ITS FALSE NEIGHBOUR: 'it returns false'. Refute it at one input. -/
def octetsOrderWrong : ChangeSpec := { name := "octetsOrder", fn := fun _ => fun
  | [d1, d2] => { results := [.lit (.bool false)], args := [d1, d2] }
  | _ => none }
def OctetsOrderWrongFalsely : Prop := octetsOrderRow.holds Try.pinned (OpenSpec.ofChange octetsOrderWrong)

/-- 'oghamlaw02.OctetsSizes': WHATEVER THE INPUT: true; the input reads as it did. -/
def octetsSizesSpec : ChangeSpec := { name := "octetsSizes", fn := fun _ => fun
  | [d1, d2] => { results := [.lit (.bool true)], args := [d1, d2] }
  | _ => none }
def octetsSizesRow : OpenClaim := { program := "ytpogpjnbgdbpfaa", sum := "0037020be07a99e12fcde73b5aea7494d3909dc2d426bd320ab24fdf1dba2dbe", func := "ogham/oghamlaw02.OctetsSizes", spec := "octetsSizes", apart := false }
def OctetsSizesSaid : Prop := octetsSizesRow.holds Try.pinned (OpenSpec.ofChange octetsSizesSpec)

/-- ITS FALSE NEIGHBOUR: 'it returns false'. Refute it at one input. -/
def octetsSizesWrong : ChangeSpec := { name := "octetsSizes", fn := fun _ => fun
  | [d1, d2] => { results := [.lit (.bool false)], args := [d1, d2] }
  | _ => none }
def OctetsSizesWrongFalsely : Prop := octetsSizesRow.holds Try.pinned (OpenSpec.ofChange octetsSizesWrong)

/-- 'oghamlaw02.OctetsJoin': WHATEVER THE INPUT: true; the input reads as it did. -/
def octetsJoinSpec : ChangeSpec := { name := "octetsJoin", fn := fun _ => fun
  | [d1, d2] => { results := [.lit (.bool true)], args := [d1, d2] }
  | _ => none }
def octetsJoinRow : OpenClaim := { program := "ytpogpjnbgdbpfaa", sum := "0037020be07a99e12fcde73b5aea7494d3909dc2d426bd320ab24fdf1dba2dbe", func := "ogham/oghamlaw02.OctetsJoin", spec := "octetsJoin", inPlace := ["internal/bytealg.MakeNoZero"], apart := false }
def OctetsJoinSaid : Prop := octetsJoinRow.holds Try.pinned (OpenSpec.ofChange octetsJoinSpec)

/-- ITS FALSE NEIGHBOUR: 'it returns false'. Refute it at one input. -/
def octetsJoinWrong : ChangeSpec := { name := "octetsJoin", fn := fun _ => fun
  | [d1, d2] => { results := [.lit (.bool false)], args := [d1, d2] }
  | _ => none }
def OctetsJoinWrongFalsely : Prop := octetsJoinRow.holds Try.pinned (OpenSpec.ofChange octetsJoinWrong)

/-- 'oghamlaw02.OctetsCompare': WHATEVER THE INPUT: true; the input reads as it did. -/
def octetsCompareSpec : ChangeSpec := { name := "octetsCompare", fn := fun _ => fun
  | [d1, d2, d3] => { results := [.lit (.bool true)], args := [d1, d2, d3] }
  | _ => none }
def octetsCompareRow : OpenClaim := { program := "ytpogpjnbgdbpfaa", sum := "0037020be07a99e12fcde73b5aea7494d3909dc2d426bd320ab24fdf1dba2dbe", func := "ogham/oghamlaw02.OctetsCompare", spec := "octetsCompare", inPlace := ["internal/bytealg.Compare"], apart := false }
def OctetsCompareSaid : Prop := octetsCompareRow.holds Try.pinned (OpenSpec.ofChange octetsCompareSpec)

/-- ITS FALSE NEIGHBOUR: 'it returns false'. Refute it at one input. -/
def octetsCompareWrong : ChangeSpec := { name := "octetsCompare", fn := fun _ => fun
  | [d1, d2, d3] => { results := [.lit (.bool false)], args := [d1, d2, d3] }
  | _ => none }
def OctetsCompareWrongFalsely : Prop := octetsCompareRow.holds Try.pinned (OpenSpec.ofChange octetsCompareWrong)

/-- 'oghamlaw03.TlvWrites': WHATEVER THE INPUT: true; the input reads as it did. -/
def tlvWritesSpec : ChangeSpec := { name := "tlvWrites", fn := fun _ => fun
  | [d1, d2, d3, d4] => { results := [.lit (.bool true)], args := [d1, d2, d3, d4] }
  | _ => none }
def tlvWritesRow : OpenClaim := { program := "ytpogpjnbgdbpfaa", sum := "0037020be07a99e12fcde73b5aea7494d3909dc2d426bd320ab24fdf1dba2dbe", func := "ogham/oghamlaw03.TlvWrites", spec := "tlvWrites", inPlace := ["internal/bytealg.MakeNoZero"], unfollowed := true, recurses := true, apart := false }
def TlvWritesSaid : Prop := tlvWritesRow.holds Try.pinned (OpenSpec.ofChange tlvWritesSpec)

/-- ITS FALSE NEIGHBOUR: 'it returns false'. Refute it at one input. -/
def tlvWritesWrong : ChangeSpec := { name := "tlvWrites", fn := fun _ => fun
  | [d1, d2, d3, d4] => { results := [.lit (.bool false)], args := [d1, d2, d3, d4] }
  | _ => none }
def TlvWritesWrongFalsely : Prop := tlvWritesRow.holds Try.pinned (OpenSpec.ofChange tlvWritesWrong)

/-- 'oghamlaw03.TlvTakes': WHATEVER THE INPUT: true; the input reads as it did. -/
def tlvTakesSpec : ChangeSpec := { name := "tlvTakes", fn := fun _ => fun
  | [d] => { results := [.lit (.bool true)], args := [d] }
  | _ => none }
def tlvTakesRow : OpenClaim := { program := "ytpogpjnbgdbpfaa", sum := "0037020be07a99e12fcde73b5aea7494d3909dc2d426bd320ab24fdf1dba2dbe", func := "ogham/oghamlaw03.TlvTakes", spec := "tlvTakes", inPlace := ["internal/bytealg.MakeNoZero"], unfollowed := true, recurses := true, apart := false }
def TlvTakesSaid : Prop := tlvTakesRow.holds Try.pinned (OpenSpec.ofChange tlvTakesSpec)

/-- ITS FALSE NEIGHBOUR: 'it returns false'. Refute it at one input. -/
def tlvTakesWrong : ChangeSpec := { name := "tlvTakes", fn := fun _ => fun
  | [d] => { results := [.lit (.bool false)], args := [d] }
  | _ => none }
def TlvTakesWrongFalsely : Prop := tlvTakesRow.holds Try.pinned (OpenSpec.ofChange tlvTakesWrong)

/-- 'oghamlaw03.TlvBack': WHATEVER THE INPUT: true; the input reads as it did. -/
def tlvBackSpec : ChangeSpec := { name := "tlvBack", fn := fun _ => fun
  | [d1, d2, d3, d4, d5] => { results := [.lit (.bool true)], args := [d1, d2, d3, d4, d5] }
  | _ => none }
def tlvBackRow : OpenClaim := { program := "ytpogpjnbgdbpfaa", sum := "0037020be07a99e12fcde73b5aea7494d3909dc2d426bd320ab24fdf1dba2dbe", func := "ogham/oghamlaw03.TlvBack", spec := "tlvBack", inPlace := ["internal/bytealg.MakeNoZero"], apart := false }
def TlvBackSaid : Prop := tlvBackRow.holds Try.pinned (OpenSpec.ofChange tlvBackSpec)

/-- ITS FALSE NEIGHBOUR: 'it returns false'. Refute it at one input. -/
def tlvBackWrong : ChangeSpec := { name := "tlvBack", fn := fun _ => fun
  | [d1, d2, d3, d4, d5] => { results := [.lit (.bool false)], args := [d1, d2, d3, d4, d5] }
  | _ => none }
def TlvBackWrongFalsely : Prop := tlvBackRow.holds Try.pinned (OpenSpec.ofChange tlvBackWrong)

/-- 'oghamlaw03.TlvCut': WHATEVER THE INPUT: true; the input reads as it did. -/
def tlvCutSpec : ChangeSpec := { name := "tlvCut", fn := fun _ => fun
  | [d1, d2, d3, d4] => { results := [.lit (.bool true)], args := [d1, d2, d3, d4] }
  | _ => none }
def tlvCutRow : OpenClaim := { program := "ytpogpjnbgdbpfaa", sum := "0037020be07a99e12fcde73b5aea7494d3909dc2d426bd320ab24fdf1dba2dbe", func := "ogham/oghamlaw03.TlvCut", spec := "tlvCut", inPlace := ["internal/bytealg.MakeNoZero"], apart := false }
def TlvCutSaid : Prop := tlvCutRow.holds Try.pinned (OpenSpec.ofChange tlvCutSpec)

/-- ITS FALSE NEIGHBOUR: 'it returns false'. Refute it at one input. -/
def tlvCutWrong : ChangeSpec := { name := "tlvCut", fn := fun _ => fun
  | [d1, d2, d3, d4] => { results := [.lit (.bool false)], args := [d1, d2, d3, d4] }
  | _ => none }
def TlvCutWrongFalsely : Prop := tlvCutRow.holds Try.pinned (OpenSpec.ofChange tlvCutWrong)

/-- 'oghamlaw03.TlvNest': WHATEVER THE INPUT: true; the input reads as it did. -/
def tlvNestSpec : ChangeSpec := { name := "tlvNest", fn := fun _ => fun
  | [d1, d2] => { results := [.lit (.bool true)], args := [d1, d2] }
  | _ => none }
def tlvNestRow : OpenClaim := { program := "ytpogpjnbgdbpfaa", sum := "0037020be07a99e12fcde73b5aea7494d3909dc2d426bd320ab24fdf1dba2dbe", func := "ogham/oghamlaw03.TlvNest", spec := "tlvNest", inPlace := ["internal/bytealg.MakeNoZero"], apart := false }
def TlvNestSaid : Prop := tlvNestRow.holds Try.pinned (OpenSpec.ofChange tlvNestSpec)

/-- ITS FALSE NEIGHBOUR: 'it returns false'. Refute it at one input. -/
def tlvNestWrong : ChangeSpec := { name := "tlvNest", fn := fun _ => fun
  | [d1, d2] => { results := [.lit (.bool false)], args := [d1, d2] }
  | _ => none }
def TlvNestWrongFalsely : Prop := tlvNestRow.holds Try.pinned (OpenSpec.ofChange tlvNestWrong)

/-- 'oghamlaw03.TlvSizes': WHATEVER THE INPUT: true; the input reads as it did. -/
def tlvSizesSpec : ChangeSpec := { name := "tlvSizes", fn := fun _ => fun
  | [d1, d2, d3, d4] => { results := [.lit (.bool true)], args := [d1, d2, d3, d4] }
  | _ => none }
def tlvSizesRow : OpenClaim := { program := "ytpogpjnbgdbpfaa", sum := "0037020be07a99e12fcde73b5aea7494d3909dc2d426bd320ab24fdf1dba2dbe", func := "ogham/oghamlaw03.TlvSizes", spec := "tlvSizes", inPlace := ["internal/bytealg.MakeNoZero"], apart := false }
def TlvSizesSaid : Prop := tlvSizesRow.holds Try.pinned (OpenSpec.ofChange tlvSizesSpec)

/-- ITS FALSE NEIGHBOUR: 'it returns false'. Refute it at one input. -/
def tlvSizesWrong : ChangeSpec := { name := "tlvSizes", fn := fun _ => fun
  | [d1, d2, d3, d4] => { results := [.lit (.bool false)], args := [d1, d2, d3, d4] }
  | _ => none }
def TlvSizesWrongFalsely : Prop := tlvSizesRow.holds Try.pinned (OpenSpec.ofChange tlvSizesWrong)

/- THE SECOND FORM. 'bulk': how many values and letters a reading holds, each counted each time it is reached (what is shared counts as often as it is met; a slice's spare places count too). A statement '..UptoSaid' is the law's where the arguments, and the package variables that the reading takes, are together of bulk at most 1048576: NARROWER than '..Said'. Prove '..Said' where nothing that the law and all that it calls make is longer than what came in: it says more and counts as full. Else prove '..UptoSaid'. A law counts once. -/
mutual
def uptoBulk {H : Type} : DataW H → Nat
  | .lit (.string bytes) => bytes.length + 1
  | .lit _ => 1
  | .nil => 1
  | .ptr d => uptoBulk d + 1
  | .slice elems spare => uptoBulkAll elems + uptoBulkAll spare + 1
  | .agg parts => uptoBulkAll parts + 1
  | .iface _ d => uptoBulk d + 1
  | .map entries => uptoBulkEntries entries + 1
  | .held _ => 1
def uptoBulkAll {H : Type} : List (DataW H) → Nat
  | [] => 0
  | d :: r => uptoBulk d + uptoBulkAll r
def uptoBulkEntries {H : Type} : List (Lit × DataW H) → Nat
  | [] => 0
  | x :: r => uptoBulkEntry x + uptoBulkEntries r
def uptoBulkEntry {H : Type} : Lit × DataW H → Nat
  | (.string bytes, d) => bytes.length + uptoBulk d + 1
  | (_, d) => uptoBulk d + 1
 end
def uptoSmall : (H : Type) → List (DataW H) → Bool := fun _ ds => decide (uptoBulkAll ds ≤ 1048576)
def OpenSpec.upto (s : _root_.Go.ChangeSpec) : _root_.Go.OpenSpec := { _root_.Go.OpenSpec.ofChange s with cond := some uptoSmall }

/-- 'oghamlaw02.OctetsWrite', WHERE WHAT IT READS IS OF BULK AT MOST 1048576: true; the input reads as it did. -/
def octetsWriteUptoRow : OpenClaim := { program := "ytpogpjnbgdbpfaa", sum := "0037020be07a99e12fcde73b5aea7494d3909dc2d426bd320ab24fdf1dba2dbe", func := "ogham/oghamlaw02.OctetsWrite", spec := "octetsWrite", inPlace := ["internal/bytealg.MakeNoZero", "internal/bytealg.Compare"], unfollowed := true, recurses := true, apart := false, narrowed := true }
def OctetsWriteUptoSaid : Prop := octetsWriteUptoRow.holds Try.pinned (OpenSpec.upto octetsWriteSpec)

/-- 'oghamlaw02.OctetsRead', WHERE WHAT IT READS IS OF BULK AT MOST 1048576: true; the input reads as it did. -/
def octetsReadUptoRow : OpenClaim := { program := "ytpogpjnbgdbpfaa", sum := "0037020be07a99e12fcde73b5aea7494d3909dc2d426bd320ab24fdf1dba2dbe", func := "ogham/oghamlaw02.OctetsRead", spec := "octetsRead", unfollowed := true, recurses := true, apart := false, narrowed := true }
def OctetsReadUptoSaid : Prop := octetsReadUptoRow.holds Try.pinned (OpenSpec.upto octetsReadSpec)

/-- 'oghamlaw02.OctetsBack', WHERE WHAT IT READS IS OF BULK AT MOST 1048576: true; the input reads as it did. -/
def octetsBackUptoRow : OpenClaim := { program := "ytpogpjnbgdbpfaa", sum := "0037020be07a99e12fcde73b5aea7494d3909dc2d426bd320ab24fdf1dba2dbe", func := "ogham/oghamlaw02.OctetsBack", spec := "octetsBack", apart := false, narrowed := true }
def OctetsBackUptoSaid : Prop := octetsBackUptoRow.holds Try.pinned (OpenSpec.upto octetsBackSpec)

/-- 'oghamlaw02.OctetsOrder', WHERE WHAT IT READS IS OF BULK AT MOST 1048576: true; the input reads as it did. -/
def octetsOrderUptoRow : OpenClaim := { program := "ytpogpjnbgdbpfaa", sum := "0037020be07a99e12fcde73b5aea7494d3909dc2d426bd320ab24fdf1dba2dbe", func := "ogham/oghamlaw02.OctetsOrder", spec := "octetsOrder", inPlace := ["internal/bytealg.Compare"], unfollowed := true, recurses := true, apart := false, narrowed := true }
def OctetsOrderUptoSaid : Prop := octetsOrderUptoRow.holds Try.pinned (OpenSpec.upto octetsOrderSpec)

/-- 'oghamlaw02.OctetsSizes', WHERE WHAT IT READS IS OF BULK AT MOST 1048576: true; the input reads as it did. -/
def octetsSizesUptoRow : OpenClaim := { program := "ytpogpjnbgdbpfaa", sum := "0037020be07a99e12fcde73b5aea7494d3909dc2d426bd320ab24fdf1dba2dbe", func := "ogham/oghamlaw02.OctetsSizes", spec := "octetsSizes", apart := false, narrowed := true }
def OctetsSizesUptoSaid : Prop := octetsSizesUptoRow.holds Try.pinned (OpenSpec.upto octetsSizesSpec)

/-- 'oghamlaw02.OctetsJoin', WHERE WHAT IT READS IS OF BULK AT MOST 1048576: true; the input reads as it did. -/
def octetsJoinUptoRow : OpenClaim := { program := "ytpogpjnbgdbpfaa", sum := "0037020be07a99e12fcde73b5aea7494d3909dc2d426bd320ab24fdf1dba2dbe", func := "ogham/oghamlaw02.OctetsJoin", spec := "octetsJoin", inPlace := ["internal/bytealg.MakeNoZero"], apart := false, narrowed := true }
def OctetsJoinUptoSaid : Prop := octetsJoinUptoRow.holds Try.pinned (OpenSpec.upto octetsJoinSpec)

/-- 'oghamlaw02.OctetsCompare', WHERE WHAT IT READS IS OF BULK AT MOST 1048576: true; the input reads as it did. -/
def octetsCompareUptoRow : OpenClaim := { program := "ytpogpjnbgdbpfaa", sum := "0037020be07a99e12fcde73b5aea7494d3909dc2d426bd320ab24fdf1dba2dbe", func := "ogham/oghamlaw02.OctetsCompare", spec := "octetsCompare", inPlace := ["internal/bytealg.Compare"], apart := false, narrowed := true }
def OctetsCompareUptoSaid : Prop := octetsCompareUptoRow.holds Try.pinned (OpenSpec.upto octetsCompareSpec)

/-- 'oghamlaw03.TlvWrites', WHERE WHAT IT READS IS OF BULK AT MOST 1048576: true; the input reads as it did. -/
def tlvWritesUptoRow : OpenClaim := { program := "ytpogpjnbgdbpfaa", sum := "0037020be07a99e12fcde73b5aea7494d3909dc2d426bd320ab24fdf1dba2dbe", func := "ogham/oghamlaw03.TlvWrites", spec := "tlvWrites", inPlace := ["internal/bytealg.MakeNoZero"], unfollowed := true, recurses := true, apart := false, narrowed := true }
def TlvWritesUptoSaid : Prop := tlvWritesUptoRow.holds Try.pinned (OpenSpec.upto tlvWritesSpec)

/-- 'oghamlaw03.TlvTakes', WHERE WHAT IT READS IS OF BULK AT MOST 1048576: true; the input reads as it did. -/
def tlvTakesUptoRow : OpenClaim := { program := "ytpogpjnbgdbpfaa", sum := "0037020be07a99e12fcde73b5aea7494d3909dc2d426bd320ab24fdf1dba2dbe", func := "ogham/oghamlaw03.TlvTakes", spec := "tlvTakes", inPlace := ["internal/bytealg.MakeNoZero"], unfollowed := true, recurses := true, apart := false, narrowed := true }
def TlvTakesUptoSaid : Prop := tlvTakesUptoRow.holds Try.pinned (OpenSpec.upto tlvTakesSpec)

/-- 'oghamlaw03.TlvBack', WHERE WHAT IT READS IS OF BULK AT MOST 1048576: true; the input reads as it did. -/
def tlvBackUptoRow : OpenClaim := { program := "ytpogpjnbgdbpfaa", sum := "0037020be07a99e12fcde73b5aea7494d3909dc2d426bd320ab24fdf1dba2dbe", func := "ogham/oghamlaw03.TlvBack", spec := "tlvBack", inPlace := ["internal/bytealg.MakeNoZero"], apart := false, narrowed := true }
def TlvBackUptoSaid : Prop := tlvBackUptoRow.holds Try.pinned (OpenSpec.upto tlvBackSpec)

/-- 'oghamlaw03.TlvCut', WHERE WHAT IT READS IS OF BULK AT MOST 1048576: true; the input reads as it did. -/
def tlvCutUptoRow : OpenClaim := { program := "ytpogpjnbgdbpfaa", sum := "0037020be07a99e12fcde73b5aea7494d3909dc2d426bd320ab24fdf1dba2dbe", func := "ogham/oghamlaw03.TlvCut", spec := "tlvCut", inPlace := ["internal/bytealg.MakeNoZero"], apart := false, narrowed := true }
def TlvCutUptoSaid : Prop := tlvCutUptoRow.holds Try.pinned (OpenSpec.upto tlvCutSpec)

/-- 'oghamlaw03.TlvNest', WHERE WHAT IT READS IS OF BULK AT MOST 1048576: true; the input reads as it did. -/
def tlvNestUptoRow : OpenClaim := { program := "ytpogpjnbgdbpfaa", sum := "0037020be07a99e12fcde73b5aea7494d3909dc2d426bd320ab24fdf1dba2dbe", func := "ogham/oghamlaw03.TlvNest", spec := "tlvNest", inPlace := ["internal/bytealg.MakeNoZero"], apart := false, narrowed := true }
def TlvNestUptoSaid : Prop := tlvNestUptoRow.holds Try.pinned (OpenSpec.upto tlvNestSpec)

/-- 'oghamlaw03.TlvSizes', WHERE WHAT IT READS IS OF BULK AT MOST 1048576: true; the input reads as it did. -/
def tlvSizesUptoRow : OpenClaim := { program := "ytpogpjnbgdbpfaa", sum := "0037020be07a99e12fcde73b5aea7494d3909dc2d426bd320ab24fdf1dba2dbe", func := "ogham/oghamlaw03.TlvSizes", spec := "tlvSizes", inPlace := ["internal/bytealg.MakeNoZero"], apart := false, narrowed := true }
def TlvSizesUptoSaid : Prop := tlvSizesUptoRow.holds Try.pinned (OpenSpec.upto tlvSizesSpec)

end Rows
end Go.Proofs.Ytpogpjnbgdbpfaa
