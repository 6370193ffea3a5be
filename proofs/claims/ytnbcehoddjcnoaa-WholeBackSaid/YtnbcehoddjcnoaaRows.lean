/-
  No cell of these rows narrows 'for every input' (looked for: loops, veiled, ifaces, maps, wideKeys, modest, calm, conditions, laid).
  DERIVED. THE GIVEN ROWS OF THIS SEAT. 5 by the template 'for every input the law returns true; each argument reads behind the call as it read before'; 0 by the template 'total and deterministic' (their statements: YtnbcehoddjcnoaaTotals.lean).
  GIVEN WITH THE SEED: the statements are not yours to turn. If you find one false, say at which input.
  Laid BY PROGRAM, IN A SANDBOX (cutbox-rows.mjs): the forced cells as the released guide's own fill.sh prints them over the translation 2f200a3056f125e1… (all of the seat's roots in one cut). By AI agents, Wed Nov 11 2026. No macro, syntax, notation, axiom, sorry.
-/
import Derived.Test.YtnbcehoddjcnoaaChecked
import GoSem.Claim
import GoSem.ClaimJoined
import GoSem.ClaimMapViews
import Derived.JoinedTies
import Derived.KernelRfl
namespace Go.Proofs.Ytnbcehoddjcnoaa
/- THE CELL 'sum', in the pinned program and in every row, IS THE sha256 OF THE DUMP (.gsa) THAT YtnbcehoddjcnoaaProg.lean LOADS. Nothing in Lean hashes anything: it is a label: what it is worth is what the hold of that sum in a sandbox is worth. -/
noncomputable def Try.pinned : Pinned := { name := "ytnbcehoddjcnoaa", sum := "2f200a3056f125e1cf6b1c45ad2a0f31c00d469c2bc789215a1a6a84863a257b", checked := Try.checked }
namespace Rows
def none {H : Type} : Left H := { results := [], args := [] }

/-- 'oghamlaw17.WholeWrites': WHATEVER THE INPUT: true; the input reads as it did. -/
def wholeWritesSpec : ChangeSpec := { name := "wholeWrites", fn := fun _ => fun
  | [d] => { results := [.lit (.bool true)], args := [d] }
  | _ => none }
def wholeWritesRow : OpenClaim := { program := "ytnbcehoddjcnoaa", sum := "2f200a3056f125e1cf6b1c45ad2a0f31c00d469c2bc789215a1a6a84863a257b", func := "ogham/oghamlaw17.WholeWrites", spec := "wholeWrites", unfollowed := true, recurses := true, apart := false }
def WholeWritesSaid : Prop := wholeWritesRow.holds Try.pinned (OpenSpec.ofChange wholeWritesSpec)

/-- ITS FALSE NEIGHBOUR: 'it returns false'. Refute it at one input. -/
def wholeWritesWrong : ChangeSpec := { name := "wholeWrites", fn := fun _ => fun
  | [d] => { results := [.lit (.bool false)], args := [d] }
  | _ => none }
def WholeWritesWrongFalsely : Prop := wholeWritesRow.holds Try.pinned (OpenSpec.ofChange wholeWritesWrong)

/-- 'oghamlaw17.WholeReads': WHATEVER THE INPUT: true; the input reads as it did. -/
def wholeReadsSpec : ChangeSpec := { name := "wholeReads", fn := fun _ => fun
  | [d1, d2] => { results := [.lit (.bool true)], args := [d1, d2] }
  | _ => none }
def wholeReadsRow : OpenClaim := { program := "ytnbcehoddjcnoaa", sum := "2f200a3056f125e1cf6b1c45ad2a0f31c00d469c2bc789215a1a6a84863a257b", func := "ogham/oghamlaw17.WholeReads", spec := "wholeReads", unfollowed := true, recurses := true, apart := false }
def WholeReadsSaid : Prop := wholeReadsRow.holds Try.pinned (OpenSpec.ofChange wholeReadsSpec)

/-- ITS FALSE NEIGHBOUR: 'it returns false'. Refute it at one input. -/
def wholeReadsWrong : ChangeSpec := { name := "wholeReads", fn := fun _ => fun
  | [d1, d2] => { results := [.lit (.bool false)], args := [d1, d2] }
  | _ => none }
def WholeReadsWrongFalsely : Prop := wholeReadsRow.holds Try.pinned (OpenSpec.ofChange wholeReadsWrong)

/-- 'oghamlaw17.WholeBack': WHATEVER THE INPUT: true; the input reads as it did. -/
def wholeBackSpec : ChangeSpec := { name := "wholeBack", fn := fun _ => fun
  | [d] => { results := [.lit (.bool true)], args := [d] }
  | _ => none }
def wholeBackRow : OpenClaim := { program := "ytnbcehoddjcnoaa", sum := "2f200a3056f125e1cf6b1c45ad2a0f31c00d469c2bc789215a1a6a84863a257b", func := "ogham/oghamlaw17.WholeBack", spec := "wholeBack", apart := false }
def WholeBackSaid : Prop := wholeBackRow.holds Try.pinned (OpenSpec.ofChange wholeBackSpec)

/-- ITS FALSE NEIGHBOUR: 'it returns false'. Refute it at one input. -/
def wholeBackWrong : ChangeSpec := { name := "wholeBack", fn := fun _ => fun
  | [d] => { results := [.lit (.bool false)], args := [d] }
  | _ => none }
def WholeBackWrongFalsely : Prop := wholeBackRow.holds Try.pinned (OpenSpec.ofChange wholeBackWrong)

/-- 'oghamlaw17.WholeWidths': WHATEVER THE INPUT: true; the input reads as it did. -/
def wholeWidthsSpec : ChangeSpec := { name := "wholeWidths", fn := fun _ => fun
  | [d1, d2, d3] => { results := [.lit (.bool true)], args := [d1, d2, d3] }
  | _ => none }
def wholeWidthsRow : OpenClaim := { program := "ytnbcehoddjcnoaa", sum := "2f200a3056f125e1cf6b1c45ad2a0f31c00d469c2bc789215a1a6a84863a257b", func := "ogham/oghamlaw17.WholeWidths", spec := "wholeWidths", apart := false }
def WholeWidthsSaid : Prop := wholeWidthsRow.holds Try.pinned (OpenSpec.ofChange wholeWidthsSpec)

/-- ITS FALSE NEIGHBOUR: 'it returns false'. Refute it at one input. -/
def wholeWidthsWrong : ChangeSpec := { name := "wholeWidths", fn := fun _ => fun
  | [d1, d2, d3] => { results := [.lit (.bool false)], args := [d1, d2, d3] }
  | _ => none }
def WholeWidthsWrongFalsely : Prop := wholeWidthsRow.holds Try.pinned (OpenSpec.ofChange wholeWidthsWrong)

/-- 'oghamlaw17.WholeNil': WHATEVER THE INPUT: true; the input reads as it did. -/
def wholeNilSpec : ChangeSpec := { name := "wholeNil", fn := fun _ => fun
  | [d1, d2] => { results := [.lit (.bool true)], args := [d1, d2] }
  | _ => none }
def wholeNilRow : OpenClaim := { program := "ytnbcehoddjcnoaa", sum := "2f200a3056f125e1cf6b1c45ad2a0f31c00d469c2bc789215a1a6a84863a257b", func := "ogham/oghamlaw17.WholeNil", spec := "wholeNil", apart := false }
def WholeNilSaid : Prop := wholeNilRow.holds Try.pinned (OpenSpec.ofChange wholeNilSpec)

/-- ITS FALSE NEIGHBOUR: 'it returns false'. Refute it at one input. -/
def wholeNilWrong : ChangeSpec := { name := "wholeNil", fn := fun _ => fun
  | [d1, d2] => { results := [.lit (.bool false)], args := [d1, d2] }
  | _ => none }
def WholeNilWrongFalsely : Prop := wholeNilRow.holds Try.pinned (OpenSpec.ofChange wholeNilWrong)

/- THE SECOND FORM. 'bulk': how many values and letters a reading holds, each counted each time it is reached (what is shared counts as often as it is met; a slice's spare places count too). A statement '..UptoSaid' is the law's where the arguments, and the package variables that the reading takes, are together of bulk at most 1048576: NARROWER than '..Said'. Prove '..Said' where nothing that the law and all that it calls make is longer than what came in: it says more and counts as full. Else prove '..UptoSaid'. A law counts once. -/
mutual
def uptoBulk {H : Type} : DataW H → Nat
  | .lit (.string bytes) => bytes.length + 1
  | .lit _ => 1
  | .nil => 1
  | .ptr d => uptoBulk d + 1
  | .slice elems spare => uptoBulkAll elems + uptoBulkAll spare + 1
  | .agg parts => uptoBulkAll parts + 1
  | .iface _ d => uptoBulk d + 1
  | .map entries => uptoBulkEntries entries + 1
  | .held _ => 1
def uptoBulkAll {H : Type} : List (DataW H) → Nat
  | [] => 0
  | d :: r => uptoBulk d + uptoBulkAll r
def uptoBulkEntries {H : Type} : List (Lit × DataW H) → Nat
  | [] => 0
  | x :: r => uptoBulkEntry x + uptoBulkEntries r
def uptoBulkEntry {H : Type} : Lit × DataW H → Nat
  | (.string bytes, d) => bytes.length + uptoBulk d + 1
  | (_, d) => uptoBulk d + 1
 end
def uptoSmall : (H : Type) → List (DataW H) → Bool := fun _ ds => decide (uptoBulkAll ds ≤ 1048576)
def OpenSpec.upto (s : _root_.Go.ChangeSpec) : _root_.Go.OpenSpec := { _root_.Go.OpenSpec.ofChange s with cond := some uptoSmall }

/-- 'oghamlaw17.WholeWrites', WHERE WHAT IT READS IS OF BULK AT MOST 1048576: true; the input reads as it did. -/
def wholeWritesUptoRow : OpenClaim := { program := "ytnbcehoddjcnoaa", sum := "2f200a3056f125e1cf6b1c45ad2a0f31c00d469c2bc789215a1a6a84863a257b", func := "ogham/oghamlaw17.WholeWrites", spec := "wholeWrites", unfollowed := true, recurses := true, apart := false, narrowed := true }
def WholeWritesUptoSaid : Prop := wholeWritesUptoRow.holds Try.pinned (OpenSpec.upto wholeWritesSpec)

/-- 'oghamlaw17.WholeReads', WHERE WHAT IT READS IS OF BULK AT MOST 1048576: true; the input reads as it did. -/
def wholeReadsUptoRow : OpenClaim := { program := "ytnbcehoddjcnoaa", sum := "2f200a3056f125e1cf6b1c45ad2a0f31c00d469c2bc789215a1a6a84863a257b", func := "ogham/oghamlaw17.WholeReads", spec := "wholeReads", unfollowed := true, recurses := true, apart := false, narrowed := true }
def WholeReadsUptoSaid : Prop := wholeReadsUptoRow.holds Try.pinned (OpenSpec.upto wholeReadsSpec)

/-- 'oghamlaw17.WholeBack', WHERE WHAT IT READS IS OF BULK AT MOST 1048576: true; the input reads as it did. -/
def wholeBackUptoRow : OpenClaim := { program := "ytnbcehoddjcnoaa", sum := "2f200a3056f125e1cf6b1c45ad2a0f31c00d469c2bc789215a1a6a84863a257b", func := "ogham/oghamlaw17.WholeBack", spec := "wholeBack", apart := false, narrowed := true }
def WholeBackUptoSaid : Prop := wholeBackUptoRow.holds Try.pinned (OpenSpec.upto wholeBackSpec)

/-- 'oghamlaw17.WholeWidths', WHERE WHAT IT READS IS OF BULK AT MOST 1048576: true; the input reads as it did. -/
def wholeWidthsUptoRow : OpenClaim := { program := "ytnbcehoddjcnoaa", sum := "2f200a3056f125e1cf6b1c45ad2a0f31c00d469c2bc789215a1a6a84863a257b", func := "ogham/oghamlaw17.WholeWidths", spec := "wholeWidths", apart := false, narrowed := true }
def WholeWidthsUptoSaid : Prop := wholeWidthsUptoRow.holds Try.pinned (OpenSpec.upto wholeWidthsSpec)

/-- 'oghamlaw17.WholeNil', WHERE WHAT IT READS IS OF BULK AT MOST 1048576: true; the input reads as it did. -/
def wholeNilUptoRow : OpenClaim := { program := "ytnbcehoddjcnoaa", sum := "2f200a3056f125e1cf6b1c45ad2a0f31c00d469c2bc789215a1a6a84863a257b", func := "ogham/oghamlaw17.WholeNil", spec := "wholeNil", apart := false, narrowed := true }
def WholeNilUptoSaid : Prop := wholeNilUptoRow.holds Try.pinned (OpenSpec.upto wholeNilSpec)

end Rows
end Go.Proofs.Ytnbcehoddjcnoaa
