/-
  DERIVED. GIVEN WITH THE SEED: THE CARDS: each row of YtckcbgijddglpaaDoorRows.lean that lists a variable, with what it lists TIED to the program's text (the seventh form; the later family's looks); each row that meets fmt, with fmt's text TOLD by the authors' own Lean function (tested against real Go, not proved from fmt's source: count such statements apart). THE CARD IS WHAT COUNTS. Prove the row's statement (the work); the ties are given (YtckcbgijddglpaaDoorTie.lean); close each card by the builder's one call (the guide's Derived/Test/ToyasCard.lean, 'card_holds'). Laid BY PROGRAM, IN A SANDBOX (cutbox-door.mjs). By AI agents, Wed Nov 11 2026. No macro, syntax, notation, axiom, sorry.
-/
import Derived.Test.YtckcbgijddglpaaDoorRows
import GoSem.ClaimSeven
namespace Go.Proofs.YtckcbgijddglpaaDoor
namespace Rows

/-- THE TIED CARD OF 'oghamlaw05.SyntaxBounds'. -/
def syntaxBoundsCard : Claim7 := { stood := { row := syntaxBoundsRow, standIns := [], harness := (true, "db8b428d9394e646bded2b17805425feaae0d79177db6d45e76b8ab9ce07e742"), looks := true }, kinds := [], alts := [], laidByText := true, laidKinds := [.data, .data, .data, .data, .sentinel, .sentinel, .data, .pinned], laidTests := true, laidLooks := .later }
def SyntaxBoundsCardSaid : Prop := Claim7.holds Tryd.pinned (.plain (OpenSpec.ofChange syntaxBoundsSpec)) syntaxBoundsCard

/-- THE TIED CARD OF 'oghamlaw05.SyntaxDeep'. -/
def syntaxDeepCard : Claim7 := { stood := { row := syntaxDeepRow, standIns := [], harness := (true, "db8b428d9394e646bded2b17805425feaae0d79177db6d45e76b8ab9ce07e742"), looks := true }, kinds := [], alts := [], laidByText := true, laidKinds := [.data, .data, .data, .data, .sentinel, .sentinel, .data, .pinned], laidTests := true, laidLooks := .later }
def SyntaxDeepCardSaid : Prop := Claim7.holds Tryd.pinned (.plain (OpenSpec.ofChange syntaxDeepSpec)) syntaxDeepCard

/-- THE TIED CARD OF 'oghamlaw05.SyntaxMany'. -/
def syntaxManyCard : Claim7 := { stood := { row := syntaxManyRow, standIns := [], harness := (true, "db8b428d9394e646bded2b17805425feaae0d79177db6d45e76b8ab9ce07e742"), looks := true }, kinds := [], alts := [], laidByText := true, laidKinds := [.data, .data, .data, .data, .sentinel, .sentinel, .data, .pinned], laidTests := true, laidLooks := .later }
def SyntaxManyCardSaid : Prop := Claim7.holds Tryd.pinned (.plain (OpenSpec.ofChange syntaxManySpec)) syntaxManyCard

/-- THE TIED CARD OF 'oghamlaw05.SyntaxMarks'. -/
def syntaxMarksCard : Claim7 := { stood := { row := syntaxMarksRow, standIns := [], harness := (true, "db8b428d9394e646bded2b17805425feaae0d79177db6d45e76b8ab9ce07e742"), looks := true }, kinds := [], alts := [], laidByText := true, laidKinds := [.data, .data, .data, .data, .sentinel, .sentinel, .data, .pinned], laidTests := true, laidLooks := .later }
def SyntaxMarksCardSaid : Prop := Claim7.holds Tryd.pinned (.plain (OpenSpec.ofChange syntaxMarksSpec)) syntaxMarksCard

/-- THE SECOND FORM's CARD OF 'oghamlaw05.SyntaxBounds'. -/
def syntaxBoundsUptoCard : Claim7 := { stood := { row := syntaxBoundsUptoRow, standIns := [], harness := (true, "db8b428d9394e646bded2b17805425feaae0d79177db6d45e76b8ab9ce07e742"), looks := true }, kinds := [], alts := [], laidByText := true, laidKinds := [.data, .data, .data, .data, .sentinel, .sentinel, .data, .pinned], laidTests := true, laidLooks := .later }
def SyntaxBoundsUptoCardSaid : Prop := Claim7.holds Tryd.pinned (.plain (OpenSpec.upto syntaxBoundsSpec)) syntaxBoundsUptoCard

/-- THE SECOND FORM's CARD OF 'oghamlaw05.SyntaxDeep'. -/
def syntaxDeepUptoCard : Claim7 := { stood := { row := syntaxDeepUptoRow, standIns := [], harness := (true, "db8b428d9394e646bded2b17805425feaae0d79177db6d45e76b8ab9ce07e742"), looks := true }, kinds := [], alts := [], laidByText := true, laidKinds := [.data, .data, .data, .data, .sentinel, .sentinel, .data, .pinned], laidTests := true, laidLooks := .later }
def SyntaxDeepUptoCardSaid : Prop := Claim7.holds Tryd.pinned (.plain (OpenSpec.upto syntaxDeepSpec)) syntaxDeepUptoCard

/-- THE SECOND FORM's CARD OF 'oghamlaw05.SyntaxMany'. -/
def syntaxManyUptoCard : Claim7 := { stood := { row := syntaxManyUptoRow, standIns := [], harness := (true, "db8b428d9394e646bded2b17805425feaae0d79177db6d45e76b8ab9ce07e742"), looks := true }, kinds := [], alts := [], laidByText := true, laidKinds := [.data, .data, .data, .data, .sentinel, .sentinel, .data, .pinned], laidTests := true, laidLooks := .later }
def SyntaxManyUptoCardSaid : Prop := Claim7.holds Tryd.pinned (.plain (OpenSpec.upto syntaxManySpec)) syntaxManyUptoCard

/-- THE SECOND FORM's CARD OF 'oghamlaw05.SyntaxMarks'. -/
def syntaxMarksUptoCard : Claim7 := { stood := { row := syntaxMarksUptoRow, standIns := [], harness := (true, "db8b428d9394e646bded2b17805425feaae0d79177db6d45e76b8ab9ce07e742"), looks := true }, kinds := [], alts := [], laidByText := true, laidKinds := [.data, .data, .data, .data, .sentinel, .sentinel, .data, .pinned], laidTests := true, laidLooks := .later }
def SyntaxMarksUptoCardSaid : Prop := Claim7.holds Tryd.pinned (.plain (OpenSpec.upto syntaxMarksSpec)) syntaxMarksUptoCard
end Rows
end Go.Proofs.YtckcbgijddglpaaDoor
