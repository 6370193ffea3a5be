/- The parser of modules as a function on the list of tokens. -/
import Derived.Test.YtckcbgijddglpaaGreatDoorLexN3
namespace Go.Proofs.YtckcbgijddglpaaGreatDoor
open Go.PlainAid
set_option linter.unusedVariables false

structure ConV where
  has : Bool := false
  hasLow : Bool := false
  hasHigh : Bool := false
  more : Bool := false
  low : Int := 0
  high : Int := 0
structure ItemV where
  name : ByteArray := ⟨#[]⟩
  number : Int := 0
  has : Bool := false
structure ValV where
  kind : Int := 0
  n : Int := 0
  b : List UInt8 := []
structure FieldV where
  name : ByteArray := ⟨#[]⟩
  type : Nat := 0
  optional : Bool := false
  has : Bool := false
  dflt : ValV := {}
  group : Nat := 0
structure NodeV where
  kind : Int := 0
  name : ByteArray := ⟨#[]⟩
  mHas : Bool := false
  mNum : Int := 0
  mMode : Int := 0
  con : ConV := {}
  items : List ItemV := []
  fields : List FieldV := []
  root : Nat := 0
  more : Bool := false
  of : Nat := 0
structure ModV where
  name : ByteArray := ⟨#[]⟩
  tagging : Int := 0
  names : List ByteArray := []
  types : List Nat := []
  nodes : List NodeV := []

/-- The token that is to be read next. -/
def tk (l : List Tok) (i : Nat) : Tok := l.getD i (0, ⟨#[]⟩, 0)
def isT (l : List Tok) (i : Nat) (s : ByteArray) : Bool := (decide ((tk l i).1 = 5) || decide ((tk l i).1 = 6)) && (tk l i).2.1.data.toList == s.data.toList
def skT (l : List Tok) (i : Nat) : Nat := if (tk l i).1 = 0 then i else i + 1
/-- An error: its place, its number. -/
abbrev SErr := Nat × Int
/-- An error at the next token. -/
def errT {α : Type} (l : List Tok) (i : Nat) (e : Int) : Except SErr α := .error ((tk l i).2.2, e)
def wantT (l : List Tok) (i : Nat) (s : ByteArray) : Except SErr Nat := if isT l i s = true then .ok (i + 1) else errT l i 7
def tokT (l : List Tok) (i : Nat) (k : Int) : Except SErr (ByteArray × Nat) := if (tk l i).1 = k then .ok ((tk l i).2.1, skT l i) else errT l i 7
/-- The number that a text of digits is. -/
def numT (s : ByteArray) : Int := match Lib.parseIntB 64 s.data.toList with | .ok v => v | _ => 0
def numberT (l : List Tok) (i : Nat) : Except SErr (Int × Nat) := do
  let (s, j) ← tokT l i 3
  return (numT s, j)
/-! ### The words and the signs that are asked for -/
abbrev wDEFINITIONS : ByteArray := ⟨#[68, 69, 70, 73, 78, 73, 84, 73, 79, 78, 83]⟩
abbrev wEXPLICIT : ByteArray := ⟨#[69, 88, 80, 76, 73, 67, 73, 84]⟩
abbrev wIMPLICIT : ByteArray := ⟨#[73, 77, 80, 76, 73, 67, 73, 84]⟩
abbrev wAUTOMATIC : ByteArray := ⟨#[65, 85, 84, 79, 77, 65, 84, 73, 67]⟩
abbrev wTAGS : ByteArray := ⟨#[84, 65, 71, 83]⟩
abbrev wBEGIN : ByteArray := ⟨#[66, 69, 71, 73, 78]⟩
abbrev wEND : ByteArray := ⟨#[69, 78, 68]⟩
abbrev wBOOLEAN : ByteArray := ⟨#[66, 79, 79, 76, 69, 65, 78]⟩
abbrev wINTEGER : ByteArray := ⟨#[73, 78, 84, 69, 71, 69, 82]⟩
abbrev wENUMERATED : ByteArray := ⟨#[69, 78, 85, 77, 69, 82, 65, 84, 69, 68]⟩
abbrev wNULL : ByteArray := ⟨#[78, 85, 76, 76]⟩
abbrev wOCTET : ByteArray := ⟨#[79, 67, 84, 69, 84]⟩
abbrev wSTRING : ByteArray := ⟨#[83, 84, 82, 73, 78, 71]⟩
abbrev wUTF8String : ByteArray := ⟨#[85, 84, 70, 56, 83, 116, 114, 105, 110, 103]⟩
abbrev wSEQUENCE : ByteArray := ⟨#[83, 69, 81, 85, 69, 78, 67, 69]⟩
abbrev wSET : ByteArray := ⟨#[83, 69, 84]⟩
abbrev wCHOICE : ByteArray := ⟨#[67, 72, 79, 73, 67, 69]⟩
abbrev wOF : ByteArray := ⟨#[79, 70]⟩
abbrev wOPTIONAL : ByteArray := ⟨#[79, 80, 84, 73, 79, 78, 65, 76]⟩
abbrev wDEFAULT : ByteArray := ⟨#[68, 69, 70, 65, 85, 76, 84]⟩
abbrev wSIZE : ByteArray := ⟨#[83, 73, 90, 69]⟩
abbrev wMIN : ByteArray := ⟨#[77, 73, 78]⟩
abbrev wMAX : ByteArray := ⟨#[77, 65, 88]⟩
abbrev wTRUE : ByteArray := ⟨#[84, 82, 85, 69]⟩
abbrev wFALSE : ByteArray := ⟨#[70, 65, 76, 83, 69]⟩
abbrev s_ass : ByteArray := ⟨#[58, 58, 61]⟩
abbrev s_dots : ByteArray := ⟨#[46, 46, 46]⟩
abbrev s_dd : ByteArray := ⟨#[46, 46]⟩
abbrev s_ll : ByteArray := ⟨#[91, 91]⟩
abbrev s_rr : ByteArray := ⟨#[93, 93]⟩
abbrev s_lb : ByteArray := ⟨#[123]⟩
abbrev s_rb : ByteArray := ⟨#[125]⟩
abbrev s_ls : ByteArray := ⟨#[91]⟩
abbrev s_rs : ByteArray := ⟨#[93]⟩
abbrev s_lp : ByteArray := ⟨#[40]⟩
abbrev s_rp : ByteArray := ⟨#[41]⟩
abbrev s_cm : ByteArray := ⟨#[44]⟩

def boundsT (l : List Tok) (i : Nat) : Except SErr (ConV × Nat) := do
  let (c, i) ← (if isT l i wMIN = true then pure (({ has := true } : ConV), i + 1) else do
    let (v, j) ← numberT l i
    pure ({ has := true, low := v, hasLow := true }, j))
  let (c, i) ← (if isT l i s_dd = true then
      (if isT l (i + 1) wMAX = true then pure (c, i + 2) else do
        let (v, j) ← numberT l (i + 1)
        pure ({ c with high := v, hasHigh := true }, j))
    else pure ({ c with high := c.low, hasHigh := c.hasLow }, i))
  if isT l i s_cm = true then do
    let j ← wantT l (i + 1) s_dots
    return ({ c with more := true }, j)
  else return (c, i)
def rangeT (l : List Tok) (i : Nat) : Except SErr (ConV × Nat) :=
  if isT l i s_lp = true then do
    let (c, j) ← boundsT l (i + 1)
    let j ← wantT l j s_rp
    return (c, j)
  else .ok ({}, i)
def sizeT (l : List Tok) (i : Nat) : Except SErr (ConV × Nat) :=
  if isT l i s_lp = true then do
    let j ← wantT l (i + 1) wSIZE
    let j ← wantT l j s_lp
    let (c, j) ← boundsT l j
    let j ← wantT l j s_rp
    let j ← wantT l j s_rp
    return (c, j)
  else .ok ({}, i)
def itemT (l : List Tok) (i : Nat) : Except SErr (ItemV × Nat) := do
  let (s, j) ← tokT l i 2
  if isT l j s_lp = true then do
    let (v, j) ← numberT l (j + 1)
    let j ← wantT l j s_rp
    return ({ name := s, number := v, has := true }, j)
  else return ({ name := s }, j)
/-- Items behind the first one: the node so far. -/
def itemsT (l : List Tok) : Nat → NodeV → Nat → Except SErr (NodeV × Nat)
  | 0, n, i => errT l i 0
  | f + 1, n, i =>
    if isT l i s_cm = true then
      if n.more = false ∧ isT l (i + 1) s_dots = true then itemsT l f { n with more := true } (i + 2)
      else do
        let (x, j) ← itemT l (i + 1)
        itemsT l f { n with items := n.items ++ [x], root := if n.more = true then n.root else n.root + 1 } j
    else .ok (n, i)
def nib (c : UInt8) : UInt8 := if 65 ≤ c.toNat then c - 65 + 10 else c - 48
def hexB : List UInt8 → List UInt8
  | a :: b :: r => (nib a <<< 4 ||| nib b) :: hexB r
  | _ => []
def valueT (l : List Tok) (i : Nat) : Except SErr (ValV × Nat) :=
  let t := tk l i
  if t.1 = 3 then .ok ({ kind := 2, n := numT t.2.1 }, i + 1)
  else if t.1 = 2 then .ok ({ kind := 3, b := t.2.1.data.toList }, i + 1)
  else if t.1 = 4 then .ok ({ kind := 5, b := hexB t.2.1.data.toList }, i + 1)
  else if t.1 = 7 then .ok ({ kind := 6, b := t.2.1.data.toList }, i + 1)
  else if isT l i wTRUE = true then .ok ({ kind := 1, n := 1 }, i + 1)
  else if isT l i wFALSE = true then .ok ({ kind := 1 }, i + 1)
  else if isT l i wNULL = true then .ok ({ kind := 4 }, i + 1)
  else errT l i 7
def beginsT (l : List Tok) (i : Nat) : Bool :=
  decide ((tk l i).1 = 1) || (decide ((tk l i).1 = 6) && (tk l i).2.1.data.toList == [91]) ||
  (decide ((tk l i).1 = 5) && [wBOOLEAN, wNULL, wUTF8String, wINTEGER, wOCTET, wENUMERATED, wSEQUENCE, wSET, wCHOICE].any fun w => (tk l i).2.1.data.toList == w.data.toList)
/-- A type within: its node's place. -/
abbrev NodeP := Nat → List NodeV → Except SErr (Nat × Nat × List NodeV)
def fieldT (l : List Tok) (nd : NodeP) (kind : Int) (group i : Nat) (ns : List NodeV) : Except SErr (FieldV × Nat × List NodeV) := do
  let (s, i) ← tokT l i 2
  let (k, i, ns) ← nd i ns
  let f : FieldV := { name := s, type := k, group := group }
  if kind = 9 then return (f, i, ns)
  else if isT l i wOPTIONAL = true then return ({ f with optional := true }, i + 1, ns)
  else if isT l i wDEFAULT = true then do
    let (v, i) ← valueT l (i + 1)
    return ({ f with has := true, dflt := v }, i, ns)
  else return (f, i, ns)
/-- The fields of the root: whether "..." follows. -/
def rootT (l : List Tok) (nd : NodeP) : Nat → NodeV → Nat → List NodeV → Except SErr ((NodeV × Bool) × Nat × List NodeV)
  | 0, n, i, ns => errT l i 0
  | f + 1, n, i, ns =>
    if isT l i s_dots = true then .ok ((n, true), i, ns)
    else do
      let (x, i, ns) ← fieldT l nd n.kind 0 i ns
      let n : NodeV := { n with fields := n.fields ++ [x] }
      if isT l i s_cm = true then rootT l nd f n (i + 1) ns else return ((n, false), i, ns)
def groupT (l : List Tok) (nd : NodeP) (g : Nat) : Nat → NodeV → Nat → List NodeV → Except SErr (NodeV × Nat × List NodeV)
  | 0, n, i, ns => errT l i 0
  | f + 1, n, i, ns => do
    let (x, i, ns) ← fieldT l nd n.kind g i ns
    let n : NodeV := { n with fields := n.fields ++ [x] }
    if isT l i s_cm = true then groupT l nd g f n (i + 1) ns
    else do
      let i ← wantT l i s_rr
      return (n, i, ns)
def addT (l : List Tok) (nd : NodeP) : Nat → Nat → NodeV → Nat → List NodeV → Except SErr (NodeV × Nat × List NodeV)
  | 0, g, n, i, ns => errT l i 0
  | f + 1, g, n, i, ns =>
    if isT l i s_cm = true then
      if isT l (i + 1) s_ll = true then do
        let (n, i, ns) ← groupT l nd (g + 1) (l.length + 1) n (i + 2) ns
        addT l nd f (g + 1) n i ns
      else do
        let (x, i, ns) ← fieldT l nd n.kind 0 (i + 1) ns
        addT l nd f g { n with fields := n.fields ++ [x] } i ns
    else .ok (n, i, ns)
def bracedT (l : List Tok) (nd : NodeP) (n : NodeV) (i : Nat) (ns : List NodeV) : Except SErr (NodeV × Nat × List NodeV) := do
  let i ← wantT l i s_lb
  if isT l i s_rb = true then return (n, i + 1, ns)
  else do
    let ((n, more), i, ns) ← rootT l nd (l.length + 1) n i ns
    let n : NodeV := { n with root := n.fields.length }
    let (n, i, ns) ← (if more = true then addT l nd (l.length + 1) 0 { n with more := true } (i + 1) ns else pure (n, i, ns))
    let i ← wantT l i s_rb
    return (n, i, ns)
def markT (l : List Tok) (n : NodeV) (i : Nat) : Except SErr (NodeV × Nat) :=
  if isT l i s_ls = true then do
    let (v, j) ← numberT l (i + 1)
    if v < 0 ∨ 268435456 < v then .error ((tk l (i + 1)).2.2, 12)
    else do
      let j ← wantT l j s_rs
      let n : NodeV := { n with mHas := true, mNum := v }
      if isT l j wEXPLICIT = true then return ({ n with mMode := 1 }, j + 1)
      else if isT l j wIMPLICIT = true then return ({ n with mMode := 2 }, j + 1)
      else return (n, j)
  else .ok (n, i)
def baseT (l : List Tok) (nd : NodeP) (n : NodeV) (i : Nat) (ns : List NodeV) : Except SErr (NodeV × Nat × List NodeV) :=
  if (tk l i).1 = 1 then .ok ({ n with kind := 11, name := (tk l i).2.1 }, i + 1, ns)
  else if isT l i wBOOLEAN = true then .ok ({ n with kind := 1 }, i + 1, ns)
  else if isT l i wNULL = true then .ok ({ n with kind := 4 }, i + 1, ns)
  else if isT l i wINTEGER = true then do
    let (c, j) ← rangeT l (i + 1)
    return ({ n with kind := 2, con := c }, j, ns)
  else if isT l i wUTF8String = true then do
    let (c, j) ← sizeT l (i + 1)
    return ({ n with kind := 6, con := c }, j, ns)
  else if isT l i wOCTET = true then do
    let j ← wantT l (i + 1) wSTRING
    let (c, j) ← sizeT l j
    return ({ n with kind := 5, con := c }, j, ns)
  else if isT l i wENUMERATED = true then do
    let j ← wantT l (i + 1) s_lb
    let (x, j) ← itemT l j
    let (n, j) ← itemsT l (l.length + 1) { n with kind := 3, items := [x], root := 1 } j
    let j ← wantT l j s_rb
    return (n, j, ns)
  else if isT l i wSEQUENCE = true then
    if isT l (i + 1) s_lb = true then bracedT l nd { n with kind := 7 } (i + 1) ns
    else do
      let (c, j) ← sizeT l (i + 1)
      let j ← wantT l j wOF
      let (k, j, ns) ← nd j ns
      return ({ n with kind := 10, con := c, of := k }, j, ns)
  else if isT l i wSET = true then bracedT l nd { n with kind := 8 } (i + 1) ns
  else if isT l i wCHOICE = true then bracedT l nd { n with kind := 9 } (i + 1) ns
  else errT l i 7
/-- A type, which may hold so many within each other, less one. -/
def nodeT (l : List Tok) : Nat → NodeP
  | 0 => fun i ns => if beginsT l i = true then errT l i 5 else errT l i 7
  | d + 1 => fun i ns =>
    if beginsT l i = false then errT l i 7
    else if ns.length = 300 then errT l i 5
    else do
      let (n, j) ← markT l {} i
      let (n, j, ms) ← baseT l (nodeT l d) n j (ns ++ [{}])
      return (ns.length, j, ms.set ns.length n)
def taggingT (l : List Tok) (i : Nat) : Except SErr (Int × Nat) :=
  if isT l i wEXPLICIT = true then do return (0, ← wantT l (i + 1) wTAGS)
  else if isT l i wIMPLICIT = true then do return (1, ← wantT l (i + 1) wTAGS)
  else if isT l i wAUTOMATIC = true then do return (2, ← wantT l (i + 1) wTAGS)
  else .ok (0, i)
def assignsT (l : List Tok) : Nat → ModV → Nat → Except SErr (ModV × Nat)
  | 0, m, i => errT l i 0
  | f + 1, m, i =>
    if (tk l i).1 = 1 then
      if m.names.length = 40 then errT l i 5
      else do
        let j ← wantT l (i + 1) s_ass
        let (k, j, ns) ← nodeT l 17 j m.nodes
        assignsT l f { m with names := m.names ++ [(tk l i).2.1], types := m.types ++ [k], nodes := ns } j
    else .ok (m, i)
def moduleT (l : List Tok) : Except SErr ModV := do
  let (name, i) ← tokT l 0 1
  let i ← wantT l i wDEFINITIONS
  let (t, i) ← taggingT l i
  let i ← wantT l i s_ass
  let i ← wantT l i wBEGIN
  let (m, i) ← assignsT l (l.length + 1) { name := name, tagging := t } i
  let i ← wantT l i wEND
  if (tk l i).1 = 0 then return m else errT l i 7
/-- What Parse answers. -/
def parseT (toks : Except SErr (List Tok)) : Except SErr ModV := match toks with | .error e => .error e | .ok l => moduleT l
end Go.Proofs.YtckcbgijddglpaaGreatDoor
