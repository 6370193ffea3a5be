/- SyntaxBounds, walked. -/
import Derived.Test.YtckcbgijddglpaaDoorSynM
import Derived.Test.YtckcbgijddglpaaDoorSynDig
namespace Go.Proofs.YtckcbgijddglpaaDoor
open Go.ChangeShapes Go.WideShapes Go.ChangeAt Go.RowKit Go.PlainAid
set_option linter.unusedVariables false
set_option linter.unusedSimpArgs false
set_option linter.unnecessarySimpa false
/-- What is known of the modules that bounds make. -/
theorem bounds_any {w : World} (hL : LexW w) (a b : Int) (h0 : -9223372036854775808 ≤ a) (h1 : a ≤ 9223372036854775807) (h2 : -9223372036854775808 ≤ b) (h3 : b ≤ 9223372036854775807) (k form : Nat) (more : Bool) (hk : k < 3) (hf : form < 5) : ∃ (md : ModV), (∀ w1, Keeps w w1 → Calls Tryd.prog 8 #[.string (modB (bndB k (tB form (numB a) (numB b) more)))] w1 (GivesM md 0 0 w1)) ∧ ∃ kd o r, md.nodes = { kind := kd, con := conV form a b more, of := o } :: r ∧ r.length = (if k = 2 then 1 else 0) := by
  have hs1 := tB_size (num_pc a h0 h1) (num_pc b h2 h3) form more
  have hs2 := bndB_size k (tB form (numB a) (numB b) more)
  have hp := fun (w1 : World) (hk : Keeps w w1) => parseM_any (hL.keeps hk) (modB (bndB k (tB form (numB a) (numB b) more))) (by rw [modB_size]; omega)
  rw [bounds_parse a b h0 h1 h2 h3 k form more hk hf] at hp
  refine ⟨boundsM k (conV form a b more), fun w1 hk => (hp w1 hk).mono fun e w' h => givesM_ok h, ?_⟩
  match k, hk with
  | 0, _ => exact ⟨2, 0, [], rfl, rfl⟩
  | 1, _ => exact ⟨5, 0, [], rfl, rfl⟩
  | 2, _ => exact ⟨10, 1, [{ kind := 4 }], rfl, rfl⟩
/-- The constraint of a module's first node, where a variable holds the module. -/
def ConAt (w : World) (V n : Nat) (hl hh mo : Bool) (lo hi : Int) : Prop :=
  ∃ R d, V < w.heap.size ∧ R < w.heap.size ∧ w.cell? ⟨V, 4, none⟩ = some (.slice (some ⟨R, 0, none⟩) n d) ∧ w.cell? ⟨R, 5, none⟩ = some (.bool true) ∧ w.cell? ⟨R, 6, none⟩ = some (.bool hl) ∧ w.cell? ⟨R, 7, none⟩ = some (.bool hh) ∧ w.cell? ⟨R, 8, none⟩ = some (.bool mo) ∧ w.cell? ⟨R, 9, none⟩ = some (.int .i64 lo) ∧ w.cell? ⟨R, 10, none⟩ = some (.int .i64 hi)
theorem ModAt.con {w0 w : World} {V n : Nat} {md : ModV} (h : ModAt w0 w V md) {k : Int} {o : Nat} {c : ConV} {r : List NodeV} (hn : md.nodes = { kind := k, con := c, of := o } :: r) (hr : r.length + 1 = n) (hc : c.has = true) : ConAt w V n c.hasLow c.hasHigh c.more c.low c.high := by
  obtain ⟨B2, d2, B3, d3, R, d, vi, vf, hb, hR, hx⟩ := h.node (k := 0) (n := { kind := k, con := c, of := o }) (by rw [hn]; rfl)
  have hl : md.nodes.length = n := by rw [hn, ← hr]; rfl
  rw [hl] at hb
  refine ⟨R, d, hb.lt, hR, hb.cell 4, hx 5 _ (by decide) ?_, hx 6 _ (by decide) rfl, hx 7 _ (by decide) rfl, hx 8 _ (by decide) rfl, hx 9 _ (by decide) rfl, hx 10 _ (by decide) rfl⟩
  show some (Value.bool c.has) = _
  rw [hc]
/-- What follows a piece of a walk, said once for all ways through it. -/
theorem cut_wp {T : Prop} {P : Program} {c : Code} {Q : Exit → Act → World → Prop} {F : Act → World → Prop} (h1 : (∀ a w, F a w → c.wp P Q a w) → T) (h2 : ∀ a w, F a w → c.wp P Q a w) : T := h1 h2
set_option maxRecDepth 100000 in
set_option maxHeartbeats 16000000 in
theorem bounds_last {w v3 : World} {K0 : Act → World → Prop} {Q0 : Exit → Act → World → Prop} {x0 x1 x2 x3 x4 x5 x6 x7 x8 x9 x12 x15 x18 x20 x21 x22 x23 x24 x25 x26 x27 x28 x29 x30 x31 x32 x33 x34 x35 x36 x37 x38 x39 x40 x41 x42 x43 x44 x45 x46 x47 x48 x49 x50 x51 x52 x53 x54 x55 x56 x57 x58 x59 x60 x61 x62 x63 x64 x65 x66 x67 x68 x69 x70 x71 x72 x73 x74 x75 x76 x77 x78 x79 x80 x81 x82 x83 x84 x85 x86 x87 x88 x89 x90 x91 x92 x93 x94 x95 x96 x97 x98 x99 x100 x101 x102 x103 x104 x105 x106 x107 x108 x109 x110 x111 x112 x113 x114 x115 x116 x117 x118 x119 x120 x121 x122 x123 x124 x125 x126 x127 x128 x129 x130 x131 x132 x133 x134 x135 x136 x137 x138 x139 x140 x141 x142 x143 x144 x145 x146 x147 x148 x149 x150 x151 : Value} {Vc V0 V1 V2 : Nat} {hl hh mo : Bool} {lo hi : Int} (hA : ∀ w1, Keeps w w1 → Calls Tryd.prog 10 #[] w1 fun e w' => e = .returned (.bool true) ∧ Keeps w1 w') (hkv : Keeps w v3) (hcc : Blk v3 Vc 26 #[.bool true, .bool hl, .bool hh, .bool mo, .int .i64 lo, .int .i64 hi]) (hz0 : ConAt v3 V0 1 hl hh mo lo hi) (hz1 : ConAt v3 V1 1 hl hh mo lo hi) (hz2 : ConAt v3 V2 2 hl hh mo lo hi)
    (hQ : ∀ c (d : Act) (t : Tmp) (u : Value) (v : World), Q0 (.panic c) (d.put (some t) u) v → Q0 (.panic c) d v) (hK : ∀ (y94 y95 y96 y97 y98 y99 y100 y101 y102 y103 y104 y105 y106 y107 y108 y109 y110 y111 y112 y113 y114 y115 y116 y117 y118 y119 y120 y121 y122 y123 y124 y125 y126 y127 y128 y129 y130 y131 y132 y133 y134 y135 y136 y137 y138 y139 y140 y141 y142 y143 y144 y145 y146 y147 y148 y149 y150 y151 : Value) (z : World), Keeps w z → Exit.then K0 Q0 .normal { tmps := #[x0, x1, x2, x3, x4, x5, x6, x7, .bool true, x9, .pointer (some ⟨Vc, 0, none⟩), .pointer (some ⟨V0, 0, none⟩), x12, .int .i64 0, .pointer (some ⟨V1, 0, none⟩), x15, .int .i64 0, .pointer (some ⟨V2, 0, none⟩), x18, .int .i64 0, x20, x21, x22, x23, x24, x25, x26, x27, x28, x29, x30, x31, x32, x33, x34, x35, x36, x37, x38, x39, x40, x41, x42, x43, x44, x45, x46, x47, x48, x49, x50, x51, x52, x53, x54, x55, x56, x57, x58, x59, x60, x61, x62, x63, x64, x65, x66, x67, x68, x69, x70, x71, x72, x73, x74, x75, x76, x77, x78, x79, x80, x81, x82, x83, x84, x85, x86, x87, x88, x89, x90, x91, x92, x93, y94, y95, y96, y97, y98, y99, y100, y101, y102, y103, y104, y105, y106, y107, y108, y109, y110, y111, y112, y113, y114, y115, y116, y117, y118, y119, y120, y121, y122, y123, y124, y125, y126, y127, y128, y129, y130, y131, y132, y133, y134, y135, y136, y137, y138, y139, y140, y141, y142, y143, y144, y145, y146, y147, y148, y149, y150, y151], defers := [] } z) :
    (Code.region 15 #[{ dst := some 94, op := Op.call { callee := Callee.value (Operand.func 10), args := #[], argTypes := #[] }, type := 4, pos := "more.go:34", after := #[], guard := none }, { dst := some 95, op := Op.move (Operand.tmp 94), type := 4, pos := "more.go:34", after := #[{ on := 0, ground := Ground.data }, { on := 0, ground := Ground.chain }], guard := none }, { dst := some 96, op := Op.move (Operand.tmp 13), type := 31, pos := "more.go:34", after := #[{ on := 1, ground := Ground.guard }], guard := some (1, true) }, { dst := some 97, op := Op.binOp BinOp.eql 31 (Operand.tmp 96) (Operand.const (Value.int IntKind.i64 0)) 31, type := 4, pos := "more.go:34", after := #[{ on := 2, ground := Ground.data }, { on := 1, ground := Ground.guard }], guard := some (1, true) }, { dst := some 98, op := Op.pick (Operand.tmp 95) (Operand.tmp 97) (Operand.const (Value.bool false)), type := 4, pos := "more.go:34", after := #[{ on := 1, ground := Ground.data }, { on := 3, ground := Ground.data }], guard := none }, { dst := some 99, op := Op.move (Operand.tmp 98), type := 4, pos := "more.go:34", after := #[{ on := 4, ground := Ground.data }, { on := 1, ground := Ground.chain }], guard := none }, { dst := some 100, op := Op.move (Operand.tmp 16), type := 31, pos := "more.go:34", after := #[{ on := 5, ground := Ground.guard }], guard := some (5, true) }, { dst := some 101, op := Op.binOp BinOp.eql 31 (Operand.tmp 100) (Operand.const (Value.int IntKind.i64 0)) 31, type := 4, pos := "more.go:34", after := #[{ on := 6, ground := Ground.data }, { on := 5, ground := Ground.guard }], guard := some (5, true) }, { dst := some 102, op := Op.pick (Operand.tmp 99) (Operand.tmp 101) (Operand.const (Value.bool false)), type := 4, pos := "more.go:34", after := #[{ on := 5, ground := Ground.data }, { on := 7, ground := Ground.data }], guard := none }, { dst := some 103, op := Op.move (Operand.tmp 102), type := 4, pos := "more.go:34", after := #[{ on := 8, ground := Ground.data }, { on := 5, ground := Ground.chain }], guard := none }, { dst := some 104, op := Op.move (Operand.tmp 19), type := 31, pos := "more.go:34", after := #[{ on := 9, ground := Ground.guard }], guard := some (9, true) }, { dst := some 105, op := Op.binOp BinOp.eql 31 (Operand.tmp 104) (Operand.const (Value.int IntKind.i64 0)) 31, type := 4, pos := "more.go:34", after := #[{ on := 10, ground := Ground.data }, { on := 9, ground := Ground.guard }], guard := some (9, true) }, { dst := some 106, op := Op.pick (Operand.tmp 103) (Operand.tmp 105) (Operand.const (Value.bool false)), type := 4, pos := "more.go:34", after := #[{ on := 9, ground := Ground.data }, { on := 11, ground := Ground.data }], guard := none }, { dst := some 107, op := Op.move (Operand.tmp 106), type := 4, pos := "more.go:34", after := #[{ on := 12, ground := Ground.data }, { on := 9, ground := Ground.chain }], guard := none }, { dst := some 108, op := Op.fieldAddr 30 (Operand.tmp 11) 4, type := 0, pos := "more.go:34", after := #[{ on := 13, ground := Ground.guard }], guard := some (13, true) }, { dst := some 109, op := Op.load 28 (Operand.tmp 108), type := 28, pos := "more.go:34", after := #[{ on := 14, ground := Ground.data }, { on := 13, ground := Ground.guard }], guard := some (13, true) }, { dst := some 110, op := Op.call { callee := Callee.builtin Builtin.len, args := #[Operand.tmp 109], argTypes := #[28] }, type := 3, pos := "more.go:34", after := #[{ on := 15, ground := Ground.data }, { on := 13, ground := Ground.guard }], guard := some (13, true) }, { dst := some 111, op := Op.binOp BinOp.eql 3 (Operand.tmp 110) (Operand.const (Value.int IntKind.i64 1)) 3, type := 4, pos := "more.go:34", after := #[{ on := 16, ground := Ground.data }, { on := 13, ground := Ground.guard }], guard := some (13, true) }, { dst := some 112, op := Op.pick (Operand.tmp 107) (Operand.tmp 111) (Operand.const (Value.bool false)), type := 4, pos := "more.go:34", after := #[{ on := 13, ground := Ground.data }, { on := 17, ground := Ground.data }], guard := none }, { dst := some 113, op := Op.move (Operand.tmp 112), type := 4, pos := "more.go:34", after := #[{ on := 18, ground := Ground.data }, { on := 13, ground := Ground.chain }], guard := none }, { dst := some 114, op := Op.fieldAddr 30 (Operand.tmp 11) 4, type := 0, pos := "more.go:34", after := #[{ on := 19, ground := Ground.guard }], guard := some (19, true) }, { dst := some 115, op := Op.load 28 (Operand.tmp 114), type := 28, pos := "more.go:34", after := #[{ on := 20, ground := Ground.data }, { on := 19, ground := Ground.guard }], guard := some (19, true) }, { dst := some 116, op := Op.indexAddr 28 (Operand.tmp 115) (Operand.const (Value.int IntKind.i64 0)), type := 0, pos := "more.go:34", after := #[{ on := 21, ground := Ground.data }, { on := 19, ground := Ground.guard }], guard := some (19, true) }, { dst := some 117, op := Op.fieldAddr 41 (Operand.tmp 116) 3, type := 0, pos := "more.go:34", after := #[{ on := 22, ground := Ground.data }, { on := 19, ground := Ground.guard }], guard := some (19, true) }, { dst := some 118, op := Op.load 26 (Operand.tmp 117), type := 26, pos := "more.go:34", after := #[{ on := 23, ground := Ground.data }, { on := 19, ground := Ground.guard }], guard := some (19, true) }, { dst := some 119, op := Op.load 26 (Operand.tmp 10), type := 26, pos := "more.go:34", after := #[{ on := 19, ground := Ground.guard }], guard := some (19, true) }, { dst := some 120, op := Op.binOp BinOp.eql 26 (Operand.tmp 118) (Operand.tmp 119) 26, type := 4, pos := "more.go:34", after := #[{ on := 24, ground := Ground.data }, { on := 25, ground := Ground.data }, { on := 19, ground := Ground.guard }], guard := some (19, true) }, { dst := some 121, op := Op.pick (Operand.tmp 113) (Operand.tmp 120) (Operand.const (Value.bool false)), type := 4, pos := "more.go:34", after := #[{ on := 19, ground := Ground.data }, { on := 26, ground := Ground.data }], guard := none }, { dst := some 122, op := Op.move (Operand.tmp 121), type := 4, pos := "more.go:34", after := #[{ on := 27, ground := Ground.data }, { on := 19, ground := Ground.chain }], guard := none }, { dst := some 123, op := Op.fieldAddr 30 (Operand.tmp 14) 4, type := 0, pos := "more.go:34", after := #[{ on := 28, ground := Ground.guard }], guard := some (28, true) }, { dst := some 124, op := Op.load 28 (Operand.tmp 123), type := 28, pos := "more.go:34", after := #[{ on := 29, ground := Ground.data }, { on := 28, ground := Ground.guard }], guard := some (28, true) }, { dst := some 125, op := Op.call { callee := Callee.builtin Builtin.len, args := #[Operand.tmp 124], argTypes := #[28] }, type := 3, pos := "more.go:34", after := #[{ on := 30, ground := Ground.data }, { on := 28, ground := Ground.guard }], guard := some (28, true) }, { dst := some 126, op := Op.binOp BinOp.eql 3 (Operand.tmp 125) (Operand.const (Value.int IntKind.i64 1)) 3, type := 4, pos := "more.go:34", after := #[{ on := 31, ground := Ground.data }, { on := 28, ground := Ground.guard }], guard := some (28, true) }, { dst := some 127, op := Op.pick (Operand.tmp 122) (Operand.tmp 126) (Operand.const (Value.bool false)), type := 4, pos := "more.go:34", after := #[{ on := 28, ground := Ground.data }, { on := 32, ground := Ground.data }], guard := none }, { dst := some 128, op := Op.move (Operand.tmp 127), type := 4, pos := "more.go:34", after := #[{ on := 33, ground := Ground.data }, { on := 28, ground := Ground.chain }], guard := none }, { dst := some 129, op := Op.fieldAddr 30 (Operand.tmp 14) 4, type := 0, pos := "more.go:34", after := #[{ on := 34, ground := Ground.guard }], guard := some (34, true) }, { dst := some 130, op := Op.load 28 (Operand.tmp 129), type := 28, pos := "more.go:34", after := #[{ on := 35, ground := Ground.data }, { on := 34, ground := Ground.guard }], guard := some (34, true) }, { dst := some 131, op := Op.indexAddr 28 (Operand.tmp 130) (Operand.const (Value.int IntKind.i64 0)), type := 0, pos := "more.go:34", after := #[{ on := 36, ground := Ground.data }, { on := 34, ground := Ground.guard }], guard := some (34, true) }, { dst := some 132, op := Op.fieldAddr 41 (Operand.tmp 131) 3, type := 0, pos := "more.go:34", after := #[{ on := 37, ground := Ground.data }, { on := 34, ground := Ground.guard }], guard := some (34, true) }, { dst := some 133, op := Op.load 26 (Operand.tmp 132), type := 26, pos := "more.go:34", after := #[{ on := 38, ground := Ground.data }, { on := 34, ground := Ground.guard }], guard := some (34, true) }, { dst := some 134, op := Op.load 26 (Operand.tmp 10), type := 26, pos := "more.go:34", after := #[{ on := 34, ground := Ground.guard }], guard := some (34, true) }, { dst := some 135, op := Op.binOp BinOp.eql 26 (Operand.tmp 133) (Operand.tmp 134) 26, type := 4, pos := "more.go:34", after := #[{ on := 39, ground := Ground.data }, { on := 40, ground := Ground.data }, { on := 34, ground := Ground.guard }], guard := some (34, true) }, { dst := some 136, op := Op.pick (Operand.tmp 128) (Operand.tmp 135) (Operand.const (Value.bool false)), type := 4, pos := "more.go:34", after := #[{ on := 34, ground := Ground.data }, { on := 41, ground := Ground.data }], guard := none }, { dst := some 137, op := Op.move (Operand.tmp 136), type := 4, pos := "more.go:34", after := #[{ on := 42, ground := Ground.data }, { on := 34, ground := Ground.chain }], guard := none }, { dst := some 138, op := Op.fieldAddr 30 (Operand.tmp 17) 4, type := 0, pos := "more.go:34", after := #[{ on := 43, ground := Ground.guard }], guard := some (43, true) }, { dst := some 139, op := Op.load 28 (Operand.tmp 138), type := 28, pos := "more.go:34", after := #[{ on := 44, ground := Ground.data }, { on := 43, ground := Ground.guard }], guard := some (43, true) }, { dst := some 140, op := Op.call { callee := Callee.builtin Builtin.len, args := #[Operand.tmp 139], argTypes := #[28] }, type := 3, pos := "more.go:34", after := #[{ on := 45, ground := Ground.data }, { on := 43, ground := Ground.guard }], guard := some (43, true) }, { dst := some 141, op := Op.binOp BinOp.eql 3 (Operand.tmp 140) (Operand.const (Value.int IntKind.i64 2)) 3, type := 4, pos := "more.go:34", after := #[{ on := 46, ground := Ground.data }, { on := 43, ground := Ground.guard }], guard := some (43, true) }, { dst := some 142, op := Op.pick (Operand.tmp 137) (Operand.tmp 141) (Operand.const (Value.bool false)), type := 4, pos := "more.go:34", after := #[{ on := 43, ground := Ground.data }, { on := 47, ground := Ground.data }], guard := none }, { dst := some 143, op := Op.move (Operand.tmp 142), type := 4, pos := "more.go:34", after := #[{ on := 48, ground := Ground.data }, { on := 43, ground := Ground.chain }], guard := none }, { dst := some 144, op := Op.fieldAddr 30 (Operand.tmp 17) 4, type := 0, pos := "more.go:34", after := #[{ on := 49, ground := Ground.guard }], guard := some (49, true) }, { dst := some 145, op := Op.load 28 (Operand.tmp 144), type := 28, pos := "more.go:34", after := #[{ on := 50, ground := Ground.data }, { on := 49, ground := Ground.guard }], guard := some (49, true) }, { dst := some 146, op := Op.indexAddr 28 (Operand.tmp 145) (Operand.const (Value.int IntKind.i64 0)), type := 0, pos := "more.go:34", after := #[{ on := 51, ground := Ground.data }, { on := 49, ground := Ground.guard }], guard := some (49, true) }, { dst := some 147, op := Op.fieldAddr 41 (Operand.tmp 146) 3, type := 0, pos := "more.go:34", after := #[{ on := 52, ground := Ground.data }, { on := 49, ground := Ground.guard }], guard := some (49, true) }, { dst := some 148, op := Op.load 26 (Operand.tmp 147), type := 26, pos := "more.go:34", after := #[{ on := 53, ground := Ground.data }, { on := 49, ground := Ground.guard }], guard := some (49, true) }, { dst := some 149, op := Op.load 26 (Operand.tmp 10), type := 26, pos := "more.go:34", after := #[{ on := 49, ground := Ground.guard }], guard := some (49, true) }, { dst := some 150, op := Op.binOp BinOp.eql 26 (Operand.tmp 148) (Operand.tmp 149) 26, type := 4, pos := "more.go:34", after := #[{ on := 54, ground := Ground.data }, { on := 55, ground := Ground.data }, { on := 49, ground := Ground.guard }], guard := some (49, true) }, { dst := some 151, op := Op.pick (Operand.tmp 143) (Operand.tmp 150) (Operand.const (Value.bool false)), type := 4, pos := "more.go:34", after := #[{ on := 49, ground := Ground.data }, { on := 56, ground := Ground.data }], guard := none }, { dst := some 8, op := Op.assign (Operand.tmp 151), type := 4, pos := "more.go:34", after := #[{ on := 57, ground := Ground.data }, { on := 49, ground := Ground.chain }, { on := 0, ground := Ground.phase }, { on := 1, ground := Ground.phase }, { on := 2, ground := Ground.phase }, { on := 3, ground := Ground.phase }, { on := 4, ground := Ground.phase }, { on := 5, ground := Ground.phase }, { on := 6, ground := Ground.phase }, { on := 7, ground := Ground.phase }, { on := 8, ground := Ground.phase }, { on := 9, ground := Ground.phase }, { on := 10, ground := Ground.phase }, { on := 11, ground := Ground.phase }, { on := 12, ground := Ground.phase }, { on := 13, ground := Ground.phase }, { on := 14, ground := Ground.phase }, { on := 15, ground := Ground.phase }, { on := 16, ground := Ground.phase }, { on := 17, ground := Ground.phase }, { on := 18, ground := Ground.phase }, { on := 19, ground := Ground.phase }, { on := 20, ground := Ground.phase }, { on := 21, ground := Ground.phase }, { on := 22, ground := Ground.phase }, { on := 23, ground := Ground.phase }, { on := 24, ground := Ground.phase }, { on := 25, ground := Ground.phase }, { on := 26, ground := Ground.phase }, { on := 27, ground := Ground.phase }, { on := 28, ground := Ground.phase }, { on := 29, ground := Ground.phase }, { on := 30, ground := Ground.phase }, { on := 31, ground := Ground.phase }, { on := 32, ground := Ground.phase }, { on := 33, ground := Ground.phase }, { on := 34, ground := Ground.phase }, { on := 35, ground := Ground.phase }, { on := 36, ground := Ground.phase }, { on := 37, ground := Ground.phase }, { on := 38, ground := Ground.phase }, { on := 39, ground := Ground.phase }, { on := 40, ground := Ground.phase }, { on := 41, ground := Ground.phase }, { on := 42, ground := Ground.phase }, { on := 43, ground := Ground.phase }, { on := 44, ground := Ground.phase }, { on := 45, ground := Ground.phase }, { on := 46, ground := Ground.phase }, { on := 47, ground := Ground.phase }, { on := 48, ground := Ground.phase }, { on := 49, ground := Ground.phase }, { on := 50, ground := Ground.phase }, { on := 51, ground := Ground.phase }, { on := 52, ground := Ground.phase }, { on := 53, ground := Ground.phase }, { on := 54, ground := Ground.phase }, { on := 55, ground := Ground.phase }, { on := 56, ground := Ground.phase }, { on := 57, ground := Ground.phase }], guard := none }] true).wp Tryd.prog (Exit.then K0 Q0) { tmps := #[x0, x1, x2, x3, x4, x5, x6, x7, x8, x9, .pointer (some ⟨Vc, 0, none⟩), .pointer (some ⟨V0, 0, none⟩), x12, .int .i64 0, .pointer (some ⟨V1, 0, none⟩), x15, .int .i64 0, .pointer (some ⟨V2, 0, none⟩), x18, .int .i64 0, x20, x21, x22, x23, x24, x25, x26, x27, x28, x29, x30, x31, x32, x33, x34, x35, x36, x37, x38, x39, x40, x41, x42, x43, x44, x45, x46, x47, x48, x49, x50, x51, x52, x53, x54, x55, x56, x57, x58, x59, x60, x61, x62, x63, x64, x65, x66, x67, x68, x69, x70, x71, x72, x73, x74, x75, x76, x77, x78, x79, x80, x81, x82, x83, x84, x85, x86, x87, x88, x89, x90, x91, x92, x93, x94, x95, x96, x97, x98, x99, x100, x101, x102, x103, x104, x105, x106, x107, x108, x109, x110, x111, x112, x113, x114, x115, x116, x117, x118, x119, x120, x121, x122, x123, x124, x125, x126, x127, x128, x129, x130, x131, x132, x133, x134, x135, x136, x137, x138, x139, x140, x141, x142, x143, x144, x145, x146, x147, x148, x149, x150, x151], defers := [] } v3 := by
  have HA := hide hA
  have HKv3 := hide hkv
  have HKF := hide hK
  clear hK hA
  have hVc := hide hcc.lt
  have HCC0 := hide (show v3.cell? ⟨Vc, 0, none⟩ = some (.bool true) from hcc.cell 0)
  have HCC1 := hide (show v3.cell? ⟨Vc, 1, none⟩ = some (.bool hl) from hcc.cell 1)
  have HCC2 := hide (show v3.cell? ⟨Vc, 2, none⟩ = some (.bool hh) from hcc.cell 2)
  have HCC3 := hide (show v3.cell? ⟨Vc, 3, none⟩ = some (.bool mo) from hcc.cell 3)
  have HCC4 := hide (show v3.cell? ⟨Vc, 4, none⟩ = some (.int .i64 lo) from hcc.cell 4)
  have HCC5 := hide (show v3.cell? ⟨Vc, 5, none⟩ = some (.int .i64 hi) from hcc.cell 5)
  obtain ⟨R0, d0, hv, hr, hm, g0, g1, g2, g3, g4, g5⟩ := hz0
  have hV0 := hide hv
  have HR0 := hide hr
  have HMC0 := hide hm
  have HRC00 := hide g0
  have HRC01 := hide g1
  have HRC02 := hide g2
  have HRC03 := hide g3
  have HRC04 := hide g4
  have HRC05 := hide g5
  clear hv hr hm g0 g1 g2 g3 g4 g5
  obtain ⟨R1, d1, hv, hr, hm, g0, g1, g2, g3, g4, g5⟩ := hz1
  have hV1 := hide hv
  have HR1 := hide hr
  have HMC1 := hide hm
  have HRC10 := hide g0
  have HRC11 := hide g1
  have HRC12 := hide g2
  have HRC13 := hide g3
  have HRC14 := hide g4
  have HRC15 := hide g5
  clear hv hr hm g0 g1 g2 g3 g4 g5
  obtain ⟨R2, d2, hv, hr, hm, g0, g1, g2, g3, g4, g5⟩ := hz2
  have hV2 := hide hv
  have HR2 := hide hr
  have HMC2 := hide hm
  have HRC20 := hide g0
  have HRC21 := hide g1
  have HRC22 := hide g2
  have HRC23 := hide g3
  have HRC24 := hide g4
  have HRC25 := hide g5
  clear hv hr hm g0 g1 g2 g3 g4 g5
  clear hkv hcc
  refine wp_region_held_drew (S := fun w' => ∀ b o, b < v3.heap.size → w'.cell? ⟨b, o, none⟩ = v3.cell? ⟨b, o, none⟩) (by kernel_rfl) (fun _ _ _ => rfl) (fun hHeld => ?_)
  refine wpAnyH_ready (rs := [0]) (by kernel_rfl) (by simp) ?_
  refine AllReadyH.cons (o := { dst := some 94, op := Op.call { callee := Callee.value (Operand.func 10), args := #[], argTypes := #[] }, type := 4, pos := "more.go:34", after := #[], guard := none }) rfl (fun K hK => ?_) AllReadyH.nil
  go_simp
  go_at_call 10
  refine (unhide HA _ (drew_keeps (unhide HKv3))).mono ?_
  rintro e z ⟨rfl, hk⟩
  have HKz := hide ((drew_keeps (unhide HKv3)).trans hk)
  have hSz : ∀ b o, b < v3.heap.size → z.cell? ⟨b, o, none⟩ = v3.cell? ⟨b, o, none⟩ := hk.cells.1
  clear hk
  go_wp2_with fail
  refine hK.out _ _ hSz (fun hHeld => ?_)
  clear hK K hSz
  try simp only [Act.put, List.setIfInBounds_toArray, List.set_cons_zero, List.set_cons_succ]
  refine wpAnyH_take (i := 1) (oi := { dst := some 95, op := Op.move (Operand.tmp 94), type := _, pos := _, after := _, guard := _ }) (v := ?_) rfl (by kernel_rfl) (by kernel_rfl) (by kernel_rfl) (fun c d v h => hQ c d _ _ v h) (Or.inl ⟨by rfl, ?_⟩) (by assumption) ?_
  rotate_left
  · intro w hSw
    go_simp
    try with_reducible rfl
  try simp only [Act.put, List.setIfInBounds_toArray, List.set_cons_zero, List.set_cons_succ]
  refine wpAnyH_take (i := 2) (oi := { dst := some 96, op := Op.move (Operand.tmp 13), type := _, pos := _, after := _, guard := _ }) (v := ?_) rfl (by kernel_rfl) (by kernel_rfl) (by kernel_rfl) (fun c d v h => hQ c d _ _ v h) (Or.inl ⟨by rfl, ?_⟩) (by assumption) ?_
  rotate_left
  · intro w hSw
    go_simp
    try with_reducible rfl
  try simp only [Act.put, List.setIfInBounds_toArray, List.set_cons_zero, List.set_cons_succ]
  refine wpAnyH_take (i := 3) (oi := { dst := some 97, op := Op.binOp BinOp.eql 31 (Operand.tmp 96) (Operand.const (Value.int IntKind.i64 0)) 31, type := _, pos := _, after := _, guard := _ }) (v := ?_) rfl (by kernel_rfl) (by kernel_rfl) (by kernel_rfl) (fun c d v h => hQ c d _ _ v h) (Or.inl ⟨by rfl, ?_⟩) (by assumption) ?_
  rotate_left
  · intro w hSw
    go_simp
    try with_reducible rfl
  try simp only [Act.put, List.setIfInBounds_toArray, List.set_cons_zero, List.set_cons_succ]
  refine wpAnyH_take (i := 4) (oi := { dst := some 98, op := Op.pick (Operand.tmp 95) (Operand.tmp 97) (Operand.const (Value.bool false)), type := _, pos := _, after := _, guard := _ }) (v := ?_) rfl (by kernel_rfl) (by kernel_rfl) (by kernel_rfl) (fun c d v h => hQ c d _ _ v h) (Or.inl ⟨by rfl, ?_⟩) (by assumption) ?_
  rotate_left
  · intro w hSw
    go_simp
    try with_reducible rfl
  try simp only [Act.put, List.setIfInBounds_toArray, List.set_cons_zero, List.set_cons_succ]
  refine wpAnyH_take (i := 5) (oi := { dst := some 99, op := Op.move (Operand.tmp 98), type := _, pos := _, after := _, guard := _ }) (v := ?_) rfl (by kernel_rfl) (by kernel_rfl) (by kernel_rfl) (fun c d v h => hQ c d _ _ v h) (Or.inl ⟨by rfl, ?_⟩) (by assumption) ?_
  rotate_left
  · intro w hSw
    go_simp
    try with_reducible rfl
  try simp only [Act.put, List.setIfInBounds_toArray, List.set_cons_zero, List.set_cons_succ]
  refine wpAnyH_take (i := 6) (oi := { dst := some 100, op := Op.move (Operand.tmp 16), type := _, pos := _, after := _, guard := _ }) (v := ?_) rfl (by kernel_rfl) (by kernel_rfl) (by kernel_rfl) (fun c d v h => hQ c d _ _ v h) (Or.inl ⟨by rfl, ?_⟩) (by assumption) ?_
  rotate_left
  · intro w hSw
    go_simp
    try with_reducible rfl
  try simp only [Act.put, List.setIfInBounds_toArray, List.set_cons_zero, List.set_cons_succ]
  refine wpAnyH_take (i := 7) (oi := { dst := some 101, op := Op.binOp BinOp.eql 31 (Operand.tmp 100) (Operand.const (Value.int IntKind.i64 0)) 31, type := _, pos := _, after := _, guard := _ }) (v := ?_) rfl (by kernel_rfl) (by kernel_rfl) (by kernel_rfl) (fun c d v h => hQ c d _ _ v h) (Or.inl ⟨by rfl, ?_⟩) (by assumption) ?_
  rotate_left
  · intro w hSw
    go_simp
    try with_reducible rfl
  try simp only [Act.put, List.setIfInBounds_toArray, List.set_cons_zero, List.set_cons_succ]
  refine wpAnyH_take (i := 8) (oi := { dst := some 102, op := Op.pick (Operand.tmp 99) (Operand.tmp 101) (Operand.const (Value.bool false)), type := _, pos := _, after := _, guard := _ }) (v := ?_) rfl (by kernel_rfl) (by kernel_rfl) (by kernel_rfl) (fun c d v h => hQ c d _ _ v h) (Or.inl ⟨by rfl, ?_⟩) (by assumption) ?_
  rotate_left
  · intro w hSw
    go_simp
    try with_reducible rfl
  try simp only [Act.put, List.setIfInBounds_toArray, List.set_cons_zero, List.set_cons_succ]
  refine wpAnyH_take (i := 9) (oi := { dst := some 103, op := Op.move (Operand.tmp 102), type := _, pos := _, after := _, guard := _ }) (v := ?_) rfl (by kernel_rfl) (by kernel_rfl) (by kernel_rfl) (fun c d v h => hQ c d _ _ v h) (Or.inl ⟨by rfl, ?_⟩) (by assumption) ?_
  rotate_left
  · intro w hSw
    go_simp
    try with_reducible rfl
  try simp only [Act.put, List.setIfInBounds_toArray, List.set_cons_zero, List.set_cons_succ]
  refine wpAnyH_take (i := 10) (oi := { dst := some 104, op := Op.move (Operand.tmp 19), type := _, pos := _, after := _, guard := _ }) (v := ?_) rfl (by kernel_rfl) (by kernel_rfl) (by kernel_rfl) (fun c d v h => hQ c d _ _ v h) (Or.inl ⟨by rfl, ?_⟩) (by assumption) ?_
  rotate_left
  · intro w hSw
    go_simp
    try with_reducible rfl
  try simp only [Act.put, List.setIfInBounds_toArray, List.set_cons_zero, List.set_cons_succ]
  refine wpAnyH_take (i := 11) (oi := { dst := some 105, op := Op.binOp BinOp.eql 31 (Operand.tmp 104) (Operand.const (Value.int IntKind.i64 0)) 31, type := _, pos := _, after := _, guard := _ }) (v := ?_) rfl (by kernel_rfl) (by kernel_rfl) (by kernel_rfl) (fun c d v h => hQ c d _ _ v h) (Or.inl ⟨by rfl, ?_⟩) (by assumption) ?_
  rotate_left
  · intro w hSw
    go_simp
    try with_reducible rfl
  try simp only [Act.put, List.setIfInBounds_toArray, List.set_cons_zero, List.set_cons_succ]
  refine wpAnyH_take (i := 12) (oi := { dst := some 106, op := Op.pick (Operand.tmp 103) (Operand.tmp 105) (Operand.const (Value.bool false)), type := _, pos := _, after := _, guard := _ }) (v := ?_) rfl (by kernel_rfl) (by kernel_rfl) (by kernel_rfl) (fun c d v h => hQ c d _ _ v h) (Or.inl ⟨by rfl, ?_⟩) (by assumption) ?_
  rotate_left
  · intro w hSw
    go_simp
    try with_reducible rfl
  try simp only [Act.put, List.setIfInBounds_toArray, List.set_cons_zero, List.set_cons_succ]
  refine wpAnyH_take (i := 13) (oi := { dst := some 107, op := Op.move (Operand.tmp 106), type := _, pos := _, after := _, guard := _ }) (v := ?_) rfl (by kernel_rfl) (by kernel_rfl) (by kernel_rfl) (fun c d v h => hQ c d _ _ v h) (Or.inl ⟨by rfl, ?_⟩) (by assumption) ?_
  rotate_left
  · intro w hSw
    go_simp
    try with_reducible rfl
  try simp only [Act.put, List.setIfInBounds_toArray, List.set_cons_zero, List.set_cons_succ]
  refine wpAnyH_take (i := 14) (oi := { dst := some 108, op := Op.fieldAddr 30 (Operand.tmp 11) 4, type := _, pos := _, after := _, guard := _ }) (v := ?_) rfl (by kernel_rfl) (by kernel_rfl) (by kernel_rfl) (fun c d v h => hQ c d _ _ v h) (Or.inl ⟨by rfl, ?_⟩) (by assumption) ?_
  rotate_left
  · intro w hSw
    go_simp
    try with_reducible rfl
  try simp only [Act.put, List.setIfInBounds_toArray, List.set_cons_zero, List.set_cons_succ]
  refine wpAnyH_take (i := 15) (oi := { dst := some 109, op := Op.load 28 (Operand.tmp 108), type := _, pos := _, after := _, guard := _ }) (v := ?_) rfl (by kernel_rfl) (by kernel_rfl) (by kernel_rfl) (fun c d v h => hQ c d _ _ v h) (Or.inl ⟨by rfl, ?_⟩) (by assumption) ?_
  rotate_left
  · intro w hSw
    have q := (hSw V0 4 (unhide hV0)).trans (unhide HMC0)
    go_simp
    try with_reducible rfl
  try simp only [Act.put, List.setIfInBounds_toArray, List.set_cons_zero, List.set_cons_succ]
  refine wpAnyH_take (i := 16) (oi := { dst := some 110, op := Op.call { callee := Callee.builtin Builtin.len, args := #[Operand.tmp 109], argTypes := #[28] }, type := _, pos := _, after := _, guard := _ }) (v := ?_) rfl (by kernel_rfl) (by kernel_rfl) (by kernel_rfl) (fun c d v h => hQ c d _ _ v h) (Or.inl ⟨by rfl, ?_⟩) (by assumption) ?_
  rotate_left
  · intro w hSw
    go_simp
    try with_reducible rfl
  try simp only [Act.put, List.setIfInBounds_toArray, List.set_cons_zero, List.set_cons_succ]
  refine wpAnyH_take (i := 17) (oi := { dst := some 111, op := Op.binOp BinOp.eql 3 (Operand.tmp 110) (Operand.const (Value.int IntKind.i64 1)) 3, type := _, pos := _, after := _, guard := _ }) (v := ?_) rfl (by kernel_rfl) (by kernel_rfl) (by kernel_rfl) (fun c d v h => hQ c d _ _ v h) (Or.inl ⟨by rfl, ?_⟩) (by assumption) ?_
  rotate_left
  · intro w hSw
    go_simp
    try with_reducible rfl
  try simp only [Act.put, List.setIfInBounds_toArray, List.set_cons_zero, List.set_cons_succ]
  refine wpAnyH_take (i := 18) (oi := { dst := some 112, op := Op.pick (Operand.tmp 107) (Operand.tmp 111) (Operand.const (Value.bool false)), type := _, pos := _, after := _, guard := _ }) (v := ?_) rfl (by kernel_rfl) (by kernel_rfl) (by kernel_rfl) (fun c d v h => hQ c d _ _ v h) (Or.inl ⟨by rfl, ?_⟩) (by assumption) ?_
  rotate_left
  · intro w hSw
    go_simp
    try with_reducible rfl
  try simp only [Act.put, List.setIfInBounds_toArray, List.set_cons_zero, List.set_cons_succ]
  refine wpAnyH_take (i := 19) (oi := { dst := some 113, op := Op.move (Operand.tmp 112), type := _, pos := _, after := _, guard := _ }) (v := ?_) rfl (by kernel_rfl) (by kernel_rfl) (by kernel_rfl) (fun c d v h => hQ c d _ _ v h) (Or.inl ⟨by rfl, ?_⟩) (by assumption) ?_
  rotate_left
  · intro w hSw
    go_simp
    try with_reducible rfl
  try simp only [Act.put, List.setIfInBounds_toArray, List.set_cons_zero, List.set_cons_succ]
  refine wpAnyH_take (i := 20) (oi := { dst := some 114, op := Op.fieldAddr 30 (Operand.tmp 11) 4, type := _, pos := _, after := _, guard := _ }) (v := ?_) rfl (by kernel_rfl) (by kernel_rfl) (by kernel_rfl) (fun c d v h => hQ c d _ _ v h) (Or.inl ⟨by rfl, ?_⟩) (by assumption) ?_
  rotate_left
  · intro w hSw
    go_simp
    try with_reducible rfl
  try simp only [Act.put, List.setIfInBounds_toArray, List.set_cons_zero, List.set_cons_succ]
  refine wpAnyH_take (i := 21) (oi := { dst := some 115, op := Op.load 28 (Operand.tmp 114), type := _, pos := _, after := _, guard := _ }) (v := ?_) rfl (by kernel_rfl) (by kernel_rfl) (by kernel_rfl) (fun c d v h => hQ c d _ _ v h) (Or.inl ⟨by rfl, ?_⟩) (by assumption) ?_
  rotate_left
  · intro w hSw
    have q := (hSw V0 4 (unhide hV0)).trans (unhide HMC0)
    go_simp
    try with_reducible rfl
  try simp only [Act.put, List.setIfInBounds_toArray, List.set_cons_zero, List.set_cons_succ]
  refine wpAnyH_take (i := 22) (oi := { dst := some 116, op := Op.indexAddr 28 (Operand.tmp 115) (Operand.const (Value.int IntKind.i64 0)), type := _, pos := _, after := _, guard := _ }) (v := ?_) rfl (by kernel_rfl) (by kernel_rfl) (by kernel_rfl) (fun c d v h => hQ c d _ _ v h) (Or.inl ⟨by rfl, ?_⟩) (by assumption) ?_
  rotate_left
  · intro w hSw
    go_simp
    try with_reducible rfl
  try simp only [Act.put, List.setIfInBounds_toArray, List.set_cons_zero, List.set_cons_succ]
  refine wpAnyH_take (i := 23) (oi := { dst := some 117, op := Op.fieldAddr 41 (Operand.tmp 116) 3, type := _, pos := _, after := _, guard := _ }) (v := ?_) rfl (by kernel_rfl) (by kernel_rfl) (by kernel_rfl) (fun c d v h => hQ c d _ _ v h) (Or.inl ⟨by rfl, ?_⟩) (by assumption) ?_
  rotate_left
  · intro w hSw
    go_simp
    try with_reducible rfl
  try simp only [Act.put, List.setIfInBounds_toArray, List.set_cons_zero, List.set_cons_succ]
  refine wpAnyH_take (i := 24) (oi := { dst := some 118, op := Op.load 26 (Operand.tmp 117), type := _, pos := _, after := _, guard := _ }) (v := ?_) rfl (by kernel_rfl) (by kernel_rfl) (by kernel_rfl) (fun c d v h => hQ c d _ _ v h) (Or.inl ⟨by rfl, ?_⟩) (by assumption) ?_
  rotate_left
  · intro w hSw
    have q0 := (hSw R0 5 (unhide HR0)).trans (unhide HRC00)
    have q1 := (hSw R0 6 (unhide HR0)).trans (unhide HRC01)
    have q2 := (hSw R0 7 (unhide HR0)).trans (unhide HRC02)
    have q3 := (hSw R0 8 (unhide HR0)).trans (unhide HRC03)
    have q4 := (hSw R0 9 (unhide HR0)).trans (unhide HRC04)
    have q5 := (hSw R0 10 (unhide HR0)).trans (unhide HRC05)
    go_simp
    try with_reducible rfl
  try simp only [Act.put, List.setIfInBounds_toArray, List.set_cons_zero, List.set_cons_succ]
  refine wpAnyH_take (i := 25) (oi := { dst := some 119, op := Op.load 26 (Operand.tmp 10), type := _, pos := _, after := _, guard := _ }) (v := ?_) rfl (by kernel_rfl) (by kernel_rfl) (by kernel_rfl) (fun c d v h => hQ c d _ _ v h) (Or.inl ⟨by rfl, ?_⟩) (by assumption) ?_
  rotate_left
  · intro w hSw
    have q0 := (hSw Vc 0 (unhide hVc)).trans (unhide HCC0)
    have q1 := (hSw Vc 1 (unhide hVc)).trans (unhide HCC1)
    have q2 := (hSw Vc 2 (unhide hVc)).trans (unhide HCC2)
    have q3 := (hSw Vc 3 (unhide hVc)).trans (unhide HCC3)
    have q4 := (hSw Vc 4 (unhide hVc)).trans (unhide HCC4)
    have q5 := (hSw Vc 5 (unhide hVc)).trans (unhide HCC5)
    go_simp
    try with_reducible rfl
  try simp only [Act.put, List.setIfInBounds_toArray, List.set_cons_zero, List.set_cons_succ]
  refine wpAnyH_take (i := 26) (oi := { dst := some 120, op := Op.binOp BinOp.eql 26 (Operand.tmp 118) (Operand.tmp 119) 26, type := _, pos := _, after := _, guard := _ }) (v := ?_) rfl (by kernel_rfl) (by kernel_rfl) (by kernel_rfl) (fun c d v h => hQ c d _ _ v h) (Or.inl ⟨by rfl, ?_⟩) (by assumption) ?_
  rotate_left
  · intro w hSw
    go_simp
    try with_reducible rfl
  try simp only [Act.put, List.setIfInBounds_toArray, List.set_cons_zero, List.set_cons_succ]
  refine wpAnyH_take (i := 27) (oi := { dst := some 121, op := Op.pick (Operand.tmp 113) (Operand.tmp 120) (Operand.const (Value.bool false)), type := _, pos := _, after := _, guard := _ }) (v := ?_) rfl (by kernel_rfl) (by kernel_rfl) (by kernel_rfl) (fun c d v h => hQ c d _ _ v h) (Or.inl ⟨by rfl, ?_⟩) (by assumption) ?_
  rotate_left
  · intro w hSw
    go_simp
    try with_reducible rfl
  try simp only [Act.put, List.setIfInBounds_toArray, List.set_cons_zero, List.set_cons_succ]
  refine wpAnyH_take (i := 28) (oi := { dst := some 122, op := Op.move (Operand.tmp 121), type := _, pos := _, after := _, guard := _ }) (v := ?_) rfl (by kernel_rfl) (by kernel_rfl) (by kernel_rfl) (fun c d v h => hQ c d _ _ v h) (Or.inl ⟨by rfl, ?_⟩) (by assumption) ?_
  rotate_left
  · intro w hSw
    go_simp
    try with_reducible rfl
  try simp only [Act.put, List.setIfInBounds_toArray, List.set_cons_zero, List.set_cons_succ]
  refine wpAnyH_take (i := 29) (oi := { dst := some 123, op := Op.fieldAddr 30 (Operand.tmp 14) 4, type := _, pos := _, after := _, guard := _ }) (v := ?_) rfl (by kernel_rfl) (by kernel_rfl) (by kernel_rfl) (fun c d v h => hQ c d _ _ v h) (Or.inl ⟨by rfl, ?_⟩) (by assumption) ?_
  rotate_left
  · intro w hSw
    go_simp
    try with_reducible rfl
  try simp only [Act.put, List.setIfInBounds_toArray, List.set_cons_zero, List.set_cons_succ]
  refine wpAnyH_take (i := 30) (oi := { dst := some 124, op := Op.load 28 (Operand.tmp 123), type := _, pos := _, after := _, guard := _ }) (v := ?_) rfl (by kernel_rfl) (by kernel_rfl) (by kernel_rfl) (fun c d v h => hQ c d _ _ v h) (Or.inl ⟨by rfl, ?_⟩) (by assumption) ?_
  rotate_left
  · intro w hSw
    have q := (hSw V1 4 (unhide hV1)).trans (unhide HMC1)
    go_simp
    try with_reducible rfl
  try simp only [Act.put, List.setIfInBounds_toArray, List.set_cons_zero, List.set_cons_succ]
  refine wpAnyH_take (i := 31) (oi := { dst := some 125, op := Op.call { callee := Callee.builtin Builtin.len, args := #[Operand.tmp 124], argTypes := #[28] }, type := _, pos := _, after := _, guard := _ }) (v := ?_) rfl (by kernel_rfl) (by kernel_rfl) (by kernel_rfl) (fun c d v h => hQ c d _ _ v h) (Or.inl ⟨by rfl, ?_⟩) (by assumption) ?_
  rotate_left
  · intro w hSw
    go_simp
    try with_reducible rfl
  try simp only [Act.put, List.setIfInBounds_toArray, List.set_cons_zero, List.set_cons_succ]
  refine wpAnyH_take (i := 32) (oi := { dst := some 126, op := Op.binOp BinOp.eql 3 (Operand.tmp 125) (Operand.const (Value.int IntKind.i64 1)) 3, type := _, pos := _, after := _, guard := _ }) (v := ?_) rfl (by kernel_rfl) (by kernel_rfl) (by kernel_rfl) (fun c d v h => hQ c d _ _ v h) (Or.inl ⟨by rfl, ?_⟩) (by assumption) ?_
  rotate_left
  · intro w hSw
    go_simp
    try with_reducible rfl
  try simp only [Act.put, List.setIfInBounds_toArray, List.set_cons_zero, List.set_cons_succ]
  refine wpAnyH_take (i := 33) (oi := { dst := some 127, op := Op.pick (Operand.tmp 122) (Operand.tmp 126) (Operand.const (Value.bool false)), type := _, pos := _, after := _, guard := _ }) (v := ?_) rfl (by kernel_rfl) (by kernel_rfl) (by kernel_rfl) (fun c d v h => hQ c d _ _ v h) (Or.inl ⟨by rfl, ?_⟩) (by assumption) ?_
  rotate_left
  · intro w hSw
    go_simp
    try with_reducible rfl
  try simp only [Act.put, List.setIfInBounds_toArray, List.set_cons_zero, List.set_cons_succ]
  refine wpAnyH_take (i := 34) (oi := { dst := some 128, op := Op.move (Operand.tmp 127), type := _, pos := _, after := _, guard := _ }) (v := ?_) rfl (by kernel_rfl) (by kernel_rfl) (by kernel_rfl) (fun c d v h => hQ c d _ _ v h) (Or.inl ⟨by rfl, ?_⟩) (by assumption) ?_
  rotate_left
  · intro w hSw
    go_simp
    try with_reducible rfl
  try simp only [Act.put, List.setIfInBounds_toArray, List.set_cons_zero, List.set_cons_succ]
  refine wpAnyH_take (i := 35) (oi := { dst := some 129, op := Op.fieldAddr 30 (Operand.tmp 14) 4, type := _, pos := _, after := _, guard := _ }) (v := ?_) rfl (by kernel_rfl) (by kernel_rfl) (by kernel_rfl) (fun c d v h => hQ c d _ _ v h) (Or.inl ⟨by rfl, ?_⟩) (by assumption) ?_
  rotate_left
  · intro w hSw
    go_simp
    try with_reducible rfl
  try simp only [Act.put, List.setIfInBounds_toArray, List.set_cons_zero, List.set_cons_succ]
  refine wpAnyH_take (i := 36) (oi := { dst := some 130, op := Op.load 28 (Operand.tmp 129), type := _, pos := _, after := _, guard := _ }) (v := ?_) rfl (by kernel_rfl) (by kernel_rfl) (by kernel_rfl) (fun c d v h => hQ c d _ _ v h) (Or.inl ⟨by rfl, ?_⟩) (by assumption) ?_
  rotate_left
  · intro w hSw
    have q := (hSw V1 4 (unhide hV1)).trans (unhide HMC1)
    go_simp
    try with_reducible rfl
  try simp only [Act.put, List.setIfInBounds_toArray, List.set_cons_zero, List.set_cons_succ]
  refine wpAnyH_take (i := 37) (oi := { dst := some 131, op := Op.indexAddr 28 (Operand.tmp 130) (Operand.const (Value.int IntKind.i64 0)), type := _, pos := _, after := _, guard := _ }) (v := ?_) rfl (by kernel_rfl) (by kernel_rfl) (by kernel_rfl) (fun c d v h => hQ c d _ _ v h) (Or.inl ⟨by rfl, ?_⟩) (by assumption) ?_
  rotate_left
  · intro w hSw
    go_simp
    try with_reducible rfl
  try simp only [Act.put, List.setIfInBounds_toArray, List.set_cons_zero, List.set_cons_succ]
  refine wpAnyH_take (i := 38) (oi := { dst := some 132, op := Op.fieldAddr 41 (Operand.tmp 131) 3, type := _, pos := _, after := _, guard := _ }) (v := ?_) rfl (by kernel_rfl) (by kernel_rfl) (by kernel_rfl) (fun c d v h => hQ c d _ _ v h) (Or.inl ⟨by rfl, ?_⟩) (by assumption) ?_
  rotate_left
  · intro w hSw
    go_simp
    try with_reducible rfl
  try simp only [Act.put, List.setIfInBounds_toArray, List.set_cons_zero, List.set_cons_succ]
  refine wpAnyH_take (i := 39) (oi := { dst := some 133, op := Op.load 26 (Operand.tmp 132), type := _, pos := _, after := _, guard := _ }) (v := ?_) rfl (by kernel_rfl) (by kernel_rfl) (by kernel_rfl) (fun c d v h => hQ c d _ _ v h) (Or.inl ⟨by rfl, ?_⟩) (by assumption) ?_
  rotate_left
  · intro w hSw
    have q0 := (hSw R1 5 (unhide HR1)).trans (unhide HRC10)
    have q1 := (hSw R1 6 (unhide HR1)).trans (unhide HRC11)
    have q2 := (hSw R1 7 (unhide HR1)).trans (unhide HRC12)
    have q3 := (hSw R1 8 (unhide HR1)).trans (unhide HRC13)
    have q4 := (hSw R1 9 (unhide HR1)).trans (unhide HRC14)
    have q5 := (hSw R1 10 (unhide HR1)).trans (unhide HRC15)
    go_simp
    try with_reducible rfl
  try simp only [Act.put, List.setIfInBounds_toArray, List.set_cons_zero, List.set_cons_succ]
  refine wpAnyH_take (i := 40) (oi := { dst := some 134, op := Op.load 26 (Operand.tmp 10), type := _, pos := _, after := _, guard := _ }) (v := ?_) rfl (by kernel_rfl) (by kernel_rfl) (by kernel_rfl) (fun c d v h => hQ c d _ _ v h) (Or.inl ⟨by rfl, ?_⟩) (by assumption) ?_
  rotate_left
  · intro w hSw
    have q0 := (hSw Vc 0 (unhide hVc)).trans (unhide HCC0)
    have q1 := (hSw Vc 1 (unhide hVc)).trans (unhide HCC1)
    have q2 := (hSw Vc 2 (unhide hVc)).trans (unhide HCC2)
    have q3 := (hSw Vc 3 (unhide hVc)).trans (unhide HCC3)
    have q4 := (hSw Vc 4 (unhide hVc)).trans (unhide HCC4)
    have q5 := (hSw Vc 5 (unhide hVc)).trans (unhide HCC5)
    go_simp
    try with_reducible rfl
  try simp only [Act.put, List.setIfInBounds_toArray, List.set_cons_zero, List.set_cons_succ]
  refine wpAnyH_take (i := 41) (oi := { dst := some 135, op := Op.binOp BinOp.eql 26 (Operand.tmp 133) (Operand.tmp 134) 26, type := _, pos := _, after := _, guard := _ }) (v := ?_) rfl (by kernel_rfl) (by kernel_rfl) (by kernel_rfl) (fun c d v h => hQ c d _ _ v h) (Or.inl ⟨by rfl, ?_⟩) (by assumption) ?_
  rotate_left
  · intro w hSw
    go_simp
    try with_reducible rfl
  try simp only [Act.put, List.setIfInBounds_toArray, List.set_cons_zero, List.set_cons_succ]
  refine wpAnyH_take (i := 42) (oi := { dst := some 136, op := Op.pick (Operand.tmp 128) (Operand.tmp 135) (Operand.const (Value.bool false)), type := _, pos := _, after := _, guard := _ }) (v := ?_) rfl (by kernel_rfl) (by kernel_rfl) (by kernel_rfl) (fun c d v h => hQ c d _ _ v h) (Or.inl ⟨by rfl, ?_⟩) (by assumption) ?_
  rotate_left
  · intro w hSw
    go_simp
    try with_reducible rfl
  try simp only [Act.put, List.setIfInBounds_toArray, List.set_cons_zero, List.set_cons_succ]
  refine wpAnyH_take (i := 43) (oi := { dst := some 137, op := Op.move (Operand.tmp 136), type := _, pos := _, after := _, guard := _ }) (v := ?_) rfl (by kernel_rfl) (by kernel_rfl) (by kernel_rfl) (fun c d v h => hQ c d _ _ v h) (Or.inl ⟨by rfl, ?_⟩) (by assumption) ?_
  rotate_left
  · intro w hSw
    go_simp
    try with_reducible rfl
  try simp only [Act.put, List.setIfInBounds_toArray, List.set_cons_zero, List.set_cons_succ]
  refine wpAnyH_take (i := 44) (oi := { dst := some 138, op := Op.fieldAddr 30 (Operand.tmp 17) 4, type := _, pos := _, after := _, guard := _ }) (v := ?_) rfl (by kernel_rfl) (by kernel_rfl) (by kernel_rfl) (fun c d v h => hQ c d _ _ v h) (Or.inl ⟨by rfl, ?_⟩) (by assumption) ?_
  rotate_left
  · intro w hSw
    go_simp
    try with_reducible rfl
  try simp only [Act.put, List.setIfInBounds_toArray, List.set_cons_zero, List.set_cons_succ]
  refine wpAnyH_take (i := 45) (oi := { dst := some 139, op := Op.load 28 (Operand.tmp 138), type := _, pos := _, after := _, guard := _ }) (v := ?_) rfl (by kernel_rfl) (by kernel_rfl) (by kernel_rfl) (fun c d v h => hQ c d _ _ v h) (Or.inl ⟨by rfl, ?_⟩) (by assumption) ?_
  rotate_left
  · intro w hSw
    have q := (hSw V2 4 (unhide hV2)).trans (unhide HMC2)
    go_simp
    try with_reducible rfl
  try simp only [Act.put, List.setIfInBounds_toArray, List.set_cons_zero, List.set_cons_succ]
  refine wpAnyH_take (i := 46) (oi := { dst := some 140, op := Op.call { callee := Callee.builtin Builtin.len, args := #[Operand.tmp 139], argTypes := #[28] }, type := _, pos := _, after := _, guard := _ }) (v := ?_) rfl (by kernel_rfl) (by kernel_rfl) (by kernel_rfl) (fun c d v h => hQ c d _ _ v h) (Or.inl ⟨by rfl, ?_⟩) (by assumption) ?_
  rotate_left
  · intro w hSw
    go_simp
    try with_reducible rfl
  try simp only [Act.put, List.setIfInBounds_toArray, List.set_cons_zero, List.set_cons_succ]
  refine wpAnyH_take (i := 47) (oi := { dst := some 141, op := Op.binOp BinOp.eql 3 (Operand.tmp 140) (Operand.const (Value.int IntKind.i64 2)) 3, type := _, pos := _, after := _, guard := _ }) (v := ?_) rfl (by kernel_rfl) (by kernel_rfl) (by kernel_rfl) (fun c d v h => hQ c d _ _ v h) (Or.inl ⟨by rfl, ?_⟩) (by assumption) ?_
  rotate_left
  · intro w hSw
    go_simp
    try with_reducible rfl
  try simp only [Act.put, List.setIfInBounds_toArray, List.set_cons_zero, List.set_cons_succ]
  refine wpAnyH_take (i := 48) (oi := { dst := some 142, op := Op.pick (Operand.tmp 137) (Operand.tmp 141) (Operand.const (Value.bool false)), type := _, pos := _, after := _, guard := _ }) (v := ?_) rfl (by kernel_rfl) (by kernel_rfl) (by kernel_rfl) (fun c d v h => hQ c d _ _ v h) (Or.inl ⟨by rfl, ?_⟩) (by assumption) ?_
  rotate_left
  · intro w hSw
    go_simp
    try with_reducible rfl
  try simp only [Act.put, List.setIfInBounds_toArray, List.set_cons_zero, List.set_cons_succ]
  refine wpAnyH_take (i := 49) (oi := { dst := some 143, op := Op.move (Operand.tmp 142), type := _, pos := _, after := _, guard := _ }) (v := ?_) rfl (by kernel_rfl) (by kernel_rfl) (by kernel_rfl) (fun c d v h => hQ c d _ _ v h) (Or.inl ⟨by rfl, ?_⟩) (by assumption) ?_
  rotate_left
  · intro w hSw
    go_simp
    try with_reducible rfl
  try simp only [Act.put, List.setIfInBounds_toArray, List.set_cons_zero, List.set_cons_succ]
  refine wpAnyH_take (i := 50) (oi := { dst := some 144, op := Op.fieldAddr 30 (Operand.tmp 17) 4, type := _, pos := _, after := _, guard := _ }) (v := ?_) rfl (by kernel_rfl) (by kernel_rfl) (by kernel_rfl) (fun c d v h => hQ c d _ _ v h) (Or.inl ⟨by rfl, ?_⟩) (by assumption) ?_
  rotate_left
  · intro w hSw
    go_simp
    try with_reducible rfl
  try simp only [Act.put, List.setIfInBounds_toArray, List.set_cons_zero, List.set_cons_succ]
  refine wpAnyH_take (i := 51) (oi := { dst := some 145, op := Op.load 28 (Operand.tmp 144), type := _, pos := _, after := _, guard := _ }) (v := ?_) rfl (by kernel_rfl) (by kernel_rfl) (by kernel_rfl) (fun c d v h => hQ c d _ _ v h) (Or.inl ⟨by rfl, ?_⟩) (by assumption) ?_
  rotate_left
  · intro w hSw
    have q := (hSw V2 4 (unhide hV2)).trans (unhide HMC2)
    go_simp
    try with_reducible rfl
  try simp only [Act.put, List.setIfInBounds_toArray, List.set_cons_zero, List.set_cons_succ]
  refine wpAnyH_take (i := 52) (oi := { dst := some 146, op := Op.indexAddr 28 (Operand.tmp 145) (Operand.const (Value.int IntKind.i64 0)), type := _, pos := _, after := _, guard := _ }) (v := ?_) rfl (by kernel_rfl) (by kernel_rfl) (by kernel_rfl) (fun c d v h => hQ c d _ _ v h) (Or.inl ⟨by rfl, ?_⟩) (by assumption) ?_
  rotate_left
  · intro w hSw
    go_simp
    try with_reducible rfl
  try simp only [Act.put, List.setIfInBounds_toArray, List.set_cons_zero, List.set_cons_succ]
  refine wpAnyH_take (i := 53) (oi := { dst := some 147, op := Op.fieldAddr 41 (Operand.tmp 146) 3, type := _, pos := _, after := _, guard := _ }) (v := ?_) rfl (by kernel_rfl) (by kernel_rfl) (by kernel_rfl) (fun c d v h => hQ c d _ _ v h) (Or.inl ⟨by rfl, ?_⟩) (by assumption) ?_
  rotate_left
  · intro w hSw
    go_simp
    try with_reducible rfl
  try simp only [Act.put, List.setIfInBounds_toArray, List.set_cons_zero, List.set_cons_succ]
  refine wpAnyH_take (i := 54) (oi := { dst := some 148, op := Op.load 26 (Operand.tmp 147), type := _, pos := _, after := _, guard := _ }) (v := ?_) rfl (by kernel_rfl) (by kernel_rfl) (by kernel_rfl) (fun c d v h => hQ c d _ _ v h) (Or.inl ⟨by rfl, ?_⟩) (by assumption) ?_
  rotate_left
  · intro w hSw
    have q0 := (hSw R2 5 (unhide HR2)).trans (unhide HRC20)
    have q1 := (hSw R2 6 (unhide HR2)).trans (unhide HRC21)
    have q2 := (hSw R2 7 (unhide HR2)).trans (unhide HRC22)
    have q3 := (hSw R2 8 (unhide HR2)).trans (unhide HRC23)
    have q4 := (hSw R2 9 (unhide HR2)).trans (unhide HRC24)
    have q5 := (hSw R2 10 (unhide HR2)).trans (unhide HRC25)
    go_simp
    try with_reducible rfl
  try simp only [Act.put, List.setIfInBounds_toArray, List.set_cons_zero, List.set_cons_succ]
  refine wpAnyH_take (i := 55) (oi := { dst := some 149, op := Op.load 26 (Operand.tmp 10), type := _, pos := _, after := _, guard := _ }) (v := ?_) rfl (by kernel_rfl) (by kernel_rfl) (by kernel_rfl) (fun c d v h => hQ c d _ _ v h) (Or.inl ⟨by rfl, ?_⟩) (by assumption) ?_
  rotate_left
  · intro w hSw
    have q0 := (hSw Vc 0 (unhide hVc)).trans (unhide HCC0)
    have q1 := (hSw Vc 1 (unhide hVc)).trans (unhide HCC1)
    have q2 := (hSw Vc 2 (unhide hVc)).trans (unhide HCC2)
    have q3 := (hSw Vc 3 (unhide hVc)).trans (unhide HCC3)
    have q4 := (hSw Vc 4 (unhide hVc)).trans (unhide HCC4)
    have q5 := (hSw Vc 5 (unhide hVc)).trans (unhide HCC5)
    go_simp
    try with_reducible rfl
  try simp only [Act.put, List.setIfInBounds_toArray, List.set_cons_zero, List.set_cons_succ]
  refine wpAnyH_take (i := 56) (oi := { dst := some 150, op := Op.binOp BinOp.eql 26 (Operand.tmp 148) (Operand.tmp 149) 26, type := _, pos := _, after := _, guard := _ }) (v := ?_) rfl (by kernel_rfl) (by kernel_rfl) (by kernel_rfl) (fun c d v h => hQ c d _ _ v h) (Or.inl ⟨by rfl, ?_⟩) (by assumption) ?_
  rotate_left
  · intro w hSw
    go_simp
    try with_reducible rfl
  try simp only [Act.put, List.setIfInBounds_toArray, List.set_cons_zero, List.set_cons_succ]
  refine wpAnyH_take (i := 57) (oi := { dst := some 151, op := Op.pick (Operand.tmp 143) (Operand.tmp 150) (Operand.const (Value.bool false)), type := _, pos := _, after := _, guard := _ }) (v := ?_) rfl (by kernel_rfl) (by kernel_rfl) (by kernel_rfl) (fun c d v h => hQ c d _ _ v h) (Or.inl ⟨by rfl, ?_⟩) (by assumption) ?_
  rotate_left
  · intro w hSw
    go_simp
    try with_reducible rfl
  try simp only [Act.put, List.setIfInBounds_toArray, List.set_cons_zero, List.set_cons_succ]
  refine wpAnyH_take (i := 58) (oi := { dst := some 8, op := Op.assign (Operand.tmp 151), type := _, pos := _, after := _, guard := _ }) (v := ?_) rfl (by kernel_rfl) (by kernel_rfl) (by kernel_rfl) (fun c d v h => hQ c d _ _ v h) (Or.inl ⟨by rfl, ?_⟩) (by assumption) ?_
  rotate_left
  · intro w hSw
    go_simp
    try with_reducible rfl
  try simp only [Act.put, List.setIfInBounds_toArray, List.set_cons_zero, List.set_cons_succ]
  refine wpAnyH_done (by kernel_rfl) ?_ _
  exact unhide HKF _ _ _ _ _ _ _ _ _ _ _ _ _ _ _ _ _ _ _ _ _ _ _ _ _ _ _ _ _ _ _ _ _ _ _ _ _ _ _ _ _ _ _ _ _ _ _ _ _ _ _ _ _ _ _ _ _ _ _ (unhide HKz)
set_option maxRecDepth 100000 in
set_option maxHeartbeats 16000000 in
theorem syntaxBounds_0t {w : World} (hL : LexW w) (a b n : Int) (h0 : -9223372036854775808 ≤ a) (h1 : a ≤ 9223372036854775807) (h2 : -9223372036854775808 ≤ b) (h3 : b ≤ 9223372036854775807) (hm' : wrap64 ((IntKind.u64.wrap n).tmod 5) = 0) : Calls Tryd.prog 3 #[.int .i64 a, .int .i64 b, .int .i64 n, .bool true] w fun e w' => e = .returned (.bool true) ∧ Keeps w w' := by
  have HA := hide (fun (w1 : World) (hk : Keeps w w1) => awake05_any (hL.keeps hk))
  have HNa := hide (fun w => number_help a h0 h1 w)
  have HNb := hide (fun w => number_help b h2 h3 w)
  have HLW := hide hL
  have hsa := num_size a
  have hsb := num_size b
  have hq1 : ¬ 9223372036854775807 < (numB a).size + 2 := by omega
  have hq2 : ¬ 9223372036854775807 < (numB a).size + 2 + (numB b).size := by omega
  have hq3 : ¬ 9223372036854775807 < (numB a).size + 5 := by omega
  have hq4 : ¬ 9223372036854775807 < 5 + (numB b).size := by omega
  have HK0 := hide (Keeps.refl w)
  clear hL
  have hsz := tB_size (num_pc a h0 h1) (num_pc b h2 h3) 0 true
  obtain ⟨md0, hpr0, kd0, o0, r0, hn0, hl0⟩ := bounds_any (unhide HLW) a b h0 h1 h2 h3 0 0 true (by decide) (by decide)
  have HPR0 := hide (fun (w1 : World) (hk : Keeps w w1) => (show Calls Tryd.prog 8 #[.string (⟨#[77, 32, 68, 69, 70, 73, 78, 73, 84, 73, 79, 78, 83, 32, 58, 58, 61, 32, 66, 69, 71, 73, 78, 32, 65, 32, 58, 58, 61, 32]⟩ ++ (⟨#[73, 78, 84, 69, 71, 69, 82, 32, 40]⟩ ++ (numB a ++ ⟨#[46, 46]⟩ ++ numB b ++ ⟨#[44, 32, 46, 46, 46]⟩) ++ ⟨#[41]⟩) ++ ⟨#[32, 69, 78, 68]⟩)] w1 (GivesM md0 0 0 w1) from hpr0 w1 hk))
  have HMO0 := hide (fun w => module05_any (⟨#[73, 78, 84, 69, 71, 69, 82, 32, 40]⟩ ++ (numB a ++ ⟨#[46, 46]⟩ ++ numB b ++ ⟨#[44, 32, 46, 46, 46]⟩) ++ ⟨#[41]⟩) w (by have := bndB_size 0 (tB 0 (numB a) (numB b) true); show (bndB 0 (tB 0 (numB a) (numB b) true)).size ≤ _; omega))
  have HN0 := hide hn0
  have HL0 := hide (show r0.length + 1 = 1 by rw [hl0]; rfl)
  clear hpr0 hn0 hl0
  obtain ⟨md1, hpr1, kd1, o1, r1, hn1, hl1⟩ := bounds_any (unhide HLW) a b h0 h1 h2 h3 1 0 true (by decide) (by decide)
  have HPR1 := hide (fun (w1 : World) (hk : Keeps w w1) => (show Calls Tryd.prog 8 #[.string (⟨#[77, 32, 68, 69, 70, 73, 78, 73, 84, 73, 79, 78, 83, 32, 58, 58, 61, 32, 66, 69, 71, 73, 78, 32, 65, 32, 58, 58, 61, 32]⟩ ++ (⟨#[79, 67, 84, 69, 84, 32, 83, 84, 82, 73, 78, 71, 32, 40, 83, 73, 90, 69, 32, 40]⟩ ++ (numB a ++ ⟨#[46, 46]⟩ ++ numB b ++ ⟨#[44, 32, 46, 46, 46]⟩) ++ ⟨#[41, 41]⟩) ++ ⟨#[32, 69, 78, 68]⟩)] w1 (GivesM md1 0 0 w1) from hpr1 w1 hk))
  have HMO1 := hide (fun w => module05_any (⟨#[79, 67, 84, 69, 84, 32, 83, 84, 82, 73, 78, 71, 32, 40, 83, 73, 90, 69, 32, 40]⟩ ++ (numB a ++ ⟨#[46, 46]⟩ ++ numB b ++ ⟨#[44, 32, 46, 46, 46]⟩) ++ ⟨#[41, 41]⟩) w (by have := bndB_size 1 (tB 0 (numB a) (numB b) true); show (bndB 1 (tB 0 (numB a) (numB b) true)).size ≤ _; omega))
  have HN1 := hide hn1
  have HL1 := hide (show r1.length + 1 = 1 by rw [hl1]; rfl)
  clear hpr1 hn1 hl1
  obtain ⟨md2, hpr2, kd2, o2, r2, hn2, hl2⟩ := bounds_any (unhide HLW) a b h0 h1 h2 h3 2 0 true (by decide) (by decide)
  have HPR2 := hide (fun (w1 : World) (hk : Keeps w w1) => (show Calls Tryd.prog 8 #[.string (⟨#[77, 32, 68, 69, 70, 73, 78, 73, 84, 73, 79, 78, 83, 32, 58, 58, 61, 32, 66, 69, 71, 73, 78, 32, 65, 32, 58, 58, 61, 32]⟩ ++ (⟨#[83, 69, 81, 85, 69, 78, 67, 69, 32, 40, 83, 73, 90, 69, 32, 40]⟩ ++ (numB a ++ ⟨#[46, 46]⟩ ++ numB b ++ ⟨#[44, 32, 46, 46, 46]⟩) ++ ⟨#[41, 41, 32, 79, 70, 32, 78, 85, 76, 76]⟩) ++ ⟨#[32, 69, 78, 68]⟩)] w1 (GivesM md2 0 0 w1) from hpr2 w1 hk))
  have HMO2 := hide (fun w => module05_any (⟨#[83, 69, 81, 85, 69, 78, 67, 69, 32, 40, 83, 73, 90, 69, 32, 40]⟩ ++ (numB a ++ ⟨#[46, 46]⟩ ++ numB b ++ ⟨#[44, 32, 46, 46, 46]⟩) ++ ⟨#[41, 41, 32, 79, 70, 32, 78, 85, 76, 76]⟩) w (by have := bndB_size 2 (tB 0 (numB a) (numB b) true); show (bndB 2 (tB 0 (numB a) (numB b) true)).size ≤ _; omega))
  have HN2 := hide hn2
  have HL2 := hide (show r2.length + 1 = 2 by rw [hl2]; rfl)
  clear hpr2 hn2 hl2
  clear hsz
  go_enter Tryd.func3, Tryd.ntmps3
  go_wp2_with fail
  refine (unhide HNa _).mono ?_
  rintro e n0 ⟨rfl, hk⟩
  have HKn0 := hide ((unhide HK0).trans hk)
  clear hk
  go_wp2_with fail
  refine (unhide HNb _).mono ?_
  rintro e n1 ⟨rfl, hk⟩
  have HKn1 := hide ((unhide HKn0).trans hk)
  clear hk
  go_wp2_with fail
  refine (unhide HNa _).mono ?_
  rintro e n2 ⟨rfl, hk⟩
  have HKn2 := hide ((unhide HKn1).trans hk)
  clear hk
  go_wp2_with fail
  refine (unhide HNa _).mono ?_
  rintro e n3 ⟨rfl, hk⟩
  have HKn3 := hide ((unhide HKn2).trans hk)
  clear hk
  go_wp2_with fail
  refine (unhide HNb _).mono ?_
  rintro e n4 ⟨rfl, hk⟩
  have HKn4 := hide ((unhide HKn3).trans hk)
  clear hk
  go_wp2_with fail
  have hsw : (n4.alloc (.cells #[.string (numB a ++ ⟨#[46, 46]⟩ ++ numB b), .string (numB a), .string (numB a ++ ⟨#[46, 46, 77, 65, 88]⟩), .string (⟨#[77, 73, 78, 46, 46]⟩ ++ numB b), .string ⟨#[77, 73, 78, 46, 46, 77, 65, 88]⟩] 9)).heap.size = n4.heap.size + 1 := World.size_alloc _ _
  have HC := hide (Blk.new (n4.alloc (.cells #[.string (numB a ++ ⟨#[46, 46]⟩ ++ numB b), .string (numB a), .string (numB a ++ ⟨#[46, 46, 77, 65, 88]⟩), .string (⟨#[77, 73, 78, 46, 46]⟩ ++ numB b), .string ⟨#[77, 73, 78, 46, 46, 77, 65, 88]⟩] 9)) 26 #[.bool true, .bool true, .bool true, .bool true, .int .i64 a, .int .i64 b])
  rw [hsw] at HC
  clear hsw
  have HKv0 := hide (show Keeps w ((n4.alloc (.cells #[.string (numB a ++ ⟨#[46, 46]⟩ ++ numB b), .string (numB a), .string (numB a ++ ⟨#[46, 46, 77, 65, 88]⟩), .string (⟨#[77, 73, 78, 46, 46]⟩ ++ numB b), .string ⟨#[77, 73, 78, 46, 46, 77, 65, 88]⟩] 9)).alloc (.cells #[.bool true, .bool true, .bool true, .bool true, .int .i64 a, .int .i64 b] 26)) from ((unhide HKn4).alloc _).alloc _)
  generalize ((n4.alloc (.cells #[.string (numB a ++ ⟨#[46, 46]⟩ ++ numB b), .string (numB a), .string (numB a ++ ⟨#[46, 46, 77, 65, 88]⟩), .string (⟨#[77, 73, 78, 46, 46]⟩ ++ numB b), .string ⟨#[77, 73, 78, 46, 46, 77, 65, 88]⟩] 9)).alloc (.cells #[.bool true, .bool true, .bool true, .bool true, .int .i64 a, .int .i64 b] 26)) = v0 at HC HKv0 ⊢
  generalize n4.heap.size + 1 = Vc at HC ⊢
  refine (unhide HMO0 _).mono ?_
  rintro e w'0 ⟨rfl, hw0⟩
  subst w'0
  go_wp2_with fail
  refine (unhide HPR0 _ (unhide HKv0)).mono ?_
  rintro e u0 ⟨A02, c02, A03, c03, A04, c04, rfl, hmh, hk⟩
  have HM0 := hide (ModIn.fresh hk hmh (Nat.le_refl _)).at_
  have HKx0 := hide (hk.alloc (.cells #[.string md0.name, .int .i64 md0.tagging, .slice A02 md0.names.length c02, .slice A03 md0.types.length c03, .slice A04 md0.nodes.length c04] 30))
  have HKv1 := hide ((unhide HKv0).trans (unhide HKx0))
  clear hk hmh
  go_wp2_with fail
  generalize u0.alloc (.cells #[.string md0.name, .int .i64 md0.tagging, .slice A02 md0.names.length c02, .slice A03 md0.types.length c03, .slice A04 md0.nodes.length c04] 30) = v1 at HM0 HKx0 HKv1 ⊢
  generalize u0.heap.size = V0 at HM0 ⊢
  refine (unhide HMO1 _).mono ?_
  rintro e w'1 ⟨rfl, hw1⟩
  subst w'1
  go_wp2_with fail
  refine (unhide HPR1 _ (unhide HKv1)).mono ?_
  rintro e u1 ⟨A12, c12, A13, c13, A14, c14, rfl, hmh, hk⟩
  have HM1 := hide (ModIn.fresh hk hmh (Nat.le_refl _)).at_
  have HKx1 := hide (hk.alloc (.cells #[.string md1.name, .int .i64 md1.tagging, .slice A12 md1.names.length c12, .slice A13 md1.types.length c13, .slice A14 md1.nodes.length c14] 30))
  have HKv2 := hide ((unhide HKv1).trans (unhide HKx1))
  clear hk hmh
  go_wp2_with fail
  generalize u1.alloc (.cells #[.string md1.name, .int .i64 md1.tagging, .slice A12 md1.names.length c12, .slice A13 md1.types.length c13, .slice A14 md1.nodes.length c14] 30) = v2 at HM1 HKx1 HKv2 ⊢
  generalize u1.heap.size = V1 at HM1 ⊢
  refine (unhide HMO2 _).mono ?_
  rintro e w'2 ⟨rfl, hw2⟩
  subst w'2
  go_wp2_with fail
  refine (unhide HPR2 _ (unhide HKv2)).mono ?_
  rintro e u2 ⟨A22, c22, A23, c23, A24, c24, rfl, hmh, hk⟩
  have HM2 := hide (ModIn.fresh hk hmh (Nat.le_refl _)).at_
  have HKx2 := hide (hk.alloc (.cells #[.string md2.name, .int .i64 md2.tagging, .slice A22 md2.names.length c22, .slice A23 md2.types.length c23, .slice A24 md2.nodes.length c24] 30))
  have HKv3 := hide ((unhide HKv2).trans (unhide HKx2))
  clear hk hmh
  go_wp2_with fail
  generalize u2.alloc (.cells #[.string md2.name, .int .i64 md2.tagging, .slice A22 md2.names.length c22, .slice A23 md2.types.length c23, .slice A24 md2.nodes.length c24] 30) = v3 at HM2 HKx2 HKv3 ⊢
  generalize u2.heap.size = V2 at HM2 ⊢
  refine bounds_last (unhide HA) (unhide HKv3) ((unhide HC).keeps (((unhide HKx0).trans (unhide HKx1)).trans (unhide HKx2))) (((unhide HM0).keeps ((unhide HKx1).trans (unhide HKx2))).con (unhide HN0) (unhide HL0) rfl) (((unhide HM1).keeps (unhide HKx2)).con (unhide HN1) (unhide HL1) rfl) ((unhide HM2).con (unhide HN2) (unhide HL2) rfl) (fun _ _ _ _ _ h => h) ?_
  intro y94 y95 y96 y97 y98 y99 y100 y101 y102 y103 y104 y105 y106 y107 y108 y109 y110 y111 y112 y113 y114 y115 y116 y117 y118 y119 y120 y121 y122 y123 y124 y125 y126 y127 y128 y129 y130 y131 y132 y133 y134 y135 y136 y137 y138 y139 y140 y141 y142 y143 y144 y145 y146 y147 y148 y149 y150 y151 z hkz
  have HKz := hide hkz
  clear hkz
  go_wp2
  go_ret
  exact ⟨rfl, unhide HKz⟩
set_option maxRecDepth 100000 in
set_option maxHeartbeats 16000000 in
theorem syntaxBounds_0f {w : World} (hL : LexW w) (a b n : Int) (h0 : -9223372036854775808 ≤ a) (h1 : a ≤ 9223372036854775807) (h2 : -9223372036854775808 ≤ b) (h3 : b ≤ 9223372036854775807) (hm' : wrap64 ((IntKind.u64.wrap n).tmod 5) = 0) : Calls Tryd.prog 3 #[.int .i64 a, .int .i64 b, .int .i64 n, .bool false] w fun e w' => e = .returned (.bool true) ∧ Keeps w w' := by
  have HA := hide (fun (w1 : World) (hk : Keeps w w1) => awake05_any (hL.keeps hk))
  have HNa := hide (fun w => number_help a h0 h1 w)
  have HNb := hide (fun w => number_help b h2 h3 w)
  have HLW := hide hL
  have hsa := num_size a
  have hsb := num_size b
  have hq1 : ¬ 9223372036854775807 < (numB a).size + 2 := by omega
  have hq2 : ¬ 9223372036854775807 < (numB a).size + 2 + (numB b).size := by omega
  have hq3 : ¬ 9223372036854775807 < (numB a).size + 5 := by omega
  have hq4 : ¬ 9223372036854775807 < 5 + (numB b).size := by omega
  have HK0 := hide (Keeps.refl w)
  clear hL
  have hsz := tB_size (num_pc a h0 h1) (num_pc b h2 h3) 0 false
  obtain ⟨md0, hpr0, kd0, o0, r0, hn0, hl0⟩ := bounds_any (unhide HLW) a b h0 h1 h2 h3 0 0 false (by decide) (by decide)
  have HPR0 := hide (fun (w1 : World) (hk : Keeps w w1) => (show Calls Tryd.prog 8 #[.string (⟨#[77, 32, 68, 69, 70, 73, 78, 73, 84, 73, 79, 78, 83, 32, 58, 58, 61, 32, 66, 69, 71, 73, 78, 32, 65, 32, 58, 58, 61, 32]⟩ ++ (⟨#[73, 78, 84, 69, 71, 69, 82, 32, 40]⟩ ++ (numB a ++ ⟨#[46, 46]⟩ ++ numB b) ++ ⟨#[41]⟩) ++ ⟨#[32, 69, 78, 68]⟩)] w1 (GivesM md0 0 0 w1) from hpr0 w1 hk))
  have HMO0 := hide (fun w => module05_any (⟨#[73, 78, 84, 69, 71, 69, 82, 32, 40]⟩ ++ (numB a ++ ⟨#[46, 46]⟩ ++ numB b) ++ ⟨#[41]⟩) w (by have := bndB_size 0 (tB 0 (numB a) (numB b) false); show (bndB 0 (tB 0 (numB a) (numB b) false)).size ≤ _; omega))
  have HN0 := hide hn0
  have HL0 := hide (show r0.length + 1 = 1 by rw [hl0]; rfl)
  clear hpr0 hn0 hl0
  obtain ⟨md1, hpr1, kd1, o1, r1, hn1, hl1⟩ := bounds_any (unhide HLW) a b h0 h1 h2 h3 1 0 false (by decide) (by decide)
  have HPR1 := hide (fun (w1 : World) (hk : Keeps w w1) => (show Calls Tryd.prog 8 #[.string (⟨#[77, 32, 68, 69, 70, 73, 78, 73, 84, 73, 79, 78, 83, 32, 58, 58, 61, 32, 66, 69, 71, 73, 78, 32, 65, 32, 58, 58, 61, 32]⟩ ++ (⟨#[79, 67, 84, 69, 84, 32, 83, 84, 82, 73, 78, 71, 32, 40, 83, 73, 90, 69, 32, 40]⟩ ++ (numB a ++ ⟨#[46, 46]⟩ ++ numB b) ++ ⟨#[41, 41]⟩) ++ ⟨#[32, 69, 78, 68]⟩)] w1 (GivesM md1 0 0 w1) from hpr1 w1 hk))
  have HMO1 := hide (fun w => module05_any (⟨#[79, 67, 84, 69, 84, 32, 83, 84, 82, 73, 78, 71, 32, 40, 83, 73, 90, 69, 32, 40]⟩ ++ (numB a ++ ⟨#[46, 46]⟩ ++ numB b) ++ ⟨#[41, 41]⟩) w (by have := bndB_size 1 (tB 0 (numB a) (numB b) false); show (bndB 1 (tB 0 (numB a) (numB b) false)).size ≤ _; omega))
  have HN1 := hide hn1
  have HL1 := hide (show r1.length + 1 = 1 by rw [hl1]; rfl)
  clear hpr1 hn1 hl1
  obtain ⟨md2, hpr2, kd2, o2, r2, hn2, hl2⟩ := bounds_any (unhide HLW) a b h0 h1 h2 h3 2 0 false (by decide) (by decide)
  have HPR2 := hide (fun (w1 : World) (hk : Keeps w w1) => (show Calls Tryd.prog 8 #[.string (⟨#[77, 32, 68, 69, 70, 73, 78, 73, 84, 73, 79, 78, 83, 32, 58, 58, 61, 32, 66, 69, 71, 73, 78, 32, 65, 32, 58, 58, 61, 32]⟩ ++ (⟨#[83, 69, 81, 85, 69, 78, 67, 69, 32, 40, 83, 73, 90, 69, 32, 40]⟩ ++ (numB a ++ ⟨#[46, 46]⟩ ++ numB b) ++ ⟨#[41, 41, 32, 79, 70, 32, 78, 85, 76, 76]⟩) ++ ⟨#[32, 69, 78, 68]⟩)] w1 (GivesM md2 0 0 w1) from hpr2 w1 hk))
  have HMO2 := hide (fun w => module05_any (⟨#[83, 69, 81, 85, 69, 78, 67, 69, 32, 40, 83, 73, 90, 69, 32, 40]⟩ ++ (numB a ++ ⟨#[46, 46]⟩ ++ numB b) ++ ⟨#[41, 41, 32, 79, 70, 32, 78, 85, 76, 76]⟩) w (by have := bndB_size 2 (tB 0 (numB a) (numB b) false); show (bndB 2 (tB 0 (numB a) (numB b) false)).size ≤ _; omega))
  have HN2 := hide hn2
  have HL2 := hide (show r2.length + 1 = 2 by rw [hl2]; rfl)
  clear hpr2 hn2 hl2
  clear hsz
  go_enter Tryd.func3, Tryd.ntmps3
  go_wp2_with fail
  refine (unhide HNa _).mono ?_
  rintro e n0 ⟨rfl, hk⟩
  have HKn0 := hide ((unhide HK0).trans hk)
  clear hk
  go_wp2_with fail
  refine (unhide HNb _).mono ?_
  rintro e n1 ⟨rfl, hk⟩
  have HKn1 := hide ((unhide HKn0).trans hk)
  clear hk
  go_wp2_with fail
  refine (unhide HNa _).mono ?_
  rintro e n2 ⟨rfl, hk⟩
  have HKn2 := hide ((unhide HKn1).trans hk)
  clear hk
  go_wp2_with fail
  refine (unhide HNa _).mono ?_
  rintro e n3 ⟨rfl, hk⟩
  have HKn3 := hide ((unhide HKn2).trans hk)
  clear hk
  go_wp2_with fail
  refine (unhide HNb _).mono ?_
  rintro e n4 ⟨rfl, hk⟩
  have HKn4 := hide ((unhide HKn3).trans hk)
  clear hk
  go_wp2_with fail
  have hsw : (n4.alloc (.cells #[.string (numB a ++ ⟨#[46, 46]⟩ ++ numB b), .string (numB a), .string (numB a ++ ⟨#[46, 46, 77, 65, 88]⟩), .string (⟨#[77, 73, 78, 46, 46]⟩ ++ numB b), .string ⟨#[77, 73, 78, 46, 46, 77, 65, 88]⟩] 9)).heap.size = n4.heap.size + 1 := World.size_alloc _ _
  have HC := hide (Blk.new (n4.alloc (.cells #[.string (numB a ++ ⟨#[46, 46]⟩ ++ numB b), .string (numB a), .string (numB a ++ ⟨#[46, 46, 77, 65, 88]⟩), .string (⟨#[77, 73, 78, 46, 46]⟩ ++ numB b), .string ⟨#[77, 73, 78, 46, 46, 77, 65, 88]⟩] 9)) 26 #[.bool true, .bool true, .bool true, .bool false, .int .i64 a, .int .i64 b])
  rw [hsw] at HC
  clear hsw
  have HKv0 := hide (show Keeps w ((n4.alloc (.cells #[.string (numB a ++ ⟨#[46, 46]⟩ ++ numB b), .string (numB a), .string (numB a ++ ⟨#[46, 46, 77, 65, 88]⟩), .string (⟨#[77, 73, 78, 46, 46]⟩ ++ numB b), .string ⟨#[77, 73, 78, 46, 46, 77, 65, 88]⟩] 9)).alloc (.cells #[.bool true, .bool true, .bool true, .bool false, .int .i64 a, .int .i64 b] 26)) from ((unhide HKn4).alloc _).alloc _)
  generalize ((n4.alloc (.cells #[.string (numB a ++ ⟨#[46, 46]⟩ ++ numB b), .string (numB a), .string (numB a ++ ⟨#[46, 46, 77, 65, 88]⟩), .string (⟨#[77, 73, 78, 46, 46]⟩ ++ numB b), .string ⟨#[77, 73, 78, 46, 46, 77, 65, 88]⟩] 9)).alloc (.cells #[.bool true, .bool true, .bool true, .bool false, .int .i64 a, .int .i64 b] 26)) = v0 at HC HKv0 ⊢
  generalize n4.heap.size + 1 = Vc at HC ⊢
  refine (unhide HMO0 _).mono ?_
  rintro e w'0 ⟨rfl, hw0⟩
  subst w'0
  go_wp2_with fail
  refine (unhide HPR0 _ (unhide HKv0)).mono ?_
  rintro e u0 ⟨A02, c02, A03, c03, A04, c04, rfl, hmh, hk⟩
  have HM0 := hide (ModIn.fresh hk hmh (Nat.le_refl _)).at_
  have HKx0 := hide (hk.alloc (.cells #[.string md0.name, .int .i64 md0.tagging, .slice A02 md0.names.length c02, .slice A03 md0.types.length c03, .slice A04 md0.nodes.length c04] 30))
  have HKv1 := hide ((unhide HKv0).trans (unhide HKx0))
  clear hk hmh
  go_wp2_with fail
  generalize u0.alloc (.cells #[.string md0.name, .int .i64 md0.tagging, .slice A02 md0.names.length c02, .slice A03 md0.types.length c03, .slice A04 md0.nodes.length c04] 30) = v1 at HM0 HKx0 HKv1 ⊢
  generalize u0.heap.size = V0 at HM0 ⊢
  refine (unhide HMO1 _).mono ?_
  rintro e w'1 ⟨rfl, hw1⟩
  subst w'1
  go_wp2_with fail
  refine (unhide HPR1 _ (unhide HKv1)).mono ?_
  rintro e u1 ⟨A12, c12, A13, c13, A14, c14, rfl, hmh, hk⟩
  have HM1 := hide (ModIn.fresh hk hmh (Nat.le_refl _)).at_
  have HKx1 := hide (hk.alloc (.cells #[.string md1.name, .int .i64 md1.tagging, .slice A12 md1.names.length c12, .slice A13 md1.types.length c13, .slice A14 md1.nodes.length c14] 30))
  have HKv2 := hide ((unhide HKv1).trans (unhide HKx1))
  clear hk hmh
  go_wp2_with fail
  generalize u1.alloc (.cells #[.string md1.name, .int .i64 md1.tagging, .slice A12 md1.names.length c12, .slice A13 md1.types.length c13, .slice A14 md1.nodes.length c14] 30) = v2 at HM1 HKx1 HKv2 ⊢
  generalize u1.heap.size = V1 at HM1 ⊢
  refine (unhide HMO2 _).mono ?_
  rintro e w'2 ⟨rfl, hw2⟩
  subst w'2
  go_wp2_with fail
  refine (unhide HPR2 _ (unhide HKv2)).mono ?_
  rintro e u2 ⟨A22, c22, A23, c23, A24, c24, rfl, hmh, hk⟩
  have HM2 := hide (ModIn.fresh hk hmh (Nat.le_refl _)).at_
  have HKx2 := hide (hk.alloc (.cells #[.string md2.name, .int .i64 md2.tagging, .slice A22 md2.names.length c22, .slice A23 md2.types.length c23, .slice A24 md2.nodes.length c24] 30))
  have HKv3 := hide ((unhide HKv2).trans (unhide HKx2))
  clear hk hmh
  go_wp2_with fail
  generalize u2.alloc (.cells #[.string md2.name, .int .i64 md2.tagging, .slice A22 md2.names.length c22, .slice A23 md2.types.length c23, .slice A24 md2.nodes.length c24] 30) = v3 at HM2 HKx2 HKv3 ⊢
  generalize u2.heap.size = V2 at HM2 ⊢
  refine bounds_last (unhide HA) (unhide HKv3) ((unhide HC).keeps (((unhide HKx0).trans (unhide HKx1)).trans (unhide HKx2))) (((unhide HM0).keeps ((unhide HKx1).trans (unhide HKx2))).con (unhide HN0) (unhide HL0) rfl) (((unhide HM1).keeps (unhide HKx2)).con (unhide HN1) (unhide HL1) rfl) ((unhide HM2).con (unhide HN2) (unhide HL2) rfl) (fun _ _ _ _ _ h => h) ?_
  intro y94 y95 y96 y97 y98 y99 y100 y101 y102 y103 y104 y105 y106 y107 y108 y109 y110 y111 y112 y113 y114 y115 y116 y117 y118 y119 y120 y121 y122 y123 y124 y125 y126 y127 y128 y129 y130 y131 y132 y133 y134 y135 y136 y137 y138 y139 y140 y141 y142 y143 y144 y145 y146 y147 y148 y149 y150 y151 z hkz
  have HKz := hide hkz
  clear hkz
  go_wp2
  go_ret
  exact ⟨rfl, unhide HKz⟩
set_option maxRecDepth 100000 in
set_option maxHeartbeats 16000000 in
theorem syntaxBounds_1t {w : World} (hL : LexW w) (a b n : Int) (h0 : -9223372036854775808 ≤ a) (h1 : a ≤ 9223372036854775807) (h2 : -9223372036854775808 ≤ b) (h3 : b ≤ 9223372036854775807) (hm' : wrap64 ((IntKind.u64.wrap n).tmod 5) = 1) : Calls Tryd.prog 3 #[.int .i64 a, .int .i64 b, .int .i64 n, .bool true] w fun e w' => e = .returned (.bool true) ∧ Keeps w w' := by
  have HA := hide (fun (w1 : World) (hk : Keeps w w1) => awake05_any (hL.keeps hk))
  have HNa := hide (fun w => number_help a h0 h1 w)
  have HNb := hide (fun w => number_help b h2 h3 w)
  have HLW := hide hL
  have hsa := num_size a
  have hsb := num_size b
  have hq1 : ¬ 9223372036854775807 < (numB a).size + 2 := by omega
  have hq2 : ¬ 9223372036854775807 < (numB a).size + 2 + (numB b).size := by omega
  have hq3 : ¬ 9223372036854775807 < (numB a).size + 5 := by omega
  have hq4 : ¬ 9223372036854775807 < 5 + (numB b).size := by omega
  have HK0 := hide (Keeps.refl w)
  clear hL
  have hsz := tB_size (num_pc a h0 h1) (num_pc b h2 h3) 1 true
  obtain ⟨md0, hpr0, kd0, o0, r0, hn0, hl0⟩ := bounds_any (unhide HLW) a b h0 h1 h2 h3 0 1 true (by decide) (by decide)
  have HPR0 := hide (fun (w1 : World) (hk : Keeps w w1) => (show Calls Tryd.prog 8 #[.string (⟨#[77, 32, 68, 69, 70, 73, 78, 73, 84, 73, 79, 78, 83, 32, 58, 58, 61, 32, 66, 69, 71, 73, 78, 32, 65, 32, 58, 58, 61, 32]⟩ ++ (⟨#[73, 78, 84, 69, 71, 69, 82, 32, 40]⟩ ++ (numB a ++ ⟨#[44, 32, 46, 46, 46]⟩) ++ ⟨#[41]⟩) ++ ⟨#[32, 69, 78, 68]⟩)] w1 (GivesM md0 0 0 w1) from hpr0 w1 hk))
  have HMO0 := hide (fun w => module05_any (⟨#[73, 78, 84, 69, 71, 69, 82, 32, 40]⟩ ++ (numB a ++ ⟨#[44, 32, 46, 46, 46]⟩) ++ ⟨#[41]⟩) w (by have := bndB_size 0 (tB 1 (numB a) (numB b) true); show (bndB 0 (tB 1 (numB a) (numB b) true)).size ≤ _; omega))
  have HN0 := hide hn0
  have HL0 := hide (show r0.length + 1 = 1 by rw [hl0]; rfl)
  clear hpr0 hn0 hl0
  obtain ⟨md1, hpr1, kd1, o1, r1, hn1, hl1⟩ := bounds_any (unhide HLW) a b h0 h1 h2 h3 1 1 true (by decide) (by decide)
  have HPR1 := hide (fun (w1 : World) (hk : Keeps w w1) => (show Calls Tryd.prog 8 #[.string (⟨#[77, 32, 68, 69, 70, 73, 78, 73, 84, 73, 79, 78, 83, 32, 58, 58, 61, 32, 66, 69, 71, 73, 78, 32, 65, 32, 58, 58, 61, 32]⟩ ++ (⟨#[79, 67, 84, 69, 84, 32, 83, 84, 82, 73, 78, 71, 32, 40, 83, 73, 90, 69, 32, 40]⟩ ++ (numB a ++ ⟨#[44, 32, 46, 46, 46]⟩) ++ ⟨#[41, 41]⟩) ++ ⟨#[32, 69, 78, 68]⟩)] w1 (GivesM md1 0 0 w1) from hpr1 w1 hk))
  have HMO1 := hide (fun w => module05_any (⟨#[79, 67, 84, 69, 84, 32, 83, 84, 82, 73, 78, 71, 32, 40, 83, 73, 90, 69, 32, 40]⟩ ++ (numB a ++ ⟨#[44, 32, 46, 46, 46]⟩) ++ ⟨#[41, 41]⟩) w (by have := bndB_size 1 (tB 1 (numB a) (numB b) true); show (bndB 1 (tB 1 (numB a) (numB b) true)).size ≤ _; omega))
  have HN1 := hide hn1
  have HL1 := hide (show r1.length + 1 = 1 by rw [hl1]; rfl)
  clear hpr1 hn1 hl1
  obtain ⟨md2, hpr2, kd2, o2, r2, hn2, hl2⟩ := bounds_any (unhide HLW) a b h0 h1 h2 h3 2 1 true (by decide) (by decide)
  have HPR2 := hide (fun (w1 : World) (hk : Keeps w w1) => (show Calls Tryd.prog 8 #[.string (⟨#[77, 32, 68, 69, 70, 73, 78, 73, 84, 73, 79, 78, 83, 32, 58, 58, 61, 32, 66, 69, 71, 73, 78, 32, 65, 32, 58, 58, 61, 32]⟩ ++ (⟨#[83, 69, 81, 85, 69, 78, 67, 69, 32, 40, 83, 73, 90, 69, 32, 40]⟩ ++ (numB a ++ ⟨#[44, 32, 46, 46, 46]⟩) ++ ⟨#[41, 41, 32, 79, 70, 32, 78, 85, 76, 76]⟩) ++ ⟨#[32, 69, 78, 68]⟩)] w1 (GivesM md2 0 0 w1) from hpr2 w1 hk))
  have HMO2 := hide (fun w => module05_any (⟨#[83, 69, 81, 85, 69, 78, 67, 69, 32, 40, 83, 73, 90, 69, 32, 40]⟩ ++ (numB a ++ ⟨#[44, 32, 46, 46, 46]⟩) ++ ⟨#[41, 41, 32, 79, 70, 32, 78, 85, 76, 76]⟩) w (by have := bndB_size 2 (tB 1 (numB a) (numB b) true); show (bndB 2 (tB 1 (numB a) (numB b) true)).size ≤ _; omega))
  have HN2 := hide hn2
  have HL2 := hide (show r2.length + 1 = 2 by rw [hl2]; rfl)
  clear hpr2 hn2 hl2
  clear hsz
  go_enter Tryd.func3, Tryd.ntmps3
  go_wp2_with fail
  refine (unhide HNa _).mono ?_
  rintro e n0 ⟨rfl, hk⟩
  have HKn0 := hide ((unhide HK0).trans hk)
  clear hk
  go_wp2_with fail
  refine (unhide HNb _).mono ?_
  rintro e n1 ⟨rfl, hk⟩
  have HKn1 := hide ((unhide HKn0).trans hk)
  clear hk
  go_wp2_with fail
  refine (unhide HNa _).mono ?_
  rintro e n2 ⟨rfl, hk⟩
  have HKn2 := hide ((unhide HKn1).trans hk)
  clear hk
  go_wp2_with fail
  refine (unhide HNa _).mono ?_
  rintro e n3 ⟨rfl, hk⟩
  have HKn3 := hide ((unhide HKn2).trans hk)
  clear hk
  go_wp2_with fail
  refine (unhide HNb _).mono ?_
  rintro e n4 ⟨rfl, hk⟩
  have HKn4 := hide ((unhide HKn3).trans hk)
  clear hk
  go_wp2_with fail
  have hsw : (n4.alloc (.cells #[.string (numB a ++ ⟨#[46, 46]⟩ ++ numB b), .string (numB a), .string (numB a ++ ⟨#[46, 46, 77, 65, 88]⟩), .string (⟨#[77, 73, 78, 46, 46]⟩ ++ numB b), .string ⟨#[77, 73, 78, 46, 46, 77, 65, 88]⟩] 9)).heap.size = n4.heap.size + 1 := World.size_alloc _ _
  have HC := hide (Blk.new (n4.alloc (.cells #[.string (numB a ++ ⟨#[46, 46]⟩ ++ numB b), .string (numB a), .string (numB a ++ ⟨#[46, 46, 77, 65, 88]⟩), .string (⟨#[77, 73, 78, 46, 46]⟩ ++ numB b), .string ⟨#[77, 73, 78, 46, 46, 77, 65, 88]⟩] 9)) 26 #[.bool true, .bool true, .bool true, .bool true, .int .i64 a, .int .i64 a])
  rw [hsw] at HC
  clear hsw
  have HKv0 := hide (show Keeps w ((n4.alloc (.cells #[.string (numB a ++ ⟨#[46, 46]⟩ ++ numB b), .string (numB a), .string (numB a ++ ⟨#[46, 46, 77, 65, 88]⟩), .string (⟨#[77, 73, 78, 46, 46]⟩ ++ numB b), .string ⟨#[77, 73, 78, 46, 46, 77, 65, 88]⟩] 9)).alloc (.cells #[.bool true, .bool true, .bool true, .bool true, .int .i64 a, .int .i64 a] 26)) from ((unhide HKn4).alloc _).alloc _)
  generalize ((n4.alloc (.cells #[.string (numB a ++ ⟨#[46, 46]⟩ ++ numB b), .string (numB a), .string (numB a ++ ⟨#[46, 46, 77, 65, 88]⟩), .string (⟨#[77, 73, 78, 46, 46]⟩ ++ numB b), .string ⟨#[77, 73, 78, 46, 46, 77, 65, 88]⟩] 9)).alloc (.cells #[.bool true, .bool true, .bool true, .bool true, .int .i64 a, .int .i64 a] 26)) = v0 at HC HKv0 ⊢
  generalize n4.heap.size + 1 = Vc at HC ⊢
  refine (unhide HMO0 _).mono ?_
  rintro e w'0 ⟨rfl, hw0⟩
  subst w'0
  go_wp2_with fail
  refine (unhide HPR0 _ (unhide HKv0)).mono ?_
  rintro e u0 ⟨A02, c02, A03, c03, A04, c04, rfl, hmh, hk⟩
  have HM0 := hide (ModIn.fresh hk hmh (Nat.le_refl _)).at_
  have HKx0 := hide (hk.alloc (.cells #[.string md0.name, .int .i64 md0.tagging, .slice A02 md0.names.length c02, .slice A03 md0.types.length c03, .slice A04 md0.nodes.length c04] 30))
  have HKv1 := hide ((unhide HKv0).trans (unhide HKx0))
  clear hk hmh
  go_wp2_with fail
  generalize u0.alloc (.cells #[.string md0.name, .int .i64 md0.tagging, .slice A02 md0.names.length c02, .slice A03 md0.types.length c03, .slice A04 md0.nodes.length c04] 30) = v1 at HM0 HKx0 HKv1 ⊢
  generalize u0.heap.size = V0 at HM0 ⊢
  refine (unhide HMO1 _).mono ?_
  rintro e w'1 ⟨rfl, hw1⟩
  subst w'1
  go_wp2_with fail
  refine (unhide HPR1 _ (unhide HKv1)).mono ?_
  rintro e u1 ⟨A12, c12, A13, c13, A14, c14, rfl, hmh, hk⟩
  have HM1 := hide (ModIn.fresh hk hmh (Nat.le_refl _)).at_
  have HKx1 := hide (hk.alloc (.cells #[.string md1.name, .int .i64 md1.tagging, .slice A12 md1.names.length c12, .slice A13 md1.types.length c13, .slice A14 md1.nodes.length c14] 30))
  have HKv2 := hide ((unhide HKv1).trans (unhide HKx1))
  clear hk hmh
  go_wp2_with fail
  generalize u1.alloc (.cells #[.string md1.name, .int .i64 md1.tagging, .slice A12 md1.names.length c12, .slice A13 md1.types.length c13, .slice A14 md1.nodes.length c14] 30) = v2 at HM1 HKx1 HKv2 ⊢
  generalize u1.heap.size = V1 at HM1 ⊢
  refine (unhide HMO2 _).mono ?_
  rintro e w'2 ⟨rfl, hw2⟩
  subst w'2
  go_wp2_with fail
  refine (unhide HPR2 _ (unhide HKv2)).mono ?_
  rintro e u2 ⟨A22, c22, A23, c23, A24, c24, rfl, hmh, hk⟩
  have HM2 := hide (ModIn.fresh hk hmh (Nat.le_refl _)).at_
  have HKx2 := hide (hk.alloc (.cells #[.string md2.name, .int .i64 md2.tagging, .slice A22 md2.names.length c22, .slice A23 md2.types.length c23, .slice A24 md2.nodes.length c24] 30))
  have HKv3 := hide ((unhide HKv2).trans (unhide HKx2))
  clear hk hmh
  go_wp2_with fail
  generalize u2.alloc (.cells #[.string md2.name, .int .i64 md2.tagging, .slice A22 md2.names.length c22, .slice A23 md2.types.length c23, .slice A24 md2.nodes.length c24] 30) = v3 at HM2 HKx2 HKv3 ⊢
  generalize u2.heap.size = V2 at HM2 ⊢
  refine bounds_last (unhide HA) (unhide HKv3) ((unhide HC).keeps (((unhide HKx0).trans (unhide HKx1)).trans (unhide HKx2))) (((unhide HM0).keeps ((unhide HKx1).trans (unhide HKx2))).con (unhide HN0) (unhide HL0) rfl) (((unhide HM1).keeps (unhide HKx2)).con (unhide HN1) (unhide HL1) rfl) ((unhide HM2).con (unhide HN2) (unhide HL2) rfl) (fun _ _ _ _ _ h => h) ?_
  intro y94 y95 y96 y97 y98 y99 y100 y101 y102 y103 y104 y105 y106 y107 y108 y109 y110 y111 y112 y113 y114 y115 y116 y117 y118 y119 y120 y121 y122 y123 y124 y125 y126 y127 y128 y129 y130 y131 y132 y133 y134 y135 y136 y137 y138 y139 y140 y141 y142 y143 y144 y145 y146 y147 y148 y149 y150 y151 z hkz
  have HKz := hide hkz
  clear hkz
  go_wp2
  go_ret
  exact ⟨rfl, unhide HKz⟩
set_option maxRecDepth 100000 in
set_option maxHeartbeats 16000000 in
theorem syntaxBounds_1f {w : World} (hL : LexW w) (a b n : Int) (h0 : -9223372036854775808 ≤ a) (h1 : a ≤ 9223372036854775807) (h2 : -9223372036854775808 ≤ b) (h3 : b ≤ 9223372036854775807) (hm' : wrap64 ((IntKind.u64.wrap n).tmod 5) = 1) : Calls Tryd.prog 3 #[.int .i64 a, .int .i64 b, .int .i64 n, .bool false] w fun e w' => e = .returned (.bool true) ∧ Keeps w w' := by
  have HA := hide (fun (w1 : World) (hk : Keeps w w1) => awake05_any (hL.keeps hk))
  have HNa := hide (fun w => number_help a h0 h1 w)
  have HNb := hide (fun w => number_help b h2 h3 w)
  have HLW := hide hL
  have hsa := num_size a
  have hsb := num_size b
  have hq1 : ¬ 9223372036854775807 < (numB a).size + 2 := by omega
  have hq2 : ¬ 9223372036854775807 < (numB a).size + 2 + (numB b).size := by omega
  have hq3 : ¬ 9223372036854775807 < (numB a).size + 5 := by omega
  have hq4 : ¬ 9223372036854775807 < 5 + (numB b).size := by omega
  have HK0 := hide (Keeps.refl w)
  clear hL
  have hsz := tB_size (num_pc a h0 h1) (num_pc b h2 h3) 1 false
  obtain ⟨md0, hpr0, kd0, o0, r0, hn0, hl0⟩ := bounds_any (unhide HLW) a b h0 h1 h2 h3 0 1 false (by decide) (by decide)
  have HPR0 := hide (fun (w1 : World) (hk : Keeps w w1) => (show Calls Tryd.prog 8 #[.string (⟨#[77, 32, 68, 69, 70, 73, 78, 73, 84, 73, 79, 78, 83, 32, 58, 58, 61, 32, 66, 69, 71, 73, 78, 32, 65, 32, 58, 58, 61, 32]⟩ ++ (⟨#[73, 78, 84, 69, 71, 69, 82, 32, 40]⟩ ++ (numB a) ++ ⟨#[41]⟩) ++ ⟨#[32, 69, 78, 68]⟩)] w1 (GivesM md0 0 0 w1) from hpr0 w1 hk))
  have HMO0 := hide (fun w => module05_any (⟨#[73, 78, 84, 69, 71, 69, 82, 32, 40]⟩ ++ (numB a) ++ ⟨#[41]⟩) w (by have := bndB_size 0 (tB 1 (numB a) (numB b) false); show (bndB 0 (tB 1 (numB a) (numB b) false)).size ≤ _; omega))
  have HN0 := hide hn0
  have HL0 := hide (show r0.length + 1 = 1 by rw [hl0]; rfl)
  clear hpr0 hn0 hl0
  obtain ⟨md1, hpr1, kd1, o1, r1, hn1, hl1⟩ := bounds_any (unhide HLW) a b h0 h1 h2 h3 1 1 false (by decide) (by decide)
  have HPR1 := hide (fun (w1 : World) (hk : Keeps w w1) => (show Calls Tryd.prog 8 #[.string (⟨#[77, 32, 68, 69, 70, 73, 78, 73, 84, 73, 79, 78, 83, 32, 58, 58, 61, 32, 66, 69, 71, 73, 78, 32, 65, 32, 58, 58, 61, 32]⟩ ++ (⟨#[79, 67, 84, 69, 84, 32, 83, 84, 82, 73, 78, 71, 32, 40, 83, 73, 90, 69, 32, 40]⟩ ++ (numB a) ++ ⟨#[41, 41]⟩) ++ ⟨#[32, 69, 78, 68]⟩)] w1 (GivesM md1 0 0 w1) from hpr1 w1 hk))
  have HMO1 := hide (fun w => module05_any (⟨#[79, 67, 84, 69, 84, 32, 83, 84, 82, 73, 78, 71, 32, 40, 83, 73, 90, 69, 32, 40]⟩ ++ (numB a) ++ ⟨#[41, 41]⟩) w (by have := bndB_size 1 (tB 1 (numB a) (numB b) false); show (bndB 1 (tB 1 (numB a) (numB b) false)).size ≤ _; omega))
  have HN1 := hide hn1
  have HL1 := hide (show r1.length + 1 = 1 by rw [hl1]; rfl)
  clear hpr1 hn1 hl1
  obtain ⟨md2, hpr2, kd2, o2, r2, hn2, hl2⟩ := bounds_any (unhide HLW) a b h0 h1 h2 h3 2 1 false (by decide) (by decide)
  have HPR2 := hide (fun (w1 : World) (hk : Keeps w w1) => (show Calls Tryd.prog 8 #[.string (⟨#[77, 32, 68, 69, 70, 73, 78, 73, 84, 73, 79, 78, 83, 32, 58, 58, 61, 32, 66, 69, 71, 73, 78, 32, 65, 32, 58, 58, 61, 32]⟩ ++ (⟨#[83, 69, 81, 85, 69, 78, 67, 69, 32, 40, 83, 73, 90, 69, 32, 40]⟩ ++ (numB a) ++ ⟨#[41, 41, 32, 79, 70, 32, 78, 85, 76, 76]⟩) ++ ⟨#[32, 69, 78, 68]⟩)] w1 (GivesM md2 0 0 w1) from hpr2 w1 hk))
  have HMO2 := hide (fun w => module05_any (⟨#[83, 69, 81, 85, 69, 78, 67, 69, 32, 40, 83, 73, 90, 69, 32, 40]⟩ ++ (numB a) ++ ⟨#[41, 41, 32, 79, 70, 32, 78, 85, 76, 76]⟩) w (by have := bndB_size 2 (tB 1 (numB a) (numB b) false); show (bndB 2 (tB 1 (numB a) (numB b) false)).size ≤ _; omega))
  have HN2 := hide hn2
  have HL2 := hide (show r2.length + 1 = 2 by rw [hl2]; rfl)
  clear hpr2 hn2 hl2
  clear hsz
  go_enter Tryd.func3, Tryd.ntmps3
  go_wp2_with fail
  refine (unhide HNa _).mono ?_
  rintro e n0 ⟨rfl, hk⟩
  have HKn0 := hide ((unhide HK0).trans hk)
  clear hk
  go_wp2_with fail
  refine (unhide HNb _).mono ?_
  rintro e n1 ⟨rfl, hk⟩
  have HKn1 := hide ((unhide HKn0).trans hk)
  clear hk
  go_wp2_with fail
  refine (unhide HNa _).mono ?_
  rintro e n2 ⟨rfl, hk⟩
  have HKn2 := hide ((unhide HKn1).trans hk)
  clear hk
  go_wp2_with fail
  refine (unhide HNa _).mono ?_
  rintro e n3 ⟨rfl, hk⟩
  have HKn3 := hide ((unhide HKn2).trans hk)
  clear hk
  go_wp2_with fail
  refine (unhide HNb _).mono ?_
  rintro e n4 ⟨rfl, hk⟩
  have HKn4 := hide ((unhide HKn3).trans hk)
  clear hk
  go_wp2_with fail
  have hsw : (n4.alloc (.cells #[.string (numB a ++ ⟨#[46, 46]⟩ ++ numB b), .string (numB a), .string (numB a ++ ⟨#[46, 46, 77, 65, 88]⟩), .string (⟨#[77, 73, 78, 46, 46]⟩ ++ numB b), .string ⟨#[77, 73, 78, 46, 46, 77, 65, 88]⟩] 9)).heap.size = n4.heap.size + 1 := World.size_alloc _ _
  have HC := hide (Blk.new (n4.alloc (.cells #[.string (numB a ++ ⟨#[46, 46]⟩ ++ numB b), .string (numB a), .string (numB a ++ ⟨#[46, 46, 77, 65, 88]⟩), .string (⟨#[77, 73, 78, 46, 46]⟩ ++ numB b), .string ⟨#[77, 73, 78, 46, 46, 77, 65, 88]⟩] 9)) 26 #[.bool true, .bool true, .bool true, .bool false, .int .i64 a, .int .i64 a])
  rw [hsw] at HC
  clear hsw
  have HKv0 := hide (show Keeps w ((n4.alloc (.cells #[.string (numB a ++ ⟨#[46, 46]⟩ ++ numB b), .string (numB a), .string (numB a ++ ⟨#[46, 46, 77, 65, 88]⟩), .string (⟨#[77, 73, 78, 46, 46]⟩ ++ numB b), .string ⟨#[77, 73, 78, 46, 46, 77, 65, 88]⟩] 9)).alloc (.cells #[.bool true, .bool true, .bool true, .bool false, .int .i64 a, .int .i64 a] 26)) from ((unhide HKn4).alloc _).alloc _)
  generalize ((n4.alloc (.cells #[.string (numB a ++ ⟨#[46, 46]⟩ ++ numB b), .string (numB a), .string (numB a ++ ⟨#[46, 46, 77, 65, 88]⟩), .string (⟨#[77, 73, 78, 46, 46]⟩ ++ numB b), .string ⟨#[77, 73, 78, 46, 46, 77, 65, 88]⟩] 9)).alloc (.cells #[.bool true, .bool true, .bool true, .bool false, .int .i64 a, .int .i64 a] 26)) = v0 at HC HKv0 ⊢
  generalize n4.heap.size + 1 = Vc at HC ⊢
  refine (unhide HMO0 _).mono ?_
  rintro e w'0 ⟨rfl, hw0⟩
  subst w'0
  go_wp2_with fail
  refine (unhide HPR0 _ (unhide HKv0)).mono ?_
  rintro e u0 ⟨A02, c02, A03, c03, A04, c04, rfl, hmh, hk⟩
  have HM0 := hide (ModIn.fresh hk hmh (Nat.le_refl _)).at_
  have HKx0 := hide (hk.alloc (.cells #[.string md0.name, .int .i64 md0.tagging, .slice A02 md0.names.length c02, .slice A03 md0.types.length c03, .slice A04 md0.nodes.length c04] 30))
  have HKv1 := hide ((unhide HKv0).trans (unhide HKx0))
  clear hk hmh
  go_wp2_with fail
  generalize u0.alloc (.cells #[.string md0.name, .int .i64 md0.tagging, .slice A02 md0.names.length c02, .slice A03 md0.types.length c03, .slice A04 md0.nodes.length c04] 30) = v1 at HM0 HKx0 HKv1 ⊢
  generalize u0.heap.size = V0 at HM0 ⊢
  refine (unhide HMO1 _).mono ?_
  rintro e w'1 ⟨rfl, hw1⟩
  subst w'1
  go_wp2_with fail
  refine (unhide HPR1 _ (unhide HKv1)).mono ?_
  rintro e u1 ⟨A12, c12, A13, c13, A14, c14, rfl, hmh, hk⟩
  have HM1 := hide (ModIn.fresh hk hmh (Nat.le_refl _)).at_
  have HKx1 := hide (hk.alloc (.cells #[.string md1.name, .int .i64 md1.tagging, .slice A12 md1.names.length c12, .slice A13 md1.types.length c13, .slice A14 md1.nodes.length c14] 30))
  have HKv2 := hide ((unhide HKv1).trans (unhide HKx1))
  clear hk hmh
  go_wp2_with fail
  generalize u1.alloc (.cells #[.string md1.name, .int .i64 md1.tagging, .slice A12 md1.names.length c12, .slice A13 md1.types.length c13, .slice A14 md1.nodes.length c14] 30) = v2 at HM1 HKx1 HKv2 ⊢
  generalize u1.heap.size = V1 at HM1 ⊢
  refine (unhide HMO2 _).mono ?_
  rintro e w'2 ⟨rfl, hw2⟩
  subst w'2
  go_wp2_with fail
  refine (unhide HPR2 _ (unhide HKv2)).mono ?_
  rintro e u2 ⟨A22, c22, A23, c23, A24, c24, rfl, hmh, hk⟩
  have HM2 := hide (ModIn.fresh hk hmh (Nat.le_refl _)).at_
  have HKx2 := hide (hk.alloc (.cells #[.string md2.name, .int .i64 md2.tagging, .slice A22 md2.names.length c22, .slice A23 md2.types.length c23, .slice A24 md2.nodes.length c24] 30))
  have HKv3 := hide ((unhide HKv2).trans (unhide HKx2))
  clear hk hmh
  go_wp2_with fail
  generalize u2.alloc (.cells #[.string md2.name, .int .i64 md2.tagging, .slice A22 md2.names.length c22, .slice A23 md2.types.length c23, .slice A24 md2.nodes.length c24] 30) = v3 at HM2 HKx2 HKv3 ⊢
  generalize u2.heap.size = V2 at HM2 ⊢
  refine bounds_last (unhide HA) (unhide HKv3) ((unhide HC).keeps (((unhide HKx0).trans (unhide HKx1)).trans (unhide HKx2))) (((unhide HM0).keeps ((unhide HKx1).trans (unhide HKx2))).con (unhide HN0) (unhide HL0) rfl) (((unhide HM1).keeps (unhide HKx2)).con (unhide HN1) (unhide HL1) rfl) ((unhide HM2).con (unhide HN2) (unhide HL2) rfl) (fun _ _ _ _ _ h => h) ?_
  intro y94 y95 y96 y97 y98 y99 y100 y101 y102 y103 y104 y105 y106 y107 y108 y109 y110 y111 y112 y113 y114 y115 y116 y117 y118 y119 y120 y121 y122 y123 y124 y125 y126 y127 y128 y129 y130 y131 y132 y133 y134 y135 y136 y137 y138 y139 y140 y141 y142 y143 y144 y145 y146 y147 y148 y149 y150 y151 z hkz
  have HKz := hide hkz
  clear hkz
  go_wp2
  go_ret
  exact ⟨rfl, unhide HKz⟩
set_option maxRecDepth 100000 in
set_option maxHeartbeats 16000000 in
theorem syntaxBounds_2t {w : World} (hL : LexW w) (a b n : Int) (h0 : -9223372036854775808 ≤ a) (h1 : a ≤ 9223372036854775807) (h2 : -9223372036854775808 ≤ b) (h3 : b ≤ 9223372036854775807) (hm' : wrap64 ((IntKind.u64.wrap n).tmod 5) = 2) : Calls Tryd.prog 3 #[.int .i64 a, .int .i64 b, .int .i64 n, .bool true] w fun e w' => e = .returned (.bool true) ∧ Keeps w w' := by
  have HA := hide (fun (w1 : World) (hk : Keeps w w1) => awake05_any (hL.keeps hk))
  have HNa := hide (fun w => number_help a h0 h1 w)
  have HNb := hide (fun w => number_help b h2 h3 w)
  have HLW := hide hL
  have hsa := num_size a
  have hsb := num_size b
  have hq1 : ¬ 9223372036854775807 < (numB a).size + 2 := by omega
  have hq2 : ¬ 9223372036854775807 < (numB a).size + 2 + (numB b).size := by omega
  have hq3 : ¬ 9223372036854775807 < (numB a).size + 5 := by omega
  have hq4 : ¬ 9223372036854775807 < 5 + (numB b).size := by omega
  have HK0 := hide (Keeps.refl w)
  clear hL
  have hsz := tB_size (num_pc a h0 h1) (num_pc b h2 h3) 2 true
  obtain ⟨md0, hpr0, kd0, o0, r0, hn0, hl0⟩ := bounds_any (unhide HLW) a b h0 h1 h2 h3 0 2 true (by decide) (by decide)
  have HPR0 := hide (fun (w1 : World) (hk : Keeps w w1) => (show Calls Tryd.prog 8 #[.string (⟨#[77, 32, 68, 69, 70, 73, 78, 73, 84, 73, 79, 78, 83, 32, 58, 58, 61, 32, 66, 69, 71, 73, 78, 32, 65, 32, 58, 58, 61, 32]⟩ ++ (⟨#[73, 78, 84, 69, 71, 69, 82, 32, 40]⟩ ++ (numB a ++ ⟨#[46, 46, 77, 65, 88]⟩ ++ ⟨#[44, 32, 46, 46, 46]⟩) ++ ⟨#[41]⟩) ++ ⟨#[32, 69, 78, 68]⟩)] w1 (GivesM md0 0 0 w1) from hpr0 w1 hk))
  have HMO0 := hide (fun w => module05_any (⟨#[73, 78, 84, 69, 71, 69, 82, 32, 40]⟩ ++ (numB a ++ ⟨#[46, 46, 77, 65, 88]⟩ ++ ⟨#[44, 32, 46, 46, 46]⟩) ++ ⟨#[41]⟩) w (by have := bndB_size 0 (tB 2 (numB a) (numB b) true); show (bndB 0 (tB 2 (numB a) (numB b) true)).size ≤ _; omega))
  have HN0 := hide hn0
  have HL0 := hide (show r0.length + 1 = 1 by rw [hl0]; rfl)
  clear hpr0 hn0 hl0
  obtain ⟨md1, hpr1, kd1, o1, r1, hn1, hl1⟩ := bounds_any (unhide HLW) a b h0 h1 h2 h3 1 2 true (by decide) (by decide)
  have HPR1 := hide (fun (w1 : World) (hk : Keeps w w1) => (show Calls Tryd.prog 8 #[.string (⟨#[77, 32, 68, 69, 70, 73, 78, 73, 84, 73, 79, 78, 83, 32, 58, 58, 61, 32, 66, 69, 71, 73, 78, 32, 65, 32, 58, 58, 61, 32]⟩ ++ (⟨#[79, 67, 84, 69, 84, 32, 83, 84, 82, 73, 78, 71, 32, 40, 83, 73, 90, 69, 32, 40]⟩ ++ (numB a ++ ⟨#[46, 46, 77, 65, 88]⟩ ++ ⟨#[44, 32, 46, 46, 46]⟩) ++ ⟨#[41, 41]⟩) ++ ⟨#[32, 69, 78, 68]⟩)] w1 (GivesM md1 0 0 w1) from hpr1 w1 hk))
  have HMO1 := hide (fun w => module05_any (⟨#[79, 67, 84, 69, 84, 32, 83, 84, 82, 73, 78, 71, 32, 40, 83, 73, 90, 69, 32, 40]⟩ ++ (numB a ++ ⟨#[46, 46, 77, 65, 88]⟩ ++ ⟨#[44, 32, 46, 46, 46]⟩) ++ ⟨#[41, 41]⟩) w (by have := bndB_size 1 (tB 2 (numB a) (numB b) true); show (bndB 1 (tB 2 (numB a) (numB b) true)).size ≤ _; omega))
  have HN1 := hide hn1
  have HL1 := hide (show r1.length + 1 = 1 by rw [hl1]; rfl)
  clear hpr1 hn1 hl1
  obtain ⟨md2, hpr2, kd2, o2, r2, hn2, hl2⟩ := bounds_any (unhide HLW) a b h0 h1 h2 h3 2 2 true (by decide) (by decide)
  have HPR2 := hide (fun (w1 : World) (hk : Keeps w w1) => (show Calls Tryd.prog 8 #[.string (⟨#[77, 32, 68, 69, 70, 73, 78, 73, 84, 73, 79, 78, 83, 32, 58, 58, 61, 32, 66, 69, 71, 73, 78, 32, 65, 32, 58, 58, 61, 32]⟩ ++ (⟨#[83, 69, 81, 85, 69, 78, 67, 69, 32, 40, 83, 73, 90, 69, 32, 40]⟩ ++ (numB a ++ ⟨#[46, 46, 77, 65, 88]⟩ ++ ⟨#[44, 32, 46, 46, 46]⟩) ++ ⟨#[41, 41, 32, 79, 70, 32, 78, 85, 76, 76]⟩) ++ ⟨#[32, 69, 78, 68]⟩)] w1 (GivesM md2 0 0 w1) from hpr2 w1 hk))
  have HMO2 := hide (fun w => module05_any (⟨#[83, 69, 81, 85, 69, 78, 67, 69, 32, 40, 83, 73, 90, 69, 32, 40]⟩ ++ (numB a ++ ⟨#[46, 46, 77, 65, 88]⟩ ++ ⟨#[44, 32, 46, 46, 46]⟩) ++ ⟨#[41, 41, 32, 79, 70, 32, 78, 85, 76, 76]⟩) w (by have := bndB_size 2 (tB 2 (numB a) (numB b) true); show (bndB 2 (tB 2 (numB a) (numB b) true)).size ≤ _; omega))
  have HN2 := hide hn2
  have HL2 := hide (show r2.length + 1 = 2 by rw [hl2]; rfl)
  clear hpr2 hn2 hl2
  clear hsz
  go_enter Tryd.func3, Tryd.ntmps3
  go_wp2_with fail
  refine (unhide HNa _).mono ?_
  rintro e n0 ⟨rfl, hk⟩
  have HKn0 := hide ((unhide HK0).trans hk)
  clear hk
  go_wp2_with fail
  refine (unhide HNb _).mono ?_
  rintro e n1 ⟨rfl, hk⟩
  have HKn1 := hide ((unhide HKn0).trans hk)
  clear hk
  go_wp2_with fail
  refine (unhide HNa _).mono ?_
  rintro e n2 ⟨rfl, hk⟩
  have HKn2 := hide ((unhide HKn1).trans hk)
  clear hk
  go_wp2_with fail
  refine (unhide HNa _).mono ?_
  rintro e n3 ⟨rfl, hk⟩
  have HKn3 := hide ((unhide HKn2).trans hk)
  clear hk
  go_wp2_with fail
  refine (unhide HNb _).mono ?_
  rintro e n4 ⟨rfl, hk⟩
  have HKn4 := hide ((unhide HKn3).trans hk)
  clear hk
  go_wp2_with fail
  have hsw : (n4.alloc (.cells #[.string (numB a ++ ⟨#[46, 46]⟩ ++ numB b), .string (numB a), .string (numB a ++ ⟨#[46, 46, 77, 65, 88]⟩), .string (⟨#[77, 73, 78, 46, 46]⟩ ++ numB b), .string ⟨#[77, 73, 78, 46, 46, 77, 65, 88]⟩] 9)).heap.size = n4.heap.size + 1 := World.size_alloc _ _
  have HC := hide (Blk.new (n4.alloc (.cells #[.string (numB a ++ ⟨#[46, 46]⟩ ++ numB b), .string (numB a), .string (numB a ++ ⟨#[46, 46, 77, 65, 88]⟩), .string (⟨#[77, 73, 78, 46, 46]⟩ ++ numB b), .string ⟨#[77, 73, 78, 46, 46, 77, 65, 88]⟩] 9)) 26 #[.bool true, .bool true, .bool false, .bool true, .int .i64 a, .int .i64 0])
  rw [hsw] at HC
  clear hsw
  have HKv0 := hide (show Keeps w ((n4.alloc (.cells #[.string (numB a ++ ⟨#[46, 46]⟩ ++ numB b), .string (numB a), .string (numB a ++ ⟨#[46, 46, 77, 65, 88]⟩), .string (⟨#[77, 73, 78, 46, 46]⟩ ++ numB b), .string ⟨#[77, 73, 78, 46, 46, 77, 65, 88]⟩] 9)).alloc (.cells #[.bool true, .bool true, .bool false, .bool true, .int .i64 a, .int .i64 0] 26)) from ((unhide HKn4).alloc _).alloc _)
  generalize ((n4.alloc (.cells #[.string (numB a ++ ⟨#[46, 46]⟩ ++ numB b), .string (numB a), .string (numB a ++ ⟨#[46, 46, 77, 65, 88]⟩), .string (⟨#[77, 73, 78, 46, 46]⟩ ++ numB b), .string ⟨#[77, 73, 78, 46, 46, 77, 65, 88]⟩] 9)).alloc (.cells #[.bool true, .bool true, .bool false, .bool true, .int .i64 a, .int .i64 0] 26)) = v0 at HC HKv0 ⊢
  generalize n4.heap.size + 1 = Vc at HC ⊢
  refine (unhide HMO0 _).mono ?_
  rintro e w'0 ⟨rfl, hw0⟩
  subst w'0
  go_wp2_with fail
  refine (unhide HPR0 _ (unhide HKv0)).mono ?_
  rintro e u0 ⟨A02, c02, A03, c03, A04, c04, rfl, hmh, hk⟩
  have HM0 := hide (ModIn.fresh hk hmh (Nat.le_refl _)).at_
  have HKx0 := hide (hk.alloc (.cells #[.string md0.name, .int .i64 md0.tagging, .slice A02 md0.names.length c02, .slice A03 md0.types.length c03, .slice A04 md0.nodes.length c04] 30))
  have HKv1 := hide ((unhide HKv0).trans (unhide HKx0))
  clear hk hmh
  go_wp2_with fail
  generalize u0.alloc (.cells #[.string md0.name, .int .i64 md0.tagging, .slice A02 md0.names.length c02, .slice A03 md0.types.length c03, .slice A04 md0.nodes.length c04] 30) = v1 at HM0 HKx0 HKv1 ⊢
  generalize u0.heap.size = V0 at HM0 ⊢
  refine (unhide HMO1 _).mono ?_
  rintro e w'1 ⟨rfl, hw1⟩
  subst w'1
  go_wp2_with fail
  refine (unhide HPR1 _ (unhide HKv1)).mono ?_
  rintro e u1 ⟨A12, c12, A13, c13, A14, c14, rfl, hmh, hk⟩
  have HM1 := hide (ModIn.fresh hk hmh (Nat.le_refl _)).at_
  have HKx1 := hide (hk.alloc (.cells #[.string md1.name, .int .i64 md1.tagging, .slice A12 md1.names.length c12, .slice A13 md1.types.length c13, .slice A14 md1.nodes.length c14] 30))
  have HKv2 := hide ((unhide HKv1).trans (unhide HKx1))
  clear hk hmh
  go_wp2_with fail
  generalize u1.alloc (.cells #[.string md1.name, .int .i64 md1.tagging, .slice A12 md1.names.length c12, .slice A13 md1.types.length c13, .slice A14 md1.nodes.length c14] 30) = v2 at HM1 HKx1 HKv2 ⊢
  generalize u1.heap.size = V1 at HM1 ⊢
  refine (unhide HMO2 _).mono ?_
  rintro e w'2 ⟨rfl, hw2⟩
  subst w'2
  go_wp2_with fail
  refine (unhide HPR2 _ (unhide HKv2)).mono ?_
  rintro e u2 ⟨A22, c22, A23, c23, A24, c24, rfl, hmh, hk⟩
  have HM2 := hide (ModIn.fresh hk hmh (Nat.le_refl _)).at_
  have HKx2 := hide (hk.alloc (.cells #[.string md2.name, .int .i64 md2.tagging, .slice A22 md2.names.length c22, .slice A23 md2.types.length c23, .slice A24 md2.nodes.length c24] 30))
  have HKv3 := hide ((unhide HKv2).trans (unhide HKx2))
  clear hk hmh
  go_wp2_with fail
  generalize u2.alloc (.cells #[.string md2.name, .int .i64 md2.tagging, .slice A22 md2.names.length c22, .slice A23 md2.types.length c23, .slice A24 md2.nodes.length c24] 30) = v3 at HM2 HKx2 HKv3 ⊢
  generalize u2.heap.size = V2 at HM2 ⊢
  refine bounds_last (unhide HA) (unhide HKv3) ((unhide HC).keeps (((unhide HKx0).trans (unhide HKx1)).trans (unhide HKx2))) (((unhide HM0).keeps ((unhide HKx1).trans (unhide HKx2))).con (unhide HN0) (unhide HL0) rfl) (((unhide HM1).keeps (unhide HKx2)).con (unhide HN1) (unhide HL1) rfl) ((unhide HM2).con (unhide HN2) (unhide HL2) rfl) (fun _ _ _ _ _ h => h) ?_
  intro y94 y95 y96 y97 y98 y99 y100 y101 y102 y103 y104 y105 y106 y107 y108 y109 y110 y111 y112 y113 y114 y115 y116 y117 y118 y119 y120 y121 y122 y123 y124 y125 y126 y127 y128 y129 y130 y131 y132 y133 y134 y135 y136 y137 y138 y139 y140 y141 y142 y143 y144 y145 y146 y147 y148 y149 y150 y151 z hkz
  have HKz := hide hkz
  clear hkz
  go_wp2
  go_ret
  exact ⟨rfl, unhide HKz⟩
set_option maxRecDepth 100000 in
set_option maxHeartbeats 16000000 in
theorem syntaxBounds_2f {w : World} (hL : LexW w) (a b n : Int) (h0 : -9223372036854775808 ≤ a) (h1 : a ≤ 9223372036854775807) (h2 : -9223372036854775808 ≤ b) (h3 : b ≤ 9223372036854775807) (hm' : wrap64 ((IntKind.u64.wrap n).tmod 5) = 2) : Calls Tryd.prog 3 #[.int .i64 a, .int .i64 b, .int .i64 n, .bool false] w fun e w' => e = .returned (.bool true) ∧ Keeps w w' := by
  have HA := hide (fun (w1 : World) (hk : Keeps w w1) => awake05_any (hL.keeps hk))
  have HNa := hide (fun w => number_help a h0 h1 w)
  have HNb := hide (fun w => number_help b h2 h3 w)
  have HLW := hide hL
  have hsa := num_size a
  have hsb := num_size b
  have hq1 : ¬ 9223372036854775807 < (numB a).size + 2 := by omega
  have hq2 : ¬ 9223372036854775807 < (numB a).size + 2 + (numB b).size := by omega
  have hq3 : ¬ 9223372036854775807 < (numB a).size + 5 := by omega
  have hq4 : ¬ 9223372036854775807 < 5 + (numB b).size := by omega
  have HK0 := hide (Keeps.refl w)
  clear hL
  have hsz := tB_size (num_pc a h0 h1) (num_pc b h2 h3) 2 false
  obtain ⟨md0, hpr0, kd0, o0, r0, hn0, hl0⟩ := bounds_any (unhide HLW) a b h0 h1 h2 h3 0 2 false (by decide) (by decide)
  have HPR0 := hide (fun (w1 : World) (hk : Keeps w w1) => (show Calls Tryd.prog 8 #[.string (⟨#[77, 32, 68, 69, 70, 73, 78, 73, 84, 73, 79, 78, 83, 32, 58, 58, 61, 32, 66, 69, 71, 73, 78, 32, 65, 32, 58, 58, 61, 32]⟩ ++ (⟨#[73, 78, 84, 69, 71, 69, 82, 32, 40]⟩ ++ (numB a ++ ⟨#[46, 46, 77, 65, 88]⟩) ++ ⟨#[41]⟩) ++ ⟨#[32, 69, 78, 68]⟩)] w1 (GivesM md0 0 0 w1) from hpr0 w1 hk))
  have HMO0 := hide (fun w => module05_any (⟨#[73, 78, 84, 69, 71, 69, 82, 32, 40]⟩ ++ (numB a ++ ⟨#[46, 46, 77, 65, 88]⟩) ++ ⟨#[41]⟩) w (by have := bndB_size 0 (tB 2 (numB a) (numB b) false); show (bndB 0 (tB 2 (numB a) (numB b) false)).size ≤ _; omega))
  have HN0 := hide hn0
  have HL0 := hide (show r0.length + 1 = 1 by rw [hl0]; rfl)
  clear hpr0 hn0 hl0
  obtain ⟨md1, hpr1, kd1, o1, r1, hn1, hl1⟩ := bounds_any (unhide HLW) a b h0 h1 h2 h3 1 2 false (by decide) (by decide)
  have HPR1 := hide (fun (w1 : World) (hk : Keeps w w1) => (show Calls Tryd.prog 8 #[.string (⟨#[77, 32, 68, 69, 70, 73, 78, 73, 84, 73, 79, 78, 83, 32, 58, 58, 61, 32, 66, 69, 71, 73, 78, 32, 65, 32, 58, 58, 61, 32]⟩ ++ (⟨#[79, 67, 84, 69, 84, 32, 83, 84, 82, 73, 78, 71, 32, 40, 83, 73, 90, 69, 32, 40]⟩ ++ (numB a ++ ⟨#[46, 46, 77, 65, 88]⟩) ++ ⟨#[41, 41]⟩) ++ ⟨#[32, 69, 78, 68]⟩)] w1 (GivesM md1 0 0 w1) from hpr1 w1 hk))
  have HMO1 := hide (fun w => module05_any (⟨#[79, 67, 84, 69, 84, 32, 83, 84, 82, 73, 78, 71, 32, 40, 83, 73, 90, 69, 32, 40]⟩ ++ (numB a ++ ⟨#[46, 46, 77, 65, 88]⟩) ++ ⟨#[41, 41]⟩) w (by have := bndB_size 1 (tB 2 (numB a) (numB b) false); show (bndB 1 (tB 2 (numB a) (numB b) false)).size ≤ _; omega))
  have HN1 := hide hn1
  have HL1 := hide (show r1.length + 1 = 1 by rw [hl1]; rfl)
  clear hpr1 hn1 hl1
  obtain ⟨md2, hpr2, kd2, o2, r2, hn2, hl2⟩ := bounds_any (unhide HLW) a b h0 h1 h2 h3 2 2 false (by decide) (by decide)
  have HPR2 := hide (fun (w1 : World) (hk : Keeps w w1) => (show Calls Tryd.prog 8 #[.string (⟨#[77, 32, 68, 69, 70, 73, 78, 73, 84, 73, 79, 78, 83, 32, 58, 58, 61, 32, 66, 69, 71, 73, 78, 32, 65, 32, 58, 58, 61, 32]⟩ ++ (⟨#[83, 69, 81, 85, 69, 78, 67, 69, 32, 40, 83, 73, 90, 69, 32, 40]⟩ ++ (numB a ++ ⟨#[46, 46, 77, 65, 88]⟩) ++ ⟨#[41, 41, 32, 79, 70, 32, 78, 85, 76, 76]⟩) ++ ⟨#[32, 69, 78, 68]⟩)] w1 (GivesM md2 0 0 w1) from hpr2 w1 hk))
  have HMO2 := hide (fun w => module05_any (⟨#[83, 69, 81, 85, 69, 78, 67, 69, 32, 40, 83, 73, 90, 69, 32, 40]⟩ ++ (numB a ++ ⟨#[46, 46, 77, 65, 88]⟩) ++ ⟨#[41, 41, 32, 79, 70, 32, 78, 85, 76, 76]⟩) w (by have := bndB_size 2 (tB 2 (numB a) (numB b) false); show (bndB 2 (tB 2 (numB a) (numB b) false)).size ≤ _; omega))
  have HN2 := hide hn2
  have HL2 := hide (show r2.length + 1 = 2 by rw [hl2]; rfl)
  clear hpr2 hn2 hl2
  clear hsz
  go_enter Tryd.func3, Tryd.ntmps3
  go_wp2_with fail
  refine (unhide HNa _).mono ?_
  rintro e n0 ⟨rfl, hk⟩
  have HKn0 := hide ((unhide HK0).trans hk)
  clear hk
  go_wp2_with fail
  refine (unhide HNb _).mono ?_
  rintro e n1 ⟨rfl, hk⟩
  have HKn1 := hide ((unhide HKn0).trans hk)
  clear hk
  go_wp2_with fail
  refine (unhide HNa _).mono ?_
  rintro e n2 ⟨rfl, hk⟩
  have HKn2 := hide ((unhide HKn1).trans hk)
  clear hk
  go_wp2_with fail
  refine (unhide HNa _).mono ?_
  rintro e n3 ⟨rfl, hk⟩
  have HKn3 := hide ((unhide HKn2).trans hk)
  clear hk
  go_wp2_with fail
  refine (unhide HNb _).mono ?_
  rintro e n4 ⟨rfl, hk⟩
  have HKn4 := hide ((unhide HKn3).trans hk)
  clear hk
  go_wp2_with fail
  have hsw : (n4.alloc (.cells #[.string (numB a ++ ⟨#[46, 46]⟩ ++ numB b), .string (numB a), .string (numB a ++ ⟨#[46, 46, 77, 65, 88]⟩), .string (⟨#[77, 73, 78, 46, 46]⟩ ++ numB b), .string ⟨#[77, 73, 78, 46, 46, 77, 65, 88]⟩] 9)).heap.size = n4.heap.size + 1 := World.size_alloc _ _
  have HC := hide (Blk.new (n4.alloc (.cells #[.string (numB a ++ ⟨#[46, 46]⟩ ++ numB b), .string (numB a), .string (numB a ++ ⟨#[46, 46, 77, 65, 88]⟩), .string (⟨#[77, 73, 78, 46, 46]⟩ ++ numB b), .string ⟨#[77, 73, 78, 46, 46, 77, 65, 88]⟩] 9)) 26 #[.bool true, .bool true, .bool false, .bool false, .int .i64 a, .int .i64 0])
  rw [hsw] at HC
  clear hsw
  have HKv0 := hide (show Keeps w ((n4.alloc (.cells #[.string (numB a ++ ⟨#[46, 46]⟩ ++ numB b), .string (numB a), .string (numB a ++ ⟨#[46, 46, 77, 65, 88]⟩), .string (⟨#[77, 73, 78, 46, 46]⟩ ++ numB b), .string ⟨#[77, 73, 78, 46, 46, 77, 65, 88]⟩] 9)).alloc (.cells #[.bool true, .bool true, .bool false, .bool false, .int .i64 a, .int .i64 0] 26)) from ((unhide HKn4).alloc _).alloc _)
  generalize ((n4.alloc (.cells #[.string (numB a ++ ⟨#[46, 46]⟩ ++ numB b), .string (numB a), .string (numB a ++ ⟨#[46, 46, 77, 65, 88]⟩), .string (⟨#[77, 73, 78, 46, 46]⟩ ++ numB b), .string ⟨#[77, 73, 78, 46, 46, 77, 65, 88]⟩] 9)).alloc (.cells #[.bool true, .bool true, .bool false, .bool false, .int .i64 a, .int .i64 0] 26)) = v0 at HC HKv0 ⊢
  generalize n4.heap.size + 1 = Vc at HC ⊢
  refine (unhide HMO0 _).mono ?_
  rintro e w'0 ⟨rfl, hw0⟩
  subst w'0
  go_wp2_with fail
  refine (unhide HPR0 _ (unhide HKv0)).mono ?_
  rintro e u0 ⟨A02, c02, A03, c03, A04, c04, rfl, hmh, hk⟩
  have HM0 := hide (ModIn.fresh hk hmh (Nat.le_refl _)).at_
  have HKx0 := hide (hk.alloc (.cells #[.string md0.name, .int .i64 md0.tagging, .slice A02 md0.names.length c02, .slice A03 md0.types.length c03, .slice A04 md0.nodes.length c04] 30))
  have HKv1 := hide ((unhide HKv0).trans (unhide HKx0))
  clear hk hmh
  go_wp2_with fail
  generalize u0.alloc (.cells #[.string md0.name, .int .i64 md0.tagging, .slice A02 md0.names.length c02, .slice A03 md0.types.length c03, .slice A04 md0.nodes.length c04] 30) = v1 at HM0 HKx0 HKv1 ⊢
  generalize u0.heap.size = V0 at HM0 ⊢
  refine (unhide HMO1 _).mono ?_
  rintro e w'1 ⟨rfl, hw1⟩
  subst w'1
  go_wp2_with fail
  refine (unhide HPR1 _ (unhide HKv1)).mono ?_
  rintro e u1 ⟨A12, c12, A13, c13, A14, c14, rfl, hmh, hk⟩
  have HM1 := hide (ModIn.fresh hk hmh (Nat.le_refl _)).at_
  have HKx1 := hide (hk.alloc (.cells #[.string md1.name, .int .i64 md1.tagging, .slice A12 md1.names.length c12, .slice A13 md1.types.length c13, .slice A14 md1.nodes.length c14] 30))
  have HKv2 := hide ((unhide HKv1).trans (unhide HKx1))
  clear hk hmh
  go_wp2_with fail
  generalize u1.alloc (.cells #[.string md1.name, .int .i64 md1.tagging, .slice A12 md1.names.length c12, .slice A13 md1.types.length c13, .slice A14 md1.nodes.length c14] 30) = v2 at HM1 HKx1 HKv2 ⊢
  generalize u1.heap.size = V1 at HM1 ⊢
  refine (unhide HMO2 _).mono ?_
  rintro e w'2 ⟨rfl, hw2⟩
  subst w'2
  go_wp2_with fail
  refine (unhide HPR2 _ (unhide HKv2)).mono ?_
  rintro e u2 ⟨A22, c22, A23, c23, A24, c24, rfl, hmh, hk⟩
  have HM2 := hide (ModIn.fresh hk hmh (Nat.le_refl _)).at_
  have HKx2 := hide (hk.alloc (.cells #[.string md2.name, .int .i64 md2.tagging, .slice A22 md2.names.length c22, .slice A23 md2.types.length c23, .slice A24 md2.nodes.length c24] 30))
  have HKv3 := hide ((unhide HKv2).trans (unhide HKx2))
  clear hk hmh
  go_wp2_with fail
  generalize u2.alloc (.cells #[.string md2.name, .int .i64 md2.tagging, .slice A22 md2.names.length c22, .slice A23 md2.types.length c23, .slice A24 md2.nodes.length c24] 30) = v3 at HM2 HKx2 HKv3 ⊢
  generalize u2.heap.size = V2 at HM2 ⊢
  refine bounds_last (unhide HA) (unhide HKv3) ((unhide HC).keeps (((unhide HKx0).trans (unhide HKx1)).trans (unhide HKx2))) (((unhide HM0).keeps ((unhide HKx1).trans (unhide HKx2))).con (unhide HN0) (unhide HL0) rfl) (((unhide HM1).keeps (unhide HKx2)).con (unhide HN1) (unhide HL1) rfl) ((unhide HM2).con (unhide HN2) (unhide HL2) rfl) (fun _ _ _ _ _ h => h) ?_
  intro y94 y95 y96 y97 y98 y99 y100 y101 y102 y103 y104 y105 y106 y107 y108 y109 y110 y111 y112 y113 y114 y115 y116 y117 y118 y119 y120 y121 y122 y123 y124 y125 y126 y127 y128 y129 y130 y131 y132 y133 y134 y135 y136 y137 y138 y139 y140 y141 y142 y143 y144 y145 y146 y147 y148 y149 y150 y151 z hkz
  have HKz := hide hkz
  clear hkz
  go_wp2
  go_ret
  exact ⟨rfl, unhide HKz⟩
set_option maxRecDepth 100000 in
set_option maxHeartbeats 16000000 in
theorem syntaxBounds_3t {w : World} (hL : LexW w) (a b n : Int) (h0 : -9223372036854775808 ≤ a) (h1 : a ≤ 9223372036854775807) (h2 : -9223372036854775808 ≤ b) (h3 : b ≤ 9223372036854775807) (hm' : wrap64 ((IntKind.u64.wrap n).tmod 5) = 3) : Calls Tryd.prog 3 #[.int .i64 a, .int .i64 b, .int .i64 n, .bool true] w fun e w' => e = .returned (.bool true) ∧ Keeps w w' := by
  have HA := hide (fun (w1 : World) (hk : Keeps w w1) => awake05_any (hL.keeps hk))
  have HNa := hide (fun w => number_help a h0 h1 w)
  have HNb := hide (fun w => number_help b h2 h3 w)
  have HLW := hide hL
  have hsa := num_size a
  have hsb := num_size b
  have hq1 : ¬ 9223372036854775807 < (numB a).size + 2 := by omega
  have hq2 : ¬ 9223372036854775807 < (numB a).size + 2 + (numB b).size := by omega
  have hq3 : ¬ 9223372036854775807 < (numB a).size + 5 := by omega
  have hq4 : ¬ 9223372036854775807 < 5 + (numB b).size := by omega
  have HK0 := hide (Keeps.refl w)
  clear hL
  have hsz := tB_size (num_pc a h0 h1) (num_pc b h2 h3) 3 true
  obtain ⟨md0, hpr0, kd0, o0, r0, hn0, hl0⟩ := bounds_any (unhide HLW) a b h0 h1 h2 h3 0 3 true (by decide) (by decide)
  have HPR0 := hide (fun (w1 : World) (hk : Keeps w w1) => (show Calls Tryd.prog 8 #[.string (⟨#[77, 32, 68, 69, 70, 73, 78, 73, 84, 73, 79, 78, 83, 32, 58, 58, 61, 32, 66, 69, 71, 73, 78, 32, 65, 32, 58, 58, 61, 32]⟩ ++ (⟨#[73, 78, 84, 69, 71, 69, 82, 32, 40]⟩ ++ (⟨#[77, 73, 78, 46, 46]⟩ ++ numB b ++ ⟨#[44, 32, 46, 46, 46]⟩) ++ ⟨#[41]⟩) ++ ⟨#[32, 69, 78, 68]⟩)] w1 (GivesM md0 0 0 w1) from hpr0 w1 hk))
  have HMO0 := hide (fun w => module05_any (⟨#[73, 78, 84, 69, 71, 69, 82, 32, 40]⟩ ++ (⟨#[77, 73, 78, 46, 46]⟩ ++ numB b ++ ⟨#[44, 32, 46, 46, 46]⟩) ++ ⟨#[41]⟩) w (by have := bndB_size 0 (tB 3 (numB a) (numB b) true); show (bndB 0 (tB 3 (numB a) (numB b) true)).size ≤ _; omega))
  have HN0 := hide hn0
  have HL0 := hide (show r0.length + 1 = 1 by rw [hl0]; rfl)
  clear hpr0 hn0 hl0
  obtain ⟨md1, hpr1, kd1, o1, r1, hn1, hl1⟩ := bounds_any (unhide HLW) a b h0 h1 h2 h3 1 3 true (by decide) (by decide)
  have HPR1 := hide (fun (w1 : World) (hk : Keeps w w1) => (show Calls Tryd.prog 8 #[.string (⟨#[77, 32, 68, 69, 70, 73, 78, 73, 84, 73, 79, 78, 83, 32, 58, 58, 61, 32, 66, 69, 71, 73, 78, 32, 65, 32, 58, 58, 61, 32]⟩ ++ (⟨#[79, 67, 84, 69, 84, 32, 83, 84, 82, 73, 78, 71, 32, 40, 83, 73, 90, 69, 32, 40]⟩ ++ (⟨#[77, 73, 78, 46, 46]⟩ ++ numB b ++ ⟨#[44, 32, 46, 46, 46]⟩) ++ ⟨#[41, 41]⟩) ++ ⟨#[32, 69, 78, 68]⟩)] w1 (GivesM md1 0 0 w1) from hpr1 w1 hk))
  have HMO1 := hide (fun w => module05_any (⟨#[79, 67, 84, 69, 84, 32, 83, 84, 82, 73, 78, 71, 32, 40, 83, 73, 90, 69, 32, 40]⟩ ++ (⟨#[77, 73, 78, 46, 46]⟩ ++ numB b ++ ⟨#[44, 32, 46, 46, 46]⟩) ++ ⟨#[41, 41]⟩) w (by have := bndB_size 1 (tB 3 (numB a) (numB b) true); show (bndB 1 (tB 3 (numB a) (numB b) true)).size ≤ _; omega))
  have HN1 := hide hn1
  have HL1 := hide (show r1.length + 1 = 1 by rw [hl1]; rfl)
  clear hpr1 hn1 hl1
  obtain ⟨md2, hpr2, kd2, o2, r2, hn2, hl2⟩ := bounds_any (unhide HLW) a b h0 h1 h2 h3 2 3 true (by decide) (by decide)
  have HPR2 := hide (fun (w1 : World) (hk : Keeps w w1) => (show Calls Tryd.prog 8 #[.string (⟨#[77, 32, 68, 69, 70, 73, 78, 73, 84, 73, 79, 78, 83, 32, 58, 58, 61, 32, 66, 69, 71, 73, 78, 32, 65, 32, 58, 58, 61, 32]⟩ ++ (⟨#[83, 69, 81, 85, 69, 78, 67, 69, 32, 40, 83, 73, 90, 69, 32, 40]⟩ ++ (⟨#[77, 73, 78, 46, 46]⟩ ++ numB b ++ ⟨#[44, 32, 46, 46, 46]⟩) ++ ⟨#[41, 41, 32, 79, 70, 32, 78, 85, 76, 76]⟩) ++ ⟨#[32, 69, 78, 68]⟩)] w1 (GivesM md2 0 0 w1) from hpr2 w1 hk))
  have HMO2 := hide (fun w => module05_any (⟨#[83, 69, 81, 85, 69, 78, 67, 69, 32, 40, 83, 73, 90, 69, 32, 40]⟩ ++ (⟨#[77, 73, 78, 46, 46]⟩ ++ numB b ++ ⟨#[44, 32, 46, 46, 46]⟩) ++ ⟨#[41, 41, 32, 79, 70, 32, 78, 85, 76, 76]⟩) w (by have := bndB_size 2 (tB 3 (numB a) (numB b) true); show (bndB 2 (tB 3 (numB a) (numB b) true)).size ≤ _; omega))
  have HN2 := hide hn2
  have HL2 := hide (show r2.length + 1 = 2 by rw [hl2]; rfl)
  clear hpr2 hn2 hl2
  clear hsz
  go_enter Tryd.func3, Tryd.ntmps3
  go_wp2_with fail
  refine (unhide HNa _).mono ?_
  rintro e n0 ⟨rfl, hk⟩
  have HKn0 := hide ((unhide HK0).trans hk)
  clear hk
  go_wp2_with fail
  refine (unhide HNb _).mono ?_
  rintro e n1 ⟨rfl, hk⟩
  have HKn1 := hide ((unhide HKn0).trans hk)
  clear hk
  go_wp2_with fail
  refine (unhide HNa _).mono ?_
  rintro e n2 ⟨rfl, hk⟩
  have HKn2 := hide ((unhide HKn1).trans hk)
  clear hk
  go_wp2_with fail
  refine (unhide HNa _).mono ?_
  rintro e n3 ⟨rfl, hk⟩
  have HKn3 := hide ((unhide HKn2).trans hk)
  clear hk
  go_wp2_with fail
  refine (unhide HNb _).mono ?_
  rintro e n4 ⟨rfl, hk⟩
  have HKn4 := hide ((unhide HKn3).trans hk)
  clear hk
  go_wp2_with fail
  have hsw : (n4.alloc (.cells #[.string (numB a ++ ⟨#[46, 46]⟩ ++ numB b), .string (numB a), .string (numB a ++ ⟨#[46, 46, 77, 65, 88]⟩), .string (⟨#[77, 73, 78, 46, 46]⟩ ++ numB b), .string ⟨#[77, 73, 78, 46, 46, 77, 65, 88]⟩] 9)).heap.size = n4.heap.size + 1 := World.size_alloc _ _
  have HC := hide (Blk.new (n4.alloc (.cells #[.string (numB a ++ ⟨#[46, 46]⟩ ++ numB b), .string (numB a), .string (numB a ++ ⟨#[46, 46, 77, 65, 88]⟩), .string (⟨#[77, 73, 78, 46, 46]⟩ ++ numB b), .string ⟨#[77, 73, 78, 46, 46, 77, 65, 88]⟩] 9)) 26 #[.bool true, .bool false, .bool true, .bool true, .int .i64 0, .int .i64 b])
  rw [hsw] at HC
  clear hsw
  have HKv0 := hide (show Keeps w ((n4.alloc (.cells #[.string (numB a ++ ⟨#[46, 46]⟩ ++ numB b), .string (numB a), .string (numB a ++ ⟨#[46, 46, 77, 65, 88]⟩), .string (⟨#[77, 73, 78, 46, 46]⟩ ++ numB b), .string ⟨#[77, 73, 78, 46, 46, 77, 65, 88]⟩] 9)).alloc (.cells #[.bool true, .bool false, .bool true, .bool true, .int .i64 0, .int .i64 b] 26)) from ((unhide HKn4).alloc _).alloc _)
  generalize ((n4.alloc (.cells #[.string (numB a ++ ⟨#[46, 46]⟩ ++ numB b), .string (numB a), .string (numB a ++ ⟨#[46, 46, 77, 65, 88]⟩), .string (⟨#[77, 73, 78, 46, 46]⟩ ++ numB b), .string ⟨#[77, 73, 78, 46, 46, 77, 65, 88]⟩] 9)).alloc (.cells #[.bool true, .bool false, .bool true, .bool true, .int .i64 0, .int .i64 b] 26)) = v0 at HC HKv0 ⊢
  generalize n4.heap.size + 1 = Vc at HC ⊢
  refine (unhide HMO0 _).mono ?_
  rintro e w'0 ⟨rfl, hw0⟩
  subst w'0
  go_wp2_with fail
  refine (unhide HPR0 _ (unhide HKv0)).mono ?_
  rintro e u0 ⟨A02, c02, A03, c03, A04, c04, rfl, hmh, hk⟩
  have HM0 := hide (ModIn.fresh hk hmh (Nat.le_refl _)).at_
  have HKx0 := hide (hk.alloc (.cells #[.string md0.name, .int .i64 md0.tagging, .slice A02 md0.names.length c02, .slice A03 md0.types.length c03, .slice A04 md0.nodes.length c04] 30))
  have HKv1 := hide ((unhide HKv0).trans (unhide HKx0))
  clear hk hmh
  go_wp2_with fail
  generalize u0.alloc (.cells #[.string md0.name, .int .i64 md0.tagging, .slice A02 md0.names.length c02, .slice A03 md0.types.length c03, .slice A04 md0.nodes.length c04] 30) = v1 at HM0 HKx0 HKv1 ⊢
  generalize u0.heap.size = V0 at HM0 ⊢
  refine (unhide HMO1 _).mono ?_
  rintro e w'1 ⟨rfl, hw1⟩
  subst w'1
  go_wp2_with fail
  refine (unhide HPR1 _ (unhide HKv1)).mono ?_
  rintro e u1 ⟨A12, c12, A13, c13, A14, c14, rfl, hmh, hk⟩
  have HM1 := hide (ModIn.fresh hk hmh (Nat.le_refl _)).at_
  have HKx1 := hide (hk.alloc (.cells #[.string md1.name, .int .i64 md1.tagging, .slice A12 md1.names.length c12, .slice A13 md1.types.length c13, .slice A14 md1.nodes.length c14] 30))
  have HKv2 := hide ((unhide HKv1).trans (unhide HKx1))
  clear hk hmh
  go_wp2_with fail
  generalize u1.alloc (.cells #[.string md1.name, .int .i64 md1.tagging, .slice A12 md1.names.length c12, .slice A13 md1.types.length c13, .slice A14 md1.nodes.length c14] 30) = v2 at HM1 HKx1 HKv2 ⊢
  generalize u1.heap.size = V1 at HM1 ⊢
  refine (unhide HMO2 _).mono ?_
  rintro e w'2 ⟨rfl, hw2⟩
  subst w'2
  go_wp2_with fail
  refine (unhide HPR2 _ (unhide HKv2)).mono ?_
  rintro e u2 ⟨A22, c22, A23, c23, A24, c24, rfl, hmh, hk⟩
  have HM2 := hide (ModIn.fresh hk hmh (Nat.le_refl _)).at_
  have HKx2 := hide (hk.alloc (.cells #[.string md2.name, .int .i64 md2.tagging, .slice A22 md2.names.length c22, .slice A23 md2.types.length c23, .slice A24 md2.nodes.length c24] 30))
  have HKv3 := hide ((unhide HKv2).trans (unhide HKx2))
  clear hk hmh
  go_wp2_with fail
  generalize u2.alloc (.cells #[.string md2.name, .int .i64 md2.tagging, .slice A22 md2.names.length c22, .slice A23 md2.types.length c23, .slice A24 md2.nodes.length c24] 30) = v3 at HM2 HKx2 HKv3 ⊢
  generalize u2.heap.size = V2 at HM2 ⊢
  refine bounds_last (unhide HA) (unhide HKv3) ((unhide HC).keeps (((unhide HKx0).trans (unhide HKx1)).trans (unhide HKx2))) (((unhide HM0).keeps ((unhide HKx1).trans (unhide HKx2))).con (unhide HN0) (unhide HL0) rfl) (((unhide HM1).keeps (unhide HKx2)).con (unhide HN1) (unhide HL1) rfl) ((unhide HM2).con (unhide HN2) (unhide HL2) rfl) (fun _ _ _ _ _ h => h) ?_
  intro y94 y95 y96 y97 y98 y99 y100 y101 y102 y103 y104 y105 y106 y107 y108 y109 y110 y111 y112 y113 y114 y115 y116 y117 y118 y119 y120 y121 y122 y123 y124 y125 y126 y127 y128 y129 y130 y131 y132 y133 y134 y135 y136 y137 y138 y139 y140 y141 y142 y143 y144 y145 y146 y147 y148 y149 y150 y151 z hkz
  have HKz := hide hkz
  clear hkz
  go_wp2
  go_ret
  exact ⟨rfl, unhide HKz⟩
set_option maxRecDepth 100000 in
set_option maxHeartbeats 16000000 in
theorem syntaxBounds_3f {w : World} (hL : LexW w) (a b n : Int) (h0 : -9223372036854775808 ≤ a) (h1 : a ≤ 9223372036854775807) (h2 : -9223372036854775808 ≤ b) (h3 : b ≤ 9223372036854775807) (hm' : wrap64 ((IntKind.u64.wrap n).tmod 5) = 3) : Calls Tryd.prog 3 #[.int .i64 a, .int .i64 b, .int .i64 n, .bool false] w fun e w' => e = .returned (.bool true) ∧ Keeps w w' := by
  have HA := hide (fun (w1 : World) (hk : Keeps w w1) => awake05_any (hL.keeps hk))
  have HNa := hide (fun w => number_help a h0 h1 w)
  have HNb := hide (fun w => number_help b h2 h3 w)
  have HLW := hide hL
  have hsa := num_size a
  have hsb := num_size b
  have hq1 : ¬ 9223372036854775807 < (numB a).size + 2 := by omega
  have hq2 : ¬ 9223372036854775807 < (numB a).size + 2 + (numB b).size := by omega
  have hq3 : ¬ 9223372036854775807 < (numB a).size + 5 := by omega
  have hq4 : ¬ 9223372036854775807 < 5 + (numB b).size := by omega
  have HK0 := hide (Keeps.refl w)
  clear hL
  have hsz := tB_size (num_pc a h0 h1) (num_pc b h2 h3) 3 false
  obtain ⟨md0, hpr0, kd0, o0, r0, hn0, hl0⟩ := bounds_any (unhide HLW) a b h0 h1 h2 h3 0 3 false (by decide) (by decide)
  have HPR0 := hide (fun (w1 : World) (hk : Keeps w w1) => (show Calls Tryd.prog 8 #[.string (⟨#[77, 32, 68, 69, 70, 73, 78, 73, 84, 73, 79, 78, 83, 32, 58, 58, 61, 32, 66, 69, 71, 73, 78, 32, 65, 32, 58, 58, 61, 32]⟩ ++ (⟨#[73, 78, 84, 69, 71, 69, 82, 32, 40]⟩ ++ (⟨#[77, 73, 78, 46, 46]⟩ ++ numB b) ++ ⟨#[41]⟩) ++ ⟨#[32, 69, 78, 68]⟩)] w1 (GivesM md0 0 0 w1) from hpr0 w1 hk))
  have HMO0 := hide (fun w => module05_any (⟨#[73, 78, 84, 69, 71, 69, 82, 32, 40]⟩ ++ (⟨#[77, 73, 78, 46, 46]⟩ ++ numB b) ++ ⟨#[41]⟩) w (by have := bndB_size 0 (tB 3 (numB a) (numB b) false); show (bndB 0 (tB 3 (numB a) (numB b) false)).size ≤ _; omega))
  have HN0 := hide hn0
  have HL0 := hide (show r0.length + 1 = 1 by rw [hl0]; rfl)
  clear hpr0 hn0 hl0
  obtain ⟨md1, hpr1, kd1, o1, r1, hn1, hl1⟩ := bounds_any (unhide HLW) a b h0 h1 h2 h3 1 3 false (by decide) (by decide)
  have HPR1 := hide (fun (w1 : World) (hk : Keeps w w1) => (show Calls Tryd.prog 8 #[.string (⟨#[77, 32, 68, 69, 70, 73, 78, 73, 84, 73, 79, 78, 83, 32, 58, 58, 61, 32, 66, 69, 71, 73, 78, 32, 65, 32, 58, 58, 61, 32]⟩ ++ (⟨#[79, 67, 84, 69, 84, 32, 83, 84, 82, 73, 78, 71, 32, 40, 83, 73, 90, 69, 32, 40]⟩ ++ (⟨#[77, 73, 78, 46, 46]⟩ ++ numB b) ++ ⟨#[41, 41]⟩) ++ ⟨#[32, 69, 78, 68]⟩)] w1 (GivesM md1 0 0 w1) from hpr1 w1 hk))
  have HMO1 := hide (fun w => module05_any (⟨#[79, 67, 84, 69, 84, 32, 83, 84, 82, 73, 78, 71, 32, 40, 83, 73, 90, 69, 32, 40]⟩ ++ (⟨#[77, 73, 78, 46, 46]⟩ ++ numB b) ++ ⟨#[41, 41]⟩) w (by have := bndB_size 1 (tB 3 (numB a) (numB b) false); show (bndB 1 (tB 3 (numB a) (numB b) false)).size ≤ _; omega))
  have HN1 := hide hn1
  have HL1 := hide (show r1.length + 1 = 1 by rw [hl1]; rfl)
  clear hpr1 hn1 hl1
  obtain ⟨md2, hpr2, kd2, o2, r2, hn2, hl2⟩ := bounds_any (unhide HLW) a b h0 h1 h2 h3 2 3 false (by decide) (by decide)
  have HPR2 := hide (fun (w1 : World) (hk : Keeps w w1) => (show Calls Tryd.prog 8 #[.string (⟨#[77, 32, 68, 69, 70, 73, 78, 73, 84, 73, 79, 78, 83, 32, 58, 58, 61, 32, 66, 69, 71, 73, 78, 32, 65, 32, 58, 58, 61, 32]⟩ ++ (⟨#[83, 69, 81, 85, 69, 78, 67, 69, 32, 40, 83, 73, 90, 69, 32, 40]⟩ ++ (⟨#[77, 73, 78, 46, 46]⟩ ++ numB b) ++ ⟨#[41, 41, 32, 79, 70, 32, 78, 85, 76, 76]⟩) ++ ⟨#[32, 69, 78, 68]⟩)] w1 (GivesM md2 0 0 w1) from hpr2 w1 hk))
  have HMO2 := hide (fun w => module05_any (⟨#[83, 69, 81, 85, 69, 78, 67, 69, 32, 40, 83, 73, 90, 69, 32, 40]⟩ ++ (⟨#[77, 73, 78, 46, 46]⟩ ++ numB b) ++ ⟨#[41, 41, 32, 79, 70, 32, 78, 85, 76, 76]⟩) w (by have := bndB_size 2 (tB 3 (numB a) (numB b) false); show (bndB 2 (tB 3 (numB a) (numB b) false)).size ≤ _; omega))
  have HN2 := hide hn2
  have HL2 := hide (show r2.length + 1 = 2 by rw [hl2]; rfl)
  clear hpr2 hn2 hl2
  clear hsz
  go_enter Tryd.func3, Tryd.ntmps3
  go_wp2_with fail
  refine (unhide HNa _).mono ?_
  rintro e n0 ⟨rfl, hk⟩
  have HKn0 := hide ((unhide HK0).trans hk)
  clear hk
  go_wp2_with fail
  refine (unhide HNb _).mono ?_
  rintro e n1 ⟨rfl, hk⟩
  have HKn1 := hide ((unhide HKn0).trans hk)
  clear hk
  go_wp2_with fail
  refine (unhide HNa _).mono ?_
  rintro e n2 ⟨rfl, hk⟩
  have HKn2 := hide ((unhide HKn1).trans hk)
  clear hk
  go_wp2_with fail
  refine (unhide HNa _).mono ?_
  rintro e n3 ⟨rfl, hk⟩
  have HKn3 := hide ((unhide HKn2).trans hk)
  clear hk
  go_wp2_with fail
  refine (unhide HNb _).mono ?_
  rintro e n4 ⟨rfl, hk⟩
  have HKn4 := hide ((unhide HKn3).trans hk)
  clear hk
  go_wp2_with fail
  have hsw : (n4.alloc (.cells #[.string (numB a ++ ⟨#[46, 46]⟩ ++ numB b), .string (numB a), .string (numB a ++ ⟨#[46, 46, 77, 65, 88]⟩), .string (⟨#[77, 73, 78, 46, 46]⟩ ++ numB b), .string ⟨#[77, 73, 78, 46, 46, 77, 65, 88]⟩] 9)).heap.size = n4.heap.size + 1 := World.size_alloc _ _
  have HC := hide (Blk.new (n4.alloc (.cells #[.string (numB a ++ ⟨#[46, 46]⟩ ++ numB b), .string (numB a), .string (numB a ++ ⟨#[46, 46, 77, 65, 88]⟩), .string (⟨#[77, 73, 78, 46, 46]⟩ ++ numB b), .string ⟨#[77, 73, 78, 46, 46, 77, 65, 88]⟩] 9)) 26 #[.bool true, .bool false, .bool true, .bool false, .int .i64 0, .int .i64 b])
  rw [hsw] at HC
  clear hsw
  have HKv0 := hide (show Keeps w ((n4.alloc (.cells #[.string (numB a ++ ⟨#[46, 46]⟩ ++ numB b), .string (numB a), .string (numB a ++ ⟨#[46, 46, 77, 65, 88]⟩), .string (⟨#[77, 73, 78, 46, 46]⟩ ++ numB b), .string ⟨#[77, 73, 78, 46, 46, 77, 65, 88]⟩] 9)).alloc (.cells #[.bool true, .bool false, .bool true, .bool false, .int .i64 0, .int .i64 b] 26)) from ((unhide HKn4).alloc _).alloc _)
  generalize ((n4.alloc (.cells #[.string (numB a ++ ⟨#[46, 46]⟩ ++ numB b), .string (numB a), .string (numB a ++ ⟨#[46, 46, 77, 65, 88]⟩), .string (⟨#[77, 73, 78, 46, 46]⟩ ++ numB b), .string ⟨#[77, 73, 78, 46, 46, 77, 65, 88]⟩] 9)).alloc (.cells #[.bool true, .bool false, .bool true, .bool false, .int .i64 0, .int .i64 b] 26)) = v0 at HC HKv0 ⊢
  generalize n4.heap.size + 1 = Vc at HC ⊢
  refine (unhide HMO0 _).mono ?_
  rintro e w'0 ⟨rfl, hw0⟩
  subst w'0
  go_wp2_with fail
  refine (unhide HPR0 _ (unhide HKv0)).mono ?_
  rintro e u0 ⟨A02, c02, A03, c03, A04, c04, rfl, hmh, hk⟩
  have HM0 := hide (ModIn.fresh hk hmh (Nat.le_refl _)).at_
  have HKx0 := hide (hk.alloc (.cells #[.string md0.name, .int .i64 md0.tagging, .slice A02 md0.names.length c02, .slice A03 md0.types.length c03, .slice A04 md0.nodes.length c04] 30))
  have HKv1 := hide ((unhide HKv0).trans (unhide HKx0))
  clear hk hmh
  go_wp2_with fail
  generalize u0.alloc (.cells #[.string md0.name, .int .i64 md0.tagging, .slice A02 md0.names.length c02, .slice A03 md0.types.length c03, .slice A04 md0.nodes.length c04] 30) = v1 at HM0 HKx0 HKv1 ⊢
  generalize u0.heap.size = V0 at HM0 ⊢
  refine (unhide HMO1 _).mono ?_
  rintro e w'1 ⟨rfl, hw1⟩
  subst w'1
  go_wp2_with fail
  refine (unhide HPR1 _ (unhide HKv1)).mono ?_
  rintro e u1 ⟨A12, c12, A13, c13, A14, c14, rfl, hmh, hk⟩
  have HM1 := hide (ModIn.fresh hk hmh (Nat.le_refl _)).at_
  have HKx1 := hide (hk.alloc (.cells #[.string md1.name, .int .i64 md1.tagging, .slice A12 md1.names.length c12, .slice A13 md1.types.length c13, .slice A14 md1.nodes.length c14] 30))
  have HKv2 := hide ((unhide HKv1).trans (unhide HKx1))
  clear hk hmh
  go_wp2_with fail
  generalize u1.alloc (.cells #[.string md1.name, .int .i64 md1.tagging, .slice A12 md1.names.length c12, .slice A13 md1.types.length c13, .slice A14 md1.nodes.length c14] 30) = v2 at HM1 HKx1 HKv2 ⊢
  generalize u1.heap.size = V1 at HM1 ⊢
  refine (unhide HMO2 _).mono ?_
  rintro e w'2 ⟨rfl, hw2⟩
  subst w'2
  go_wp2_with fail
  refine (unhide HPR2 _ (unhide HKv2)).mono ?_
  rintro e u2 ⟨A22, c22, A23, c23, A24, c24, rfl, hmh, hk⟩
  have HM2 := hide (ModIn.fresh hk hmh (Nat.le_refl _)).at_
  have HKx2 := hide (hk.alloc (.cells #[.string md2.name, .int .i64 md2.tagging, .slice A22 md2.names.length c22, .slice A23 md2.types.length c23, .slice A24 md2.nodes.length c24] 30))
  have HKv3 := hide ((unhide HKv2).trans (unhide HKx2))
  clear hk hmh
  go_wp2_with fail
  generalize u2.alloc (.cells #[.string md2.name, .int .i64 md2.tagging, .slice A22 md2.names.length c22, .slice A23 md2.types.length c23, .slice A24 md2.nodes.length c24] 30) = v3 at HM2 HKx2 HKv3 ⊢
  generalize u2.heap.size = V2 at HM2 ⊢
  refine bounds_last (unhide HA) (unhide HKv3) ((unhide HC).keeps (((unhide HKx0).trans (unhide HKx1)).trans (unhide HKx2))) (((unhide HM0).keeps ((unhide HKx1).trans (unhide HKx2))).con (unhide HN0) (unhide HL0) rfl) (((unhide HM1).keeps (unhide HKx2)).con (unhide HN1) (unhide HL1) rfl) ((unhide HM2).con (unhide HN2) (unhide HL2) rfl) (fun _ _ _ _ _ h => h) ?_
  intro y94 y95 y96 y97 y98 y99 y100 y101 y102 y103 y104 y105 y106 y107 y108 y109 y110 y111 y112 y113 y114 y115 y116 y117 y118 y119 y120 y121 y122 y123 y124 y125 y126 y127 y128 y129 y130 y131 y132 y133 y134 y135 y136 y137 y138 y139 y140 y141 y142 y143 y144 y145 y146 y147 y148 y149 y150 y151 z hkz
  have HKz := hide hkz
  clear hkz
  go_wp2
  go_ret
  exact ⟨rfl, unhide HKz⟩
set_option maxRecDepth 100000 in
set_option maxHeartbeats 16000000 in
theorem syntaxBounds_4t {w : World} (hL : LexW w) (a b n : Int) (h0 : -9223372036854775808 ≤ a) (h1 : a ≤ 9223372036854775807) (h2 : -9223372036854775808 ≤ b) (h3 : b ≤ 9223372036854775807) (hm' : wrap64 ((IntKind.u64.wrap n).tmod 5) = 4) : Calls Tryd.prog 3 #[.int .i64 a, .int .i64 b, .int .i64 n, .bool true] w fun e w' => e = .returned (.bool true) ∧ Keeps w w' := by
  have HA := hide (fun (w1 : World) (hk : Keeps w w1) => awake05_any (hL.keeps hk))
  have HNa := hide (fun w => number_help a h0 h1 w)
  have HNb := hide (fun w => number_help b h2 h3 w)
  have HLW := hide hL
  have hsa := num_size a
  have hsb := num_size b
  have hq1 : ¬ 9223372036854775807 < (numB a).size + 2 := by omega
  have hq2 : ¬ 9223372036854775807 < (numB a).size + 2 + (numB b).size := by omega
  have hq3 : ¬ 9223372036854775807 < (numB a).size + 5 := by omega
  have hq4 : ¬ 9223372036854775807 < 5 + (numB b).size := by omega
  have HK0 := hide (Keeps.refl w)
  clear hL
  have hsz := tB_size (num_pc a h0 h1) (num_pc b h2 h3) 4 true
  obtain ⟨md0, hpr0, kd0, o0, r0, hn0, hl0⟩ := bounds_any (unhide HLW) a b h0 h1 h2 h3 0 4 true (by decide) (by decide)
  have HPR0 := hide (fun (w1 : World) (hk : Keeps w w1) => (show Calls Tryd.prog 8 #[.string (⟨#[77, 32, 68, 69, 70, 73, 78, 73, 84, 73, 79, 78, 83, 32, 58, 58, 61, 32, 66, 69, 71, 73, 78, 32, 65, 32, 58, 58, 61, 32]⟩ ++ (⟨#[73, 78, 84, 69, 71, 69, 82, 32, 40]⟩ ++ (⟨#[77, 73, 78, 46, 46, 77, 65, 88]⟩ ++ ⟨#[44, 32, 46, 46, 46]⟩) ++ ⟨#[41]⟩) ++ ⟨#[32, 69, 78, 68]⟩)] w1 (GivesM md0 0 0 w1) from hpr0 w1 hk))
  have HMO0 := hide (fun w => module05_any (⟨#[73, 78, 84, 69, 71, 69, 82, 32, 40]⟩ ++ (⟨#[77, 73, 78, 46, 46, 77, 65, 88]⟩ ++ ⟨#[44, 32, 46, 46, 46]⟩) ++ ⟨#[41]⟩) w (by have := bndB_size 0 (tB 4 (numB a) (numB b) true); show (bndB 0 (tB 4 (numB a) (numB b) true)).size ≤ _; omega))
  have HN0 := hide hn0
  have HL0 := hide (show r0.length + 1 = 1 by rw [hl0]; rfl)
  clear hpr0 hn0 hl0
  obtain ⟨md1, hpr1, kd1, o1, r1, hn1, hl1⟩ := bounds_any (unhide HLW) a b h0 h1 h2 h3 1 4 true (by decide) (by decide)
  have HPR1 := hide (fun (w1 : World) (hk : Keeps w w1) => (show Calls Tryd.prog 8 #[.string (⟨#[77, 32, 68, 69, 70, 73, 78, 73, 84, 73, 79, 78, 83, 32, 58, 58, 61, 32, 66, 69, 71, 73, 78, 32, 65, 32, 58, 58, 61, 32]⟩ ++ (⟨#[79, 67, 84, 69, 84, 32, 83, 84, 82, 73, 78, 71, 32, 40, 83, 73, 90, 69, 32, 40]⟩ ++ (⟨#[77, 73, 78, 46, 46, 77, 65, 88]⟩ ++ ⟨#[44, 32, 46, 46, 46]⟩) ++ ⟨#[41, 41]⟩) ++ ⟨#[32, 69, 78, 68]⟩)] w1 (GivesM md1 0 0 w1) from hpr1 w1 hk))
  have HMO1 := hide (fun w => module05_any (⟨#[79, 67, 84, 69, 84, 32, 83, 84, 82, 73, 78, 71, 32, 40, 83, 73, 90, 69, 32, 40]⟩ ++ (⟨#[77, 73, 78, 46, 46, 77, 65, 88]⟩ ++ ⟨#[44, 32, 46, 46, 46]⟩) ++ ⟨#[41, 41]⟩) w (by have := bndB_size 1 (tB 4 (numB a) (numB b) true); show (bndB 1 (tB 4 (numB a) (numB b) true)).size ≤ _; omega))
  have HN1 := hide hn1
  have HL1 := hide (show r1.length + 1 = 1 by rw [hl1]; rfl)
  clear hpr1 hn1 hl1
  obtain ⟨md2, hpr2, kd2, o2, r2, hn2, hl2⟩ := bounds_any (unhide HLW) a b h0 h1 h2 h3 2 4 true (by decide) (by decide)
  have HPR2 := hide (fun (w1 : World) (hk : Keeps w w1) => (show Calls Tryd.prog 8 #[.string (⟨#[77, 32, 68, 69, 70, 73, 78, 73, 84, 73, 79, 78, 83, 32, 58, 58, 61, 32, 66, 69, 71, 73, 78, 32, 65, 32, 58, 58, 61, 32]⟩ ++ (⟨#[83, 69, 81, 85, 69, 78, 67, 69, 32, 40, 83, 73, 90, 69, 32, 40]⟩ ++ (⟨#[77, 73, 78, 46, 46, 77, 65, 88]⟩ ++ ⟨#[44, 32, 46, 46, 46]⟩) ++ ⟨#[41, 41, 32, 79, 70, 32, 78, 85, 76, 76]⟩) ++ ⟨#[32, 69, 78, 68]⟩)] w1 (GivesM md2 0 0 w1) from hpr2 w1 hk))
  have HMO2 := hide (fun w => module05_any (⟨#[83, 69, 81, 85, 69, 78, 67, 69, 32, 40, 83, 73, 90, 69, 32, 40]⟩ ++ (⟨#[77, 73, 78, 46, 46, 77, 65, 88]⟩ ++ ⟨#[44, 32, 46, 46, 46]⟩) ++ ⟨#[41, 41, 32, 79, 70, 32, 78, 85, 76, 76]⟩) w (by have := bndB_size 2 (tB 4 (numB a) (numB b) true); show (bndB 2 (tB 4 (numB a) (numB b) true)).size ≤ _; omega))
  have HN2 := hide hn2
  have HL2 := hide (show r2.length + 1 = 2 by rw [hl2]; rfl)
  clear hpr2 hn2 hl2
  clear hsz
  go_enter Tryd.func3, Tryd.ntmps3
  go_wp2_with fail
  refine (unhide HNa _).mono ?_
  rintro e n0 ⟨rfl, hk⟩
  have HKn0 := hide ((unhide HK0).trans hk)
  clear hk
  go_wp2_with fail
  refine (unhide HNb _).mono ?_
  rintro e n1 ⟨rfl, hk⟩
  have HKn1 := hide ((unhide HKn0).trans hk)
  clear hk
  go_wp2_with fail
  refine (unhide HNa _).mono ?_
  rintro e n2 ⟨rfl, hk⟩
  have HKn2 := hide ((unhide HKn1).trans hk)
  clear hk
  go_wp2_with fail
  refine (unhide HNa _).mono ?_
  rintro e n3 ⟨rfl, hk⟩
  have HKn3 := hide ((unhide HKn2).trans hk)
  clear hk
  go_wp2_with fail
  refine (unhide HNb _).mono ?_
  rintro e n4 ⟨rfl, hk⟩
  have HKn4 := hide ((unhide HKn3).trans hk)
  clear hk
  go_wp2_with fail
  have hsw : (n4.alloc (.cells #[.string (numB a ++ ⟨#[46, 46]⟩ ++ numB b), .string (numB a), .string (numB a ++ ⟨#[46, 46, 77, 65, 88]⟩), .string (⟨#[77, 73, 78, 46, 46]⟩ ++ numB b), .string ⟨#[77, 73, 78, 46, 46, 77, 65, 88]⟩] 9)).heap.size = n4.heap.size + 1 := World.size_alloc _ _
  have HC := hide (Blk.new (n4.alloc (.cells #[.string (numB a ++ ⟨#[46, 46]⟩ ++ numB b), .string (numB a), .string (numB a ++ ⟨#[46, 46, 77, 65, 88]⟩), .string (⟨#[77, 73, 78, 46, 46]⟩ ++ numB b), .string ⟨#[77, 73, 78, 46, 46, 77, 65, 88]⟩] 9)) 26 #[.bool true, .bool false, .bool false, .bool true, .int .i64 0, .int .i64 0])
  rw [hsw] at HC
  clear hsw
  have HKv0 := hide (show Keeps w ((n4.alloc (.cells #[.string (numB a ++ ⟨#[46, 46]⟩ ++ numB b), .string (numB a), .string (numB a ++ ⟨#[46, 46, 77, 65, 88]⟩), .string (⟨#[77, 73, 78, 46, 46]⟩ ++ numB b), .string ⟨#[77, 73, 78, 46, 46, 77, 65, 88]⟩] 9)).alloc (.cells #[.bool true, .bool false, .bool false, .bool true, .int .i64 0, .int .i64 0] 26)) from ((unhide HKn4).alloc _).alloc _)
  generalize ((n4.alloc (.cells #[.string (numB a ++ ⟨#[46, 46]⟩ ++ numB b), .string (numB a), .string (numB a ++ ⟨#[46, 46, 77, 65, 88]⟩), .string (⟨#[77, 73, 78, 46, 46]⟩ ++ numB b), .string ⟨#[77, 73, 78, 46, 46, 77, 65, 88]⟩] 9)).alloc (.cells #[.bool true, .bool false, .bool false, .bool true, .int .i64 0, .int .i64 0] 26)) = v0 at HC HKv0 ⊢
  generalize n4.heap.size + 1 = Vc at HC ⊢
  refine (unhide HMO0 _).mono ?_
  rintro e w'0 ⟨rfl, hw0⟩
  subst w'0
  go_wp2_with fail
  refine (unhide HPR0 _ (unhide HKv0)).mono ?_
  rintro e u0 ⟨A02, c02, A03, c03, A04, c04, rfl, hmh, hk⟩
  have HM0 := hide (ModIn.fresh hk hmh (Nat.le_refl _)).at_
  have HKx0 := hide (hk.alloc (.cells #[.string md0.name, .int .i64 md0.tagging, .slice A02 md0.names.length c02, .slice A03 md0.types.length c03, .slice A04 md0.nodes.length c04] 30))
  have HKv1 := hide ((unhide HKv0).trans (unhide HKx0))
  clear hk hmh
  go_wp2_with fail
  generalize u0.alloc (.cells #[.string md0.name, .int .i64 md0.tagging, .slice A02 md0.names.length c02, .slice A03 md0.types.length c03, .slice A04 md0.nodes.length c04] 30) = v1 at HM0 HKx0 HKv1 ⊢
  generalize u0.heap.size = V0 at HM0 ⊢
  refine (unhide HMO1 _).mono ?_
  rintro e w'1 ⟨rfl, hw1⟩
  subst w'1
  go_wp2_with fail
  refine (unhide HPR1 _ (unhide HKv1)).mono ?_
  rintro e u1 ⟨A12, c12, A13, c13, A14, c14, rfl, hmh, hk⟩
  have HM1 := hide (ModIn.fresh hk hmh (Nat.le_refl _)).at_
  have HKx1 := hide (hk.alloc (.cells #[.string md1.name, .int .i64 md1.tagging, .slice A12 md1.names.length c12, .slice A13 md1.types.length c13, .slice A14 md1.nodes.length c14] 30))
  have HKv2 := hide ((unhide HKv1).trans (unhide HKx1))
  clear hk hmh
  go_wp2_with fail
  generalize u1.alloc (.cells #[.string md1.name, .int .i64 md1.tagging, .slice A12 md1.names.length c12, .slice A13 md1.types.length c13, .slice A14 md1.nodes.length c14] 30) = v2 at HM1 HKx1 HKv2 ⊢
  generalize u1.heap.size = V1 at HM1 ⊢
  refine (unhide HMO2 _).mono ?_
  rintro e w'2 ⟨rfl, hw2⟩
  subst w'2
  go_wp2_with fail
  refine (unhide HPR2 _ (unhide HKv2)).mono ?_
  rintro e u2 ⟨A22, c22, A23, c23, A24, c24, rfl, hmh, hk⟩
  have HM2 := hide (ModIn.fresh hk hmh (Nat.le_refl _)).at_
  have HKx2 := hide (hk.alloc (.cells #[.string md2.name, .int .i64 md2.tagging, .slice A22 md2.names.length c22, .slice A23 md2.types.length c23, .slice A24 md2.nodes.length c24] 30))
  have HKv3 := hide ((unhide HKv2).trans (unhide HKx2))
  clear hk hmh
  go_wp2_with fail
  generalize u2.alloc (.cells #[.string md2.name, .int .i64 md2.tagging, .slice A22 md2.names.length c22, .slice A23 md2.types.length c23, .slice A24 md2.nodes.length c24] 30) = v3 at HM2 HKx2 HKv3 ⊢
  generalize u2.heap.size = V2 at HM2 ⊢
  refine bounds_last (unhide HA) (unhide HKv3) ((unhide HC).keeps (((unhide HKx0).trans (unhide HKx1)).trans (unhide HKx2))) (((unhide HM0).keeps ((unhide HKx1).trans (unhide HKx2))).con (unhide HN0) (unhide HL0) rfl) (((unhide HM1).keeps (unhide HKx2)).con (unhide HN1) (unhide HL1) rfl) ((unhide HM2).con (unhide HN2) (unhide HL2) rfl) (fun _ _ _ _ _ h => h) ?_
  intro y94 y95 y96 y97 y98 y99 y100 y101 y102 y103 y104 y105 y106 y107 y108 y109 y110 y111 y112 y113 y114 y115 y116 y117 y118 y119 y120 y121 y122 y123 y124 y125 y126 y127 y128 y129 y130 y131 y132 y133 y134 y135 y136 y137 y138 y139 y140 y141 y142 y143 y144 y145 y146 y147 y148 y149 y150 y151 z hkz
  have HKz := hide hkz
  clear hkz
  go_wp2
  go_ret
  exact ⟨rfl, unhide HKz⟩
set_option maxRecDepth 100000 in
set_option maxHeartbeats 16000000 in
theorem syntaxBounds_4f {w : World} (hL : LexW w) (a b n : Int) (h0 : -9223372036854775808 ≤ a) (h1 : a ≤ 9223372036854775807) (h2 : -9223372036854775808 ≤ b) (h3 : b ≤ 9223372036854775807) (hm' : wrap64 ((IntKind.u64.wrap n).tmod 5) = 4) : Calls Tryd.prog 3 #[.int .i64 a, .int .i64 b, .int .i64 n, .bool false] w fun e w' => e = .returned (.bool true) ∧ Keeps w w' := by
  have HA := hide (fun (w1 : World) (hk : Keeps w w1) => awake05_any (hL.keeps hk))
  have HNa := hide (fun w => number_help a h0 h1 w)
  have HNb := hide (fun w => number_help b h2 h3 w)
  have HLW := hide hL
  have hsa := num_size a
  have hsb := num_size b
  have hq1 : ¬ 9223372036854775807 < (numB a).size + 2 := by omega
  have hq2 : ¬ 9223372036854775807 < (numB a).size + 2 + (numB b).size := by omega
  have hq3 : ¬ 9223372036854775807 < (numB a).size + 5 := by omega
  have hq4 : ¬ 9223372036854775807 < 5 + (numB b).size := by omega
  have HK0 := hide (Keeps.refl w)
  clear hL
  have hsz := tB_size (num_pc a h0 h1) (num_pc b h2 h3) 4 false
  obtain ⟨md0, hpr0, kd0, o0, r0, hn0, hl0⟩ := bounds_any (unhide HLW) a b h0 h1 h2 h3 0 4 false (by decide) (by decide)
  have HPR0 := hide (fun (w1 : World) (hk : Keeps w w1) => (show Calls Tryd.prog 8 #[.string (⟨#[77, 32, 68, 69, 70, 73, 78, 73, 84, 73, 79, 78, 83, 32, 58, 58, 61, 32, 66, 69, 71, 73, 78, 32, 65, 32, 58, 58, 61, 32]⟩ ++ (⟨#[73, 78, 84, 69, 71, 69, 82, 32, 40]⟩ ++ (⟨#[77, 73, 78, 46, 46, 77, 65, 88]⟩) ++ ⟨#[41]⟩) ++ ⟨#[32, 69, 78, 68]⟩)] w1 (GivesM md0 0 0 w1) from hpr0 w1 hk))
  have HMO0 := hide (fun w => module05_any (⟨#[73, 78, 84, 69, 71, 69, 82, 32, 40]⟩ ++ (⟨#[77, 73, 78, 46, 46, 77, 65, 88]⟩) ++ ⟨#[41]⟩) w (by have := bndB_size 0 (tB 4 (numB a) (numB b) false); show (bndB 0 (tB 4 (numB a) (numB b) false)).size ≤ _; omega))
  have HN0 := hide hn0
  have HL0 := hide (show r0.length + 1 = 1 by rw [hl0]; rfl)
  clear hpr0 hn0 hl0
  obtain ⟨md1, hpr1, kd1, o1, r1, hn1, hl1⟩ := bounds_any (unhide HLW) a b h0 h1 h2 h3 1 4 false (by decide) (by decide)
  have HPR1 := hide (fun (w1 : World) (hk : Keeps w w1) => (show Calls Tryd.prog 8 #[.string (⟨#[77, 32, 68, 69, 70, 73, 78, 73, 84, 73, 79, 78, 83, 32, 58, 58, 61, 32, 66, 69, 71, 73, 78, 32, 65, 32, 58, 58, 61, 32]⟩ ++ (⟨#[79, 67, 84, 69, 84, 32, 83, 84, 82, 73, 78, 71, 32, 40, 83, 73, 90, 69, 32, 40]⟩ ++ (⟨#[77, 73, 78, 46, 46, 77, 65, 88]⟩) ++ ⟨#[41, 41]⟩) ++ ⟨#[32, 69, 78, 68]⟩)] w1 (GivesM md1 0 0 w1) from hpr1 w1 hk))
  have HMO1 := hide (fun w => module05_any (⟨#[79, 67, 84, 69, 84, 32, 83, 84, 82, 73, 78, 71, 32, 40, 83, 73, 90, 69, 32, 40]⟩ ++ (⟨#[77, 73, 78, 46, 46, 77, 65, 88]⟩) ++ ⟨#[41, 41]⟩) w (by have := bndB_size 1 (tB 4 (numB a) (numB b) false); show (bndB 1 (tB 4 (numB a) (numB b) false)).size ≤ _; omega))
  have HN1 := hide hn1
  have HL1 := hide (show r1.length + 1 = 1 by rw [hl1]; rfl)
  clear hpr1 hn1 hl1
  obtain ⟨md2, hpr2, kd2, o2, r2, hn2, hl2⟩ := bounds_any (unhide HLW) a b h0 h1 h2 h3 2 4 false (by decide) (by decide)
  have HPR2 := hide (fun (w1 : World) (hk : Keeps w w1) => (show Calls Tryd.prog 8 #[.string (⟨#[77, 32, 68, 69, 70, 73, 78, 73, 84, 73, 79, 78, 83, 32, 58, 58, 61, 32, 66, 69, 71, 73, 78, 32, 65, 32, 58, 58, 61, 32]⟩ ++ (⟨#[83, 69, 81, 85, 69, 78, 67, 69, 32, 40, 83, 73, 90, 69, 32, 40]⟩ ++ (⟨#[77, 73, 78, 46, 46, 77, 65, 88]⟩) ++ ⟨#[41, 41, 32, 79, 70, 32, 78, 85, 76, 76]⟩) ++ ⟨#[32, 69, 78, 68]⟩)] w1 (GivesM md2 0 0 w1) from hpr2 w1 hk))
  have HMO2 := hide (fun w => module05_any (⟨#[83, 69, 81, 85, 69, 78, 67, 69, 32, 40, 83, 73, 90, 69, 32, 40]⟩ ++ (⟨#[77, 73, 78, 46, 46, 77, 65, 88]⟩) ++ ⟨#[41, 41, 32, 79, 70, 32, 78, 85, 76, 76]⟩) w (by have := bndB_size 2 (tB 4 (numB a) (numB b) false); show (bndB 2 (tB 4 (numB a) (numB b) false)).size ≤ _; omega))
  have HN2 := hide hn2
  have HL2 := hide (show r2.length + 1 = 2 by rw [hl2]; rfl)
  clear hpr2 hn2 hl2
  clear hsz
  go_enter Tryd.func3, Tryd.ntmps3
  go_wp2_with fail
  refine (unhide HNa _).mono ?_
  rintro e n0 ⟨rfl, hk⟩
  have HKn0 := hide ((unhide HK0).trans hk)
  clear hk
  go_wp2_with fail
  refine (unhide HNb _).mono ?_
  rintro e n1 ⟨rfl, hk⟩
  have HKn1 := hide ((unhide HKn0).trans hk)
  clear hk
  go_wp2_with fail
  refine (unhide HNa _).mono ?_
  rintro e n2 ⟨rfl, hk⟩
  have HKn2 := hide ((unhide HKn1).trans hk)
  clear hk
  go_wp2_with fail
  refine (unhide HNa _).mono ?_
  rintro e n3 ⟨rfl, hk⟩
  have HKn3 := hide ((unhide HKn2).trans hk)
  clear hk
  go_wp2_with fail
  refine (unhide HNb _).mono ?_
  rintro e n4 ⟨rfl, hk⟩
  have HKn4 := hide ((unhide HKn3).trans hk)
  clear hk
  go_wp2_with fail
  have hsw : (n4.alloc (.cells #[.string (numB a ++ ⟨#[46, 46]⟩ ++ numB b), .string (numB a), .string (numB a ++ ⟨#[46, 46, 77, 65, 88]⟩), .string (⟨#[77, 73, 78, 46, 46]⟩ ++ numB b), .string ⟨#[77, 73, 78, 46, 46, 77, 65, 88]⟩] 9)).heap.size = n4.heap.size + 1 := World.size_alloc _ _
  have HC := hide (Blk.new (n4.alloc (.cells #[.string (numB a ++ ⟨#[46, 46]⟩ ++ numB b), .string (numB a), .string (numB a ++ ⟨#[46, 46, 77, 65, 88]⟩), .string (⟨#[77, 73, 78, 46, 46]⟩ ++ numB b), .string ⟨#[77, 73, 78, 46, 46, 77, 65, 88]⟩] 9)) 26 #[.bool true, .bool false, .bool false, .bool false, .int .i64 0, .int .i64 0])
  rw [hsw] at HC
  clear hsw
  have HKv0 := hide (show Keeps w ((n4.alloc (.cells #[.string (numB a ++ ⟨#[46, 46]⟩ ++ numB b), .string (numB a), .string (numB a ++ ⟨#[46, 46, 77, 65, 88]⟩), .string (⟨#[77, 73, 78, 46, 46]⟩ ++ numB b), .string ⟨#[77, 73, 78, 46, 46, 77, 65, 88]⟩] 9)).alloc (.cells #[.bool true, .bool false, .bool false, .bool false, .int .i64 0, .int .i64 0] 26)) from ((unhide HKn4).alloc _).alloc _)
  generalize ((n4.alloc (.cells #[.string (numB a ++ ⟨#[46, 46]⟩ ++ numB b), .string (numB a), .string (numB a ++ ⟨#[46, 46, 77, 65, 88]⟩), .string (⟨#[77, 73, 78, 46, 46]⟩ ++ numB b), .string ⟨#[77, 73, 78, 46, 46, 77, 65, 88]⟩] 9)).alloc (.cells #[.bool true, .bool false, .bool false, .bool false, .int .i64 0, .int .i64 0] 26)) = v0 at HC HKv0 ⊢
  generalize n4.heap.size + 1 = Vc at HC ⊢
  refine (unhide HMO0 _).mono ?_
  rintro e w'0 ⟨rfl, hw0⟩
  subst w'0
  go_wp2_with fail
  refine (unhide HPR0 _ (unhide HKv0)).mono ?_
  rintro e u0 ⟨A02, c02, A03, c03, A04, c04, rfl, hmh, hk⟩
  have HM0 := hide (ModIn.fresh hk hmh (Nat.le_refl _)).at_
  have HKx0 := hide (hk.alloc (.cells #[.string md0.name, .int .i64 md0.tagging, .slice A02 md0.names.length c02, .slice A03 md0.types.length c03, .slice A04 md0.nodes.length c04] 30))
  have HKv1 := hide ((unhide HKv0).trans (unhide HKx0))
  clear hk hmh
  go_wp2_with fail
  generalize u0.alloc (.cells #[.string md0.name, .int .i64 md0.tagging, .slice A02 md0.names.length c02, .slice A03 md0.types.length c03, .slice A04 md0.nodes.length c04] 30) = v1 at HM0 HKx0 HKv1 ⊢
  generalize u0.heap.size = V0 at HM0 ⊢
  refine (unhide HMO1 _).mono ?_
  rintro e w'1 ⟨rfl, hw1⟩
  subst w'1
  go_wp2_with fail
  refine (unhide HPR1 _ (unhide HKv1)).mono ?_
  rintro e u1 ⟨A12, c12, A13, c13, A14, c14, rfl, hmh, hk⟩
  have HM1 := hide (ModIn.fresh hk hmh (Nat.le_refl _)).at_
  have HKx1 := hide (hk.alloc (.cells #[.string md1.name, .int .i64 md1.tagging, .slice A12 md1.names.length c12, .slice A13 md1.types.length c13, .slice A14 md1.nodes.length c14] 30))
  have HKv2 := hide ((unhide HKv1).trans (unhide HKx1))
  clear hk hmh
  go_wp2_with fail
  generalize u1.alloc (.cells #[.string md1.name, .int .i64 md1.tagging, .slice A12 md1.names.length c12, .slice A13 md1.types.length c13, .slice A14 md1.nodes.length c14] 30) = v2 at HM1 HKx1 HKv2 ⊢
  generalize u1.heap.size = V1 at HM1 ⊢
  refine (unhide HMO2 _).mono ?_
  rintro e w'2 ⟨rfl, hw2⟩
  subst w'2
  go_wp2_with fail
  refine (unhide HPR2 _ (unhide HKv2)).mono ?_
  rintro e u2 ⟨A22, c22, A23, c23, A24, c24, rfl, hmh, hk⟩
  have HM2 := hide (ModIn.fresh hk hmh (Nat.le_refl _)).at_
  have HKx2 := hide (hk.alloc (.cells #[.string md2.name, .int .i64 md2.tagging, .slice A22 md2.names.length c22, .slice A23 md2.types.length c23, .slice A24 md2.nodes.length c24] 30))
  have HKv3 := hide ((unhide HKv2).trans (unhide HKx2))
  clear hk hmh
  go_wp2_with fail
  generalize u2.alloc (.cells #[.string md2.name, .int .i64 md2.tagging, .slice A22 md2.names.length c22, .slice A23 md2.types.length c23, .slice A24 md2.nodes.length c24] 30) = v3 at HM2 HKx2 HKv3 ⊢
  generalize u2.heap.size = V2 at HM2 ⊢
  refine bounds_last (unhide HA) (unhide HKv3) ((unhide HC).keeps (((unhide HKx0).trans (unhide HKx1)).trans (unhide HKx2))) (((unhide HM0).keeps ((unhide HKx1).trans (unhide HKx2))).con (unhide HN0) (unhide HL0) rfl) (((unhide HM1).keeps (unhide HKx2)).con (unhide HN1) (unhide HL1) rfl) ((unhide HM2).con (unhide HN2) (unhide HL2) rfl) (fun _ _ _ _ _ h => h) ?_
  intro y94 y95 y96 y97 y98 y99 y100 y101 y102 y103 y104 y105 y106 y107 y108 y109 y110 y111 y112 y113 y114 y115 y116 y117 y118 y119 y120 y121 y122 y123 y124 y125 y126 y127 y128 y129 y130 y131 y132 y133 y134 y135 y136 y137 y138 y139 y140 y141 y142 y143 y144 y145 y146 y147 y148 y149 y150 y151 z hkz
  have HKz := hide hkz
  clear hkz
  go_wp2
  go_ret
  exact ⟨rfl, unhide HKz⟩
theorem syntaxBounds_any {w : World} (hL : LexW w) (a b n : Int) (m : Bool) (h0 : -9223372036854775808 ≤ a) (h1 : a ≤ 9223372036854775807) (h2 : -9223372036854775808 ≤ b) (h3 : b ≤ 9223372036854775807) : Calls Tryd.prog 3 #[.int .i64 a, .int .i64 b, .int .i64 n, .bool m] w fun e w' => e = .returned (.bool true) ∧ Keeps w w' := by
  obtain ⟨k, hk5, hk⟩ := mod_nat n 5 (by decide) (by decide)
  have hm' : wrap64 ((IntKind.u64.wrap n).tmod 5) = (k : Int) := hk
  rcases (show k = 0 ∨ k = 1 ∨ k = 2 ∨ k = 3 ∨ k = 4 by omega) with rfl | rfl | rfl | rfl | rfl
  · cases m
    · exact syntaxBounds_0f hL a b n h0 h1 h2 h3 hm'
    · exact syntaxBounds_0t hL a b n h0 h1 h2 h3 hm'
  · cases m
    · exact syntaxBounds_1f hL a b n h0 h1 h2 h3 hm'
    · exact syntaxBounds_1t hL a b n h0 h1 h2 h3 hm'
  · cases m
    · exact syntaxBounds_2f hL a b n h0 h1 h2 h3 hm'
    · exact syntaxBounds_2t hL a b n h0 h1 h2 h3 hm'
  · cases m
    · exact syntaxBounds_3f hL a b n h0 h1 h2 h3 hm'
    · exact syntaxBounds_3t hL a b n h0 h1 h2 h3 hm'
  · cases m
    · exact syntaxBounds_4f hL a b n h0 h1 h2 h3 hm'
    · exact syntaxBounds_4t hL a b n h0 h1 h2 h3 hm'
end Go.Proofs.YtckcbgijddglpaaDoor
