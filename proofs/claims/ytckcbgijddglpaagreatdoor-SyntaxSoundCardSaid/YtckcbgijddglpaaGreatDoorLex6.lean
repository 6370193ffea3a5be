/- The reader takes a string. -/
import Derived.Test.YtckcbgijddglpaaGreatDoorLex5
import Derived.Test.YtckcbgijddglpaaGreatDoorLexN4
import Derived.Deep.RegionHeld3
import Derived.Lib.OthersKept
namespace Go.Proofs.YtckcbgijddglpaaGreatDoor
open Go.ChangeShapes Go.WideShapes Go.ChangeAt Go.RowKit Go.PlainAid
set_option linter.unusedVariables false

def TokG (w : World) (g : Nat) (s : ByteArray) (v : Value) (r : Option Tok) (k : Int) (e : Ending) (w' : World) : Prop :=
  ∃ x b a', e = .returned (.tuple #[.string x, .bool b]) ∧ LX w' g s a' v ∧ Fr g w w' ∧ r = if b = true then some (k, x, a') else none
theorem Fr.below {g : Nat} {w wr w' : World} (h : Fr g w wr) (k : Below w.heap.size wr w') : Fr g w w' :=
  ⟨k.os.trans h.1, k.tape.trans h.2.1, k.output.trans h.2.2.1, Nat.le_trans h.2.2.2.1 k.size, fun b hb hg => (k.block b hb).trans (h.2.2.2.2 b hb hg)⟩
theorem LX.below {B : Nat} {w w' : World} {g : Nat} {s : ByteArray} {a : Nat} {v : Value} (h : LX w g s a v) (hg : g < B) (k : Below B w w') : LX w' g s a v := (k.block g hg).trans h
theorem LX.addm {w : World} {g : Nat} {s : ByteArray} {a : Nat} {v : Value} (h : LX w g s a v) (m : Nat) : LX (w.setCell ⟨g, 1, none⟩ (.int .i64 ((a : Int) + ((m : Int) + 1)))) g s (a + m + 1) v := by
  have := h.add (m + 1)
  rw [show ((m + 1 : Nat) : Int) = (m : Int) + 1 by omega] at this
  exact this
abbrev IsB (B : Nat) (l : List UInt8) (w : World) : Prop := Lib.IsBuilder 127 5 B B (Lib.byteCells l) w
theorem isB_set {B : Nat} {l : List UInt8} {w : World} (h : IsB B l w) {g : Nat} (hg : g < B) (i : Nat) (u : Value) : IsB B l (w.setCell ⟨g, i, none⟩ u) := by
  have one : ∀ p, Lib.BuilderAt 127 5 B B p (Lib.byteCells l) w → Lib.BuilderAt 127 5 B B p (Lib.byteCells l) (w.setCell ⟨g, i, none⟩ u) := by
    rintro p ⟨h1, v, h2, h3, h4⟩
    exact ⟨h1, v, (Below.heap_setCell w ⟨g, i, none⟩ u B (show B ≠ g by omega)).trans h2, ownsRow_setCell_below h3 (a := ⟨g, i, none⟩) hg u, h4⟩
  rcases h with h | h
  · exact .inl (one _ h)
  · exact .inr (one _ h)
theorem isB_drewN {B : Nat} {l : List UInt8} {w : World} (h : IsB B l w) (n : Nat) : IsB B l (w.drewN n) := h

set_option maxRecDepth 100000 in
set_option maxHeartbeats 4000000 in
theorem quoted_any {W w : World} (hL : LexW W) (hkW : Keeps W w) {g : Nat} {s : ByteArray} {a : Nat} {v : Value} (h : LX w g s a v) (ha : a < s.size) (hs : s.size ≤ 1000000000) (hg : W.heap.size ≤ g) :
    Calls Tryz.prog 63 #[.pointer (some ⟨g, 0, none⟩)] w (TokG w g s v (quoAt s a) 7) := by
  obtain ⟨h0, h1, h2, h3⟩ := h.cells
  have HH := hide h
  have HL := hide (And.intro hL hkW)
  have HKA := hide ((Keeps.refl (w.setCell ⟨g, 1, none⟩ (.int .i64 ((a : Int) + 1)))).alloc (.cells #[.pointer none, .slice none 0 0] 127))
  have HB0 : Hid (IsB w.heap.size [] ((w.setCell ⟨g, 1, none⟩ (.int .i64 ((a : Int) + 1))).alloc (.cells #[.pointer none, .slice none 0 0] 127))) := by
    have := Lib.fresh_isBuilder 127 5 (w.setCell ⟨g, 1, none⟩ (.int .i64 ((a : Int) + 1)))
    rw [World.size_setCell] at this
    exact this
  clear h hL hkW
  go_enter Tryz.func63, Tryz.ntmps63
  go_wp2
  clear h0 h1 h2
  go_loopg [5] (s.size - (a + 1)) (fun k (_ : Value) wr => ∃ a' out, LX wr g s a' v ∧ Fr g w wr ∧ IsB w.heap.size out wr ∧ out.length ≤ a' ∧ a' ≤ s.size ∧ k = s.size - a' ∧ qtAt s (a + 1) [] = qtAt s a' out)
  case atStart => exact ⟨a + 1, [], ((unhide HH).add1).keeps (unhide HKA), ((Fr.refl g w).set 1 _).keeps (unhide HKA), unhide HB0, Nat.zero_le _, by omega, rfl, rfl⟩
  case round =>
    obtain ⟨a', out, hx, hf, hb, hol, hle, hk, hv⟩ := hrel
    obtain ⟨h0, h1, h2, h4⟩ := hx.cells
    have hbw : w.heap.size ≤ wr.heap.size := hf.2.2.2.1
    have HX := hide hx
    have HF := hide hf
    have HV := hide hv
    have HK := hide hk
    have HB := hide hb
    clear hx hf hv hk hb
    have HI := hide (fun ww => Tryz.strings_IndexByte (s.extract a' s.size) 34 ww)
    rcases quote_at s hle with ⟨e1, hno⟩ | ⟨m, e1, hlt, h34, hno⟩
    · rw [e1] at HI
      have HE := hide (qt_to_end s out hle hno)
      clear e1 hno
      go_wp2
      go_quiet (exact Calls.quiet_of_same (unhide HI _))
      go_wp2
      go_ret2
      exact ⟨_, false, a', rfl, (unhide HX).drewN _, (unhide HF).drewN _, by rw [quoAt, unhide HV, unhide HE]; rfl⟩
    · rw [e1] at HI
      have HQ := hide (qt_run s m a' out (by omega) hno)
      have HQ2 := hide (qtAt_eq s (a' + m) (out ++ (sub s a' (a' + m)).data.toList))
      have hmz : ¬ ((m : Int) < 0) := by omega
      have hltI : (a' : Int) + (m : Int) ≤ (s.size : Int) := by omega
      have hleI : (a' : Int) ≤ (a' : Int) + (m : Int) := by omega
      have hwr : IntKind.i64.wrap ((a' : Int) + (m : Int)) = (a' : Int) + (m : Int) := IntWalk.i64_in _ ⟨by omega, by omega⟩
      have h0m : (0 : Int) ≤ (a' : Int) + (m : Int) := by omega
      have htn : ((a' : Int) + (m : Int)).toNat = a' + m := by omega
      have HT := hide htn
      have H34 := hide h34
      have HWS := hide (fun n => Tryz.Builder_WriteString w.heap.size w.heap.size (Lib.byteCells out) (s.extract a' (a' + m)) (wr.drewN n) (isB_drewN (unhide HB) n) (by rw [Lib.byteCells_length, show (s.extract a' (a' + m)).size = a' + m - a' from sub_size s a' _ (by omega)]; omega) hbw)
      have HKC := hide (fun n w3 (hk3 : Below w.heap.size (wr.drewN n) w3) => (show w3.cell? ⟨g, 0, none⟩ = some (.string s) ∧ w3.cell? ⟨g, 1, none⟩ = some (.int .i64 (a' : Nat)) from
        have hx3 := ((unhide HX).drewN n).below h3 hk3
        ⟨hx3.cells.1, hx3.cells.2.1⟩))
      have HP := hide (fun W3 (hx3 : LX W3 g s (a' + m + 1) v) => peek00_any hx3 (by omega) hs (bt s (a' + m + 1)) rfl)
      clear e1 hno h34
      go_wp2
      go_quiet (exact Calls.quiet_of_same (unhide HI _))
      go_wp2
      refine wp_region_held_drew (S := fun w' => w'.cell? ⟨g, 0, none⟩ = some (.string s) ∧ w'.cell? ⟨g, 1, none⟩ = some (.int .i64 (a' : Nat))) (by kernel_rfl) ?_ (fun hHeld => ?_)
      · exact ⟨h0, h1⟩
      refine wpAnyH_take (i := 0) (oi := { dst := some 25, op := Op.move (Operand.tmp 0), type := 104, pos := "reader.go:107", after := #[], guard := none }) (v := ?_) rfl (by kernel_rfl) (by kernel_rfl) (by kernel_rfl) (fun _ _ _ h => h) (Or.inl ⟨by rfl, ?_⟩) (by assumption) ?_
      rotate_left
      · intro w hSw
        go_simp
        try with_reducible rfl
      try simp only [Act.put, List.setIfInBounds_toArray, List.set_cons_zero, List.set_cons_succ]
      refine wpAnyH_take (i := 1) (oi := { dst := some 26, op := Op.nilCheck (Operand.tmp 25), type := 0, pos := "reader.go:107", after := #[{ on := 0, ground := Ground.data }], guard := none }) (v := ?_) rfl (by kernel_rfl) (by kernel_rfl) (by kernel_rfl) (fun _ _ _ h => h) (Or.inl ⟨by rfl, ?_⟩) (by assumption) ?_
      rotate_left
      · intro w hSw
        go_simp
        try with_reducible rfl
      try simp only [Act.put, List.setIfInBounds_toArray, List.set_cons_zero, List.set_cons_succ]
      refine wpAnyH_take (i := 2) (oi := { dst := some 27, op := Op.fieldAddr 78 (Operand.tmp 26) 0, type := 0, pos := "reader.go:107", after := #[{ on := 1, ground := Ground.data }], guard := none }) (v := ?_) rfl (by kernel_rfl) (by kernel_rfl) (by kernel_rfl) (fun _ _ _ h => h) (Or.inl ⟨by rfl, ?_⟩) (by assumption) ?_
      rotate_left
      · intro w hSw
        go_simp
        try with_reducible rfl
      try simp only [Act.put, List.setIfInBounds_toArray, List.set_cons_zero, List.set_cons_succ]
      refine wpAnyH_take (i := 3) (oi := { dst := some 28, op := Op.load 9 (Operand.tmp 27), type := 9, pos := "reader.go:107", after := #[{ on := 2, ground := Ground.data }], guard := none }) (v := ?_) rfl (by kernel_rfl) (by kernel_rfl) (by kernel_rfl) (fun _ _ _ h => h) (Or.inl ⟨by rfl, ?_⟩) (by assumption) ?_
      rotate_left
      · intro w hSw
        go_simp
        try with_reducible rfl
      try simp only [Act.put, List.setIfInBounds_toArray, List.set_cons_zero, List.set_cons_succ]
      refine wpAnyH_take (i := 4) (oi := { dst := some 29, op := Op.move (Operand.tmp 0), type := 104, pos := "reader.go:107", after := #[], guard := none }) (v := ?_) rfl (by kernel_rfl) (by kernel_rfl) (by kernel_rfl) (fun _ _ _ h => h) (Or.inl ⟨by rfl, ?_⟩) (by assumption) ?_
      rotate_left
      · intro w hSw
        go_simp
        try with_reducible rfl
      try simp only [Act.put, List.setIfInBounds_toArray, List.set_cons_zero, List.set_cons_succ]
      refine wpAnyH_take (i := 5) (oi := { dst := some 30, op := Op.nilCheck (Operand.tmp 29), type := 0, pos := "reader.go:107", after := #[{ on := 4, ground := Ground.data }], guard := none }) (v := ?_) rfl (by kernel_rfl) (by kernel_rfl) (by kernel_rfl) (fun _ _ _ h => h) (Or.inl ⟨by rfl, ?_⟩) (by assumption) ?_
      rotate_left
      · intro w hSw
        go_simp
        try with_reducible rfl
      try simp only [Act.put, List.setIfInBounds_toArray, List.set_cons_zero, List.set_cons_succ]
      refine wpAnyH_take (i := 6) (oi := { dst := some 31, op := Op.fieldAddr 78 (Operand.tmp 30) 1, type := 0, pos := "reader.go:107", after := #[{ on := 5, ground := Ground.data }], guard := none }) (v := ?_) rfl (by kernel_rfl) (by kernel_rfl) (by kernel_rfl) (fun _ _ _ h => h) (Or.inl ⟨by rfl, ?_⟩) (by assumption) ?_
      rotate_left
      · intro w hSw
        go_simp
        try with_reducible rfl
      try simp only [Act.put, List.setIfInBounds_toArray, List.set_cons_zero, List.set_cons_succ]
      refine wpAnyH_take (i := 7) (oi := { dst := some 32, op := Op.load 3 (Operand.tmp 31), type := 3, pos := "reader.go:107", after := #[{ on := 6, ground := Ground.data }], guard := none }) (v := ?_) rfl (by kernel_rfl) (by kernel_rfl) (by kernel_rfl) (fun _ _ _ h => h) (Or.inl ⟨by rfl, ?_⟩) (by assumption) ?_
      rotate_left
      · intro w hSw
        go_simp
        try with_reducible rfl
      try simp only [Act.put, List.setIfInBounds_toArray, List.set_cons_zero, List.set_cons_succ]
      refine wpAnyH_take (i := 8) (oi := { dst := some 33, op := Op.move (Operand.tmp 0), type := 104, pos := "reader.go:107", after := #[], guard := none }) (v := ?_) rfl (by kernel_rfl) (by kernel_rfl) (by kernel_rfl) (fun _ _ _ h => h) (Or.inl ⟨by rfl, ?_⟩) (by assumption) ?_
      rotate_left
      · intro w hSw
        go_simp
        try with_reducible rfl
      try simp only [Act.put, List.setIfInBounds_toArray, List.set_cons_zero, List.set_cons_succ]
      refine wpAnyH_take (i := 9) (oi := { dst := some 34, op := Op.nilCheck (Operand.tmp 33), type := 0, pos := "reader.go:107", after := #[{ on := 8, ground := Ground.data }], guard := none }) (v := ?_) rfl (by kernel_rfl) (by kernel_rfl) (by kernel_rfl) (fun _ _ _ h => h) (Or.inl ⟨by rfl, ?_⟩) (by assumption) ?_
      rotate_left
      · intro w hSw
        go_simp
        try with_reducible rfl
      try simp only [Act.put, List.setIfInBounds_toArray, List.set_cons_zero, List.set_cons_succ]
      refine wpAnyH_take (i := 10) (oi := { dst := some 35, op := Op.fieldAddr 78 (Operand.tmp 34) 1, type := 0, pos := "reader.go:107", after := #[{ on := 9, ground := Ground.data }], guard := none }) (v := ?_) rfl (by kernel_rfl) (by kernel_rfl) (by kernel_rfl) (fun _ _ _ h => h) (Or.inl ⟨by rfl, ?_⟩) (by assumption) ?_
      rotate_left
      · intro w hSw
        go_simp
        try with_reducible rfl
      try simp only [Act.put, List.setIfInBounds_toArray, List.set_cons_zero, List.set_cons_succ]
      refine wpAnyH_take (i := 11) (oi := { dst := some 36, op := Op.load 3 (Operand.tmp 35), type := 3, pos := "reader.go:107", after := #[{ on := 10, ground := Ground.data }], guard := none }) (v := ?_) rfl (by kernel_rfl) (by kernel_rfl) (by kernel_rfl) (fun _ _ _ h => h) (Or.inl ⟨by rfl, ?_⟩) (by assumption) ?_
      rotate_left
      · intro w hSw
        go_simp
        try with_reducible rfl
      try simp only [Act.put, List.setIfInBounds_toArray, List.set_cons_zero, List.set_cons_succ]
      refine wpAnyH_take (i := 12) (oi := { dst := some 37, op := Op.move (Operand.tmp 5), type := 3, pos := "reader.go:107", after := #[], guard := none }) (v := ?_) rfl (by kernel_rfl) (by kernel_rfl) (by kernel_rfl) (fun _ _ _ h => h) (Or.inl ⟨by rfl, ?_⟩) (by assumption) ?_
      rotate_left
      · intro w hSw
        go_simp
        try with_reducible rfl
      try simp only [Act.put, List.setIfInBounds_toArray, List.set_cons_zero, List.set_cons_succ]
      refine wpAnyH_take (i := 13) (oi := { dst := some 38, op := Op.binOp BinOp.add 3 (Operand.tmp 36) (Operand.tmp 37) 3, type := 3, pos := "reader.go:107", after := #[{ on := 11, ground := Ground.data }, { on := 12, ground := Ground.data }], guard := none }) (v := ?_) rfl (by kernel_rfl) (by kernel_rfl) (by kernel_rfl) (fun _ _ _ h => h) (Or.inl ⟨by rfl, ?_⟩) (by assumption) ?_
      rotate_left
      · intro w hSw
        go_simp
        try with_reducible rfl
      try simp only [Act.put, List.setIfInBounds_toArray, List.set_cons_zero, List.set_cons_succ]
      refine wpAnyH_take (i := 14) (oi := { dst := some 39, op := Op.slice 9 (Operand.tmp 28) (some (Operand.tmp 32)) (some (Operand.tmp 38)) none, type := 9, pos := "reader.go:107", after := #[{ on := 3, ground := Ground.data }, { on := 7, ground := Ground.data }, { on := 13, ground := Ground.data }], guard := none }) (v := ?_) rfl (by kernel_rfl) (by kernel_rfl) (by kernel_rfl) (fun _ _ _ h => h) (Or.inl ⟨by rfl, ?_⟩) (by assumption) ?_
      rotate_left
      · intro w hSw
        go_simp
        try with_reducible rfl
      try simp only [Act.put, List.setIfInBounds_toArray, List.set_cons_zero, List.set_cons_succ]
      refine wpAnyH_ready (rs := [15]) (by kernel_rfl) (by simp) ?_
      refine AllReadyH.cons (o := { dst := some 40, op := Op.call { callee := Callee.value (Operand.func 86), args := #[Operand.tmp 4, Operand.tmp 39], argTypes := #[127, 9] }, type := 129, pos := "reader.go:107", after := #[{ on := 14, ground := Ground.data }], guard := none }) rfl (fun K hK => ?_) AllReadyH.nil
      go_simp
      go_at_call 86
      refine (unhide HWS _).mono ?_
      rintro e w3 ⟨rfl, hb3, hk3⟩
      have HB3 := hide hb3
      have HK3 := hide hk3
      have hc3 := unhide HKC _ _ hk3
      clear hb3 hk3
      go_wp2_with fail
      refine hK.out _ _ ?_ (fun hHeld => ?_)
      · exact hc3
      clear hK K
      try simp only [Act.put, List.setIfInBounds_toArray, List.set_cons_zero, List.set_cons_succ]
      refine wpAnyH_done (by kernel_rfl) ?_ _
      have HX3 := hide (((unhide HX).drewN _).below h3 (unhide HK3))
      have HF3 := hide (((unhide HF).drewN _).below (unhide HK3))
      have HB4 : Hid (IsB w.heap.size (out ++ (sub s a' (a' + m)).data.toList) w3) := by
        have hb := unhide HB3
        rw [show Lib.byteCells out ++ Lib.strCells (s.extract a' (a' + m)) = Lib.byteCells (out ++ (sub s a' (a' + m)).data.toList) from (cells_append _ _).symm] at hb
        exact .inr hb
      have hg3 := (unhide HX3).cells
      obtain ⟨g0, g1, g2, g4⟩ := hg3
      clear hHeld h0 h1 h2 h4
      have HBW3 := hide (Nat.le_trans hbw (show wr.heap.size ≤ w3.heap.size from (unhide HK3).size))
      have HL3 := hide (show LexW w3 from (unhide HL).1.keeps ((unhide HL).2.fr (unhide HF3) hg))
      have hl3 : (out ++ (sub s a' (a' + m)).data.toList).length ≤ a' + m := by rw [List.length_append, ← Lib.size_eq, sub_size s a' _ (by omega)]; omega
      generalize hll : out ++ (sub s a' (a' + m)).data.toList = l at *
      generalize hcc : bt s (a' + m + 1) = c at *
      have HCC := hide hcc
      have HQ3 : Hid (qtAt s (a + 1) [] = if c = 34 then qtAt s (a' + m + 2) (l ++ [34]) else some (l, a' + m + 1)) := by
        have h34 := unhide H34
        rw [Hid, unhide HV, unhide HQ, unhide HQ2, if_neg (by omega), if_neg (by simp [h34])]
      clear hcc hll HQ HQ2 HV HB3 hc3 H34
      go_wp2_with fail
      with_reducible refine (unhide HP _ ((unhide HX3).addm m)).mono ?_
      rintro e w5 ⟨rfl, j, rfl⟩
      have HX4 := hide (((unhide HX3).addm m).drewN j)
      have HF4 := hide (((unhide HF3).set 1 (.int .i64 ((a' : Int) + ((m : Int) + 1)))).drewN j)
      have HB5 := hide (isB_drewN (isB_set (unhide HB4) h3 1 (.int .i64 ((a' : Int) + ((m : Int) + 1)))) j)
      have HBW5 := hide (show w.heap.size ≤ ((w3.setCell ⟨g, 1, none⟩ (.int .i64 ((a' : Int) + ((m : Int) + 1)))).drewN j).heap.size from (unhide HF4).2.2.2.1)
      have HL5 := hide (show LexW ((w3.setCell ⟨g, 1, none⟩ (.int .i64 ((a' : Int) + ((m : Int) + 1)))).drewN j) from (unhide HL).1.keeps ((unhide HL).2.fr (unhide HF4) hg))
      generalize (w3.setCell ⟨g, 1, none⟩ (.int .i64 ((a' : Int) + ((m : Int) + 1)))).drewN j = w6 at *
      clear g0 g1 g2 g4
      by_cases q34 : c = 34
      · subst q34
        go_wp2_with fail
        refine (Tryz.Builder_WriteByte w.heap.size w.heap.size (Lib.byteCells l) 34 w6 (unhide HB5) (by rw [Lib.byteCells_length]; omega) (unhide HBW5)).mono ?_
        rintro e w7 ⟨rfl, hb7, hk7⟩
        have HX7 := hide ((unhide HX4).below h3 hk7)
        have HF7 := hide ((unhide HF4).below hk7)
        have HB7 : Hid (IsB w.heap.size (l ++ [34]) w7) := by
          rw [show Lib.byteCells l ++ [.int .u8 34] = Lib.byteCells (l ++ [34]) by rw [cells_append]; rfl] at hb7
          exact .inr hb7
        obtain ⟨g0, g1, g2, g4⟩ := (unhide HX7).cells
        clear hb7 hk7
        have hle3 : a' + m + 1 < s.size := lt_of_bt (by rw [unhide HCC]; omega)
        generalize hA : a' + m + 1 = A at *
        go_wp2
        go_roundg (s.size - (A + 1))
        case measure => have := unhide HK; omega
        case rel => exact ⟨A + 1, l ++ [34], (unhide HX7).add1, (unhide HF7).set 1 _, isB_set (unhide HB7) h3 _ _, by rw [List.length_append]; simp; omega, by omega, rfl, by rw [unhide HQ3, if_pos trivial, show a' + m + 2 = A + 1 by omega]⟩
      · have e34 : (c != 34) = true := by rw [bne_iff_ne]; exact q34
        go_wp2_with fail
        refine (Tryz.Builder_String_any_f w.heap.size w.heap.size l w6 (Lib.IsBuilderF.of (unhide HB5)) (unhide HBW5)).mono ?_
        rintro e w7 ⟨rfl, hb7, hk7⟩
        have HB7 := hide hb7
        have HK7 := hide hk7
        clear hb7 hk7
        go_wp2_with fail
        refine (Tryz.Builder_String_any_f w.heap.size w.heap.size l w7 (unhide HB7) (Nat.le_trans (unhide HBW5) (unhide HK7).size)).mono ?_
        rintro e w8 ⟨rfl, hb8, hk8⟩
        have HF8 := hide (((unhide HF4).below (unhide HK7)).below hk8)
        have HX8 := hide (((unhide HX4).below h3 (unhide HK7)).below h3 hk8)
        clear hb8 hk8
        go_wp2_with fail
        refine (Tryz.utf8_ValidString ⟨l.toArray⟩ w8 (by show (l.toArray).size ≤ _; rw [List.size_toArray]; omega) ((unhide HL).1.keeps ((unhide HL).2.fr (unhide HF8) hg)).1).mono ?_
        rintro e w9 ⟨rfl, hk9⟩
        have HX9 := hide ((unhide HX8).keeps hk9)
        have HF9 := hide ((unhide HF8).keeps hk9)
        clear hk9
        go_wp2
        go_ret2
        exact ⟨_, _, a' + m + 1, rfl, unhide HX9, unhide HF9, by rw [quoAt, unhide HQ3, if_neg q34]⟩
end Go.Proofs.YtckcbgijddglpaaGreatDoor
