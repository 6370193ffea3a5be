/- The functions that LengthMany hands to TakeMany. -/
import Derived.Test.YtgaapigagglgbaaLenM1
import Derived.Deep.RegionHeld3
namespace Go.Proofs.Ytgaapigagglgbaa
open Go.ChangeShapes Go.WideShapes Go.ChangeAt Go.RowKit
set_option linter.unusedVariables false

theorem u64_info : (Try.prog.info? 40).map (fun i => (i.zero, i.size, i.bytes)) = some (some (.int .u64 0), 1, 8) := by kernel_rfl
theorem u64_one (x : Int) : ∀ u ∈ [Value.int .u64 x], u.oneCell' = true := by
  intro u hu
  simp only [List.mem_singleton] at hu
  subst hu; rfl
theorem one_u64 (w : World) (x : Int) : Reads (w.alloc (.cells #[.int .u64 x] 40)) (w.heap.size + 1) 1 (some ⟨w.heap.size, 0, none⟩) 1 [.int .u64 x] := by
  have := Reads.of_own (World.ownsRow_lit (base := w.heap.size) (e := 40) (size := 1) w #[.int .u64 x] 1 (Nat.le_refl _) (by simp only [maxLen]; omega) rfl)
  rw [World.size_alloc] at this
  exact this
/-- What a call keeps: all but two blocks and a row. -/
def Fr3 (g h : Nat) (row : Option Nat) (w w' : World) : Prop :=
  w'.os = w.os ∧ w'.tape = w.tape ∧ w'.output = w.output ∧ w.heap.size ≤ w'.heap.size ∧ ∀ b, b < w.heap.size → b ≠ g → b ≠ h → row ≠ some b → w'.heap[b]? = w.heap[b]?
/-- The values up to now, in a variable. -/
def GotS (base gv : Nat) (vs : List Int) (v : Value) (wr : World) : Prop := Blk wr gv 55 #[v] ∧ wr.ownsRow base 40 1 v vs.length (UL vs)
section
variable {wr w1 w4 : World} {base gv gr nd : Nat} {v v4 : Value} {vs : List Int} {rv : Int} {A : Option Addr} {c at2 : Nat} {ys : List Int}
theorem got_app (hB : Blk (w1.alloc (.cells #[.int .u64 rv] 40)) gv 55 #[v]) (hO : (w1.alloc (.cells #[.int .u64 rv] 40)).ownsRow base 40 1 v nd (UL vs)) (hR : WRV w1 gr A c ys at2 0) (hF : Fr gr none wr.drew w1) (hgv : gr < gv) (hgb : gv < base) (hgl : gr < base)
    (hown : w4.ownsRow base 40 1 v4 (nd + 1) (UL vs ++ [.int .u64 rv])) (hg : (w1.alloc (.cells #[.int .u64 rv] 40)).grownBy w4 v.ownBlock) :
    Blk w4 gv 55 #[v] ∧ w4.ownsRow base 40 1 v4 (nd + 1) (UL (vs ++ [rv])) ∧ WRV w4 gr A c ys at2 0 ∧ Fr3 gr gv v.ownBlock wr w4 ∧ gv < base ∧ gr < base ∧ gr < gv := by
  have hrow := fun b e => (hO.lt b e).1
  have hRa := hR.keeps ((Keeps.refl w1).alloc (.cells #[.int .u64 rv] 40))
  refine ⟨(hg.block _ hB.lt (fun e => by have := hrow _ e.symm; omega)).trans hB, by rw [UL, List.map_append]; exact hown, ⟨(hg.block _ hRa.1.lt (fun e => by have := hrow _ e.symm; omega)).trans hRa.1, ?_, hRa.2.2⟩, ?_, hgb, hgl, hgv⟩
  · refine ⟨hRa.2.1.1, fun hn => ?_⟩
    obtain ⟨ad, e, hb, hc⟩ := hRa.2.1.2 hn
    have hlt := hRa.2.2 ad.block (by rw [e]; rfl)
    exact ⟨ad, e, Nat.lt_of_lt_of_le hb hg.size, fun j u hu => (World.cell?_of_block (a := ad.add j) (by rw [block_of_add]; exact hg.block _ hb (fun e2 => by have := hrow _ e2.symm; omega))).trans (hc j u hu)⟩
  · have hz := hF.2.2.2.1
    have hs := hg.size
    rw [World.size_alloc] at hs
    have hd : wr.drew.heap.size = wr.heap.size := rfl
    refine ⟨hg.os.trans hF.1, hg.tape.trans hF.2.1, hg.output.trans hF.2.2.1, by omega, fun b hb h1 h2 h3 => ?_⟩
    have e1 : (w1.alloc (.cells #[.int .u64 rv] 40)).heap[b]? = w1.heap[b]? := Below.heap_alloc w1 _ b (by omega)
    exact (hg.block b (by rw [World.size_alloc]; omega) (fun e => h3 e.symm)).trans (e1.trans (hF.2.2.2.2 b (by omega) h1 (fun e => by cases e)))
theorem got_end {B : Option Addr} {d : Nat} (h : Blk w4 gv 55 #[v] ∧ w4.ownsRow base 40 1 (.slice B (nd + 1) d) (nd + 1) (UL (vs ++ [rv])) ∧ WRV w4 gr A c ys at2 0 ∧ Fr3 gr gv v.ownBlock wr w4 ∧ gv < base ∧ gr < base ∧ gr < gv) :
    WRV (w4.setCell ⟨gv, 0, none⟩ (.slice B (nd + 1) d)) gr A c ys at2 0 ∧ Blk (w4.setCell ⟨gv, 0, none⟩ (.slice B (nd + 1) d)) gv 55 #[.slice B (nd + 1) d] ∧ (w4.setCell ⟨gv, 0, none⟩ (.slice B (nd + 1) d)).ownsRow base 40 1 (.slice B (nd + 1) d) (nd + 1) (UL (vs ++ [rv])) ∧ Fr3 gr gv v.ownBlock wr (w4.setCell ⟨gv, 0, none⟩ (.slice B (nd + 1) d)) := by
  obtain ⟨hB, hO, hR, hF, hgb, hgl, hgv⟩ := h
  have hset : ∀ b, b ≠ gv → (w4.setCell ⟨gv, 0, none⟩ (.slice B (nd + 1) d)).heap[b]? = w4.heap[b]? := fun b hb => Below.heap_setCell _ ⟨gv, 0, none⟩ _ b hb
  have hb2 := hB.set_ 0 (.slice B (nd + 1) d)
  refine ⟨?_, by simpa using hb2, own_kept hO fun b e => hset b (by have := (hO.lt b e).1; omega), ?_⟩
  · exact hR.fr ((Fr.refl gv none w4).setCell (⟨gv, 0, none⟩ : Addr) _ (.inl rfl)) (by omega) (fun e => by cases e) (fun b e => ⟨by have := hR.2.2 b e; omega, fun e2 => by cases e2⟩)
  · exact ⟨hF.1, hF.2.1, hF.2.2.1, by have := hF.2.2.2.1; simpa [World.setCell] using this, fun b hb h1 h2 h3 => (hset b h2).trans (hF.2.2.2.2 b hb h1 h2 h3)⟩
end
set_option maxRecDepth 100000 in
set_option maxHeartbeats 2000000 in
theorem clo2_any (gv nd : Nat) (v : Value) (vs : List Int) {base : Nat} {wr : World} {gr : Nat} {A : Option Addr} {c : Nat} {ys : List Int} {at_ : Nat} (hG : GotS base gv vs v wr) (hnd : vs.length = nd) (hR : WRV wr gr A c ys at_ 0) (hy : B8 ys) (hl : ys.length ≤ 10000000) (hat : at_ + 5 ≤ 8 * ys.length)
    (hb : base ≤ wr.heap.size) (hgv : gr < gv) (hgb : gv < base) (hgl : gr < base) (hnd6 : nd ≤ 600) :
    Calls Try.prog 29 #[.pointer (some ⟨gr, 0, none⟩), .int .i64 (nd : Nat), .pointer (some ⟨gv, 0, none⟩)] wr fun e w' => e = .returned (.bool true) ∧ ∃ v', WRV w' gr A c ys (at_ + 5) 0 ∧ Blk w' gv 55 #[v'] ∧ w'.ownsRow base 40 1 v' (nd + 1) (UL (vs ++ [rd ys at_ 5])) ∧ Fr3 gr gv v.ownBlock wr w' := by
  obtain ⟨i0, hi0, hz0, hz1, hz2⟩ := info_parts u64_info
  have e1 : rdVal ys at_ 0 5 = rd ys at_ 5 := if_pos ⟨rfl, hat⟩
  have e2 : rdAt (8 * ys.length) at_ 0 5 = at_ + 5 := if_pos ⟨rfl, hat⟩
  have e3 : rdF (8 * ys.length) at_ 0 5 = 0 := by unfold rdF; rw [if_pos rfl, if_pos hat]
  have hc1 := wrBits_any 5 5 (by omega) (hR.keeps (Keeps.refl _).drew) hy hl (by omega)
  rw [e1, e2, e3] at hc1
  have HC1 := hide hc1
  obtain ⟨hG1, hG2⟩ := hG
  rw [hnd] at hG2
  have hcv : wr.drew.cell? ⟨gv, 0, none⟩ = some v := hG1.drew.cell 0
  have HV := hide hG1
  have HO := hide hG2
  clear hc1 e1 e2 e3 hG1 hG2 hR
  generalize rd ys at_ 5 = rv at *
  go_enter Try.func29, Try.ntmps29
  go_wp2
  refine wp_region_held_drew (S := fun _ => True) (by kernel_rfl) trivial (fun hHeld => ?_)
  refine wpAnyH_take (i := 1) (oi := { dst := some 7, op := Op.move (Operand.tmp 0), type := 48, pos := "law.go:115", after := #[], guard := none }) (v := ?_) rfl (by kernel_rfl) (by kernel_rfl) (by kernel_rfl) (fun _ _ _ h => h) (Or.inl ⟨by rfl, ?_⟩) (by assumption) ?_
  rotate_left
  · intro w hSw
    go_simp
    try with_reducible rfl
  try simp only [Act.put, List.setIfInBounds_toArray, List.set_cons_zero, List.set_cons_succ]
  refine wpAnyH_ready (rs := [0, 2]) (by kernel_rfl) (by simp) ?_
  refine AllReadyH.cons (o := { dst := some 6, op := Op.load 55 (Operand.tmp 2), type := 55, pos := "law.go:115", after := #[], guard := none }) rfl (fun K hK => ?_) (AllReadyH.cons (o := { dst := some 8, op := Op.call { callee := Callee.value (Operand.func 21), args := #[Operand.tmp 7, Operand.const (Value.int IntKind.i64 5)], argTypes := #[48, 3] }, type := 40, pos := "law.go:115", after := #[{ on := 1, ground := Ground.data }], guard := none }) rfl (fun K hK => ?_) AllReadyH.nil)
  · go_simp
    refine hK.out _ _ trivial (fun hHeld => ?_)
    clear hK K hHeld
    try simp only [Act.put, List.setIfInBounds_toArray, List.set_cons_zero, List.set_cons_succ]
    refine wpAnyH_ready (rs := [2]) (by kernel_rfl) (by simp) ?_
    refine AllReadyH.cons (o := { dst := some 8, op := Op.call { callee := Callee.value (Operand.func 21), args := #[Operand.tmp 7, Operand.const (Value.int IntKind.i64 5)], argTypes := #[48, 3] }, type := 40, pos := "law.go:115", after := #[{ on := 1, ground := Ground.data }], guard := none }) rfl (fun K hK => ?_) AllReadyH.nil
    go_simp
    go_at_call 21
    with_reducible refine (unhide HC1).mono ?_
    rintro e w1 ⟨rfl, hR1, hf1⟩
    have hb1 := fr_blk hf1 (unhide HV).drew (by omega) (fun e => by cases e)
    obtain ⟨hbc1, hbf1, hbl1⟩ := hb1.facts
    have hc1 : w1.cell? ⟨gv, 0, none⟩ = some v := hbc1 0
    have HB1 := hide hb1
    have hO1 := own_kept (unhide HO) (fun b e => hf1.2.2.2.2 b ((unhide HO).lt b e).2 (by have := ((unhide HO).lt b e).1; omega) (fun e => by cases e))
    have HO1 := hide (hO1.alloc (.cells #[.int .u64 rv] 40))
    have HB1A := hide (hb1.alloc (.cells #[.int .u64 rv] 40))
    have HRD := hide (one_u64 w1 rv)
    have HR1 := hide hR1
    have HF1 := hide hf1
    have hzw1 := hf1.2.2.2.1
    have hc1a : (w1.alloc (.cells #[.int .u64 rv] 40)).cell? ⟨gv, 0, none⟩ = some v := (unhide HB1A).cell 0
    clear hb1 hO1 hR1 hf1 hbc1
    go_wp2_with fail
    refine hK.out _ _ trivial (fun hHeld => ?_)
    clear hK K hHeld
    try simp only [Act.put, List.setIfInBounds_toArray, List.set_cons_zero, List.set_cons_succ]
    refine wpAnyH_ready (rs := [3]) (by kernel_rfl) (by simp) ?_
    refine AllReadyH.cons (o := { dst := some 9, op := Op.buildSlice 55 1 #[(0, Operand.tmp 8)], type := 55, pos := "law.go:115", after := #[{ on := 2, ground := Ground.data }], guard := none }) rfl (fun K hK => ?_) AllReadyH.nil
    go_simp
    refine hK.out _ _ trivial (fun hHeld => ?_)
    clear hK K hHeld
    try simp only [Act.put, List.setIfInBounds_toArray, List.set_cons_zero, List.set_cons_succ]
    refine wpAnyH_ready (rs := [4]) (by kernel_rfl) (by simp) ?_
    refine AllReadyH.cons (o := { dst := some 10, op := Op.call { callee := Callee.builtin Builtin.append, args := #[Operand.tmp 6, Operand.tmp 9], argTypes := #[55, 55] }, type := 55, pos := "law.go:115", after := #[{ on := 0, ground := Ground.data }, { on := 3, ground := Ground.data }, { on := 2, ground := Ground.chain }], guard := none }) rfl (fun K hK => ?_) AllReadyH.nil
    refine step_append_any _ rfl (.tmp 6) (.tmp 9) 55 rfl base 40 i0 _ 1 8 Try.underlying55 hi0 hz0 hz1 hz2 rfl (by omega) v nd _ (by simp [Act.eval]) (unhide HO1) _ (some ⟨w1.heap.size, 0, none⟩) 1 1 _ (by simp [Act.eval]) (unhide HRD) (u64_one _) (by simp only [maxLen]; omega) (by omega) (by rw [World.size_alloc]; have : wr.drew.heap.size = wr.heap.size := rfl; omega) ?_
    intro v4 w4 hown4 hg4 hat4
    have HAP := hide (got_app (unhide HB1A) (unhide HO1) (unhide HR1) (unhide HF1) hgv hgb hgl hown4 hg4)
    obtain ⟨B4, d4, rfl, _⟩ := own_form hown4
    have hb4 := (unhide HAP).1
    obtain ⟨hbc4, hbf4, hbl4⟩ := hb4.facts
    clear hb4 hown4 hg4 hat4
    refine hK.out _ _ trivial (fun hHeld => ?_)
    clear hK K hHeld
    try simp only [Act.put, List.setIfInBounds_toArray, List.set_cons_zero, List.set_cons_succ]
    refine wpAnyH_ready (rs := [5]) (by kernel_rfl) (by simp) ?_
    refine AllReadyH.cons (o := { dst := none, op := Op.store 55 (Operand.tmp 2) (Operand.tmp 10), type := 0, pos := "law.go:115", after := #[{ on := 4, ground := Ground.data }, { on := 4, ground := Ground.chain }, { on := 0, ground := Ground.phase }, { on := 1, ground := Ground.phase }, { on := 2, ground := Ground.phase }, { on := 3, ground := Ground.phase }, { on := 4, ground := Ground.phase }], guard := none }) rfl (fun K hK => ?_) AllReadyH.nil
    go_simp
    refine hK.out _ _ trivial (fun hHeld => ?_)
    clear hK K hHeld
    try simp only [Act.put, List.setIfInBounds_toArray, List.set_cons_zero, List.set_cons_succ]
    refine wpAnyH_done (by kernel_rfl) ?_ _
    go_wp2
    go_ret
    exact ⟨rfl, _, got_end (unhide HAP)⟩
  · go_simp
    go_at_call 21
    with_reducible refine (unhide HC1).mono ?_
    rintro e w1 ⟨rfl, hR1, hf1⟩
    have hb1 := fr_blk hf1 (unhide HV).drew (by omega) (fun e => by cases e)
    obtain ⟨hbc1, hbf1, hbl1⟩ := hb1.facts
    have hc1 : w1.cell? ⟨gv, 0, none⟩ = some v := hbc1 0
    have HB1 := hide hb1
    have hO1 := own_kept (unhide HO) (fun b e => hf1.2.2.2.2 b ((unhide HO).lt b e).2 (by have := ((unhide HO).lt b e).1; omega) (fun e => by cases e))
    have HO1 := hide (hO1.alloc (.cells #[.int .u64 rv] 40))
    have HB1A := hide (hb1.alloc (.cells #[.int .u64 rv] 40))
    have HRD := hide (one_u64 w1 rv)
    have HR1 := hide hR1
    have HF1 := hide hf1
    have hzw1 := hf1.2.2.2.1
    have hc1a : (w1.alloc (.cells #[.int .u64 rv] 40)).cell? ⟨gv, 0, none⟩ = some v := (unhide HB1A).cell 0
    clear hb1 hO1 hR1 hf1 hbc1
    go_wp2_with fail
    refine hK.out _ _ trivial (fun hHeld => ?_)
    clear hK K hHeld
    try simp only [Act.put, List.setIfInBounds_toArray, List.set_cons_zero, List.set_cons_succ]
    refine wpAnyH_ready (rs := [0, 3]) (by kernel_rfl) (by simp) ?_
    refine AllReadyH.cons (o := { dst := some 6, op := Op.load 55 (Operand.tmp 2), type := 55, pos := "law.go:115", after := #[], guard := none }) rfl (fun K hK => ?_) (AllReadyH.cons (o := { dst := some 9, op := Op.buildSlice 55 1 #[(0, Operand.tmp 8)], type := 55, pos := "law.go:115", after := #[{ on := 2, ground := Ground.data }], guard := none }) rfl (fun K hK => ?_) AllReadyH.nil)
    · go_simp
      refine hK.out _ _ trivial (fun hHeld => ?_)
      clear hK K hHeld
      try simp only [Act.put, List.setIfInBounds_toArray, List.set_cons_zero, List.set_cons_succ]
      refine wpAnyH_ready (rs := [3]) (by kernel_rfl) (by simp) ?_
      refine AllReadyH.cons (o := { dst := some 9, op := Op.buildSlice 55 1 #[(0, Operand.tmp 8)], type := 55, pos := "law.go:115", after := #[{ on := 2, ground := Ground.data }], guard := none }) rfl (fun K hK => ?_) AllReadyH.nil
      go_simp
      refine hK.out _ _ trivial (fun hHeld => ?_)
      clear hK K hHeld
      try simp only [Act.put, List.setIfInBounds_toArray, List.set_cons_zero, List.set_cons_succ]
      refine wpAnyH_ready (rs := [4]) (by kernel_rfl) (by simp) ?_
      refine AllReadyH.cons (o := { dst := some 10, op := Op.call { callee := Callee.builtin Builtin.append, args := #[Operand.tmp 6, Operand.tmp 9], argTypes := #[55, 55] }, type := 55, pos := "law.go:115", after := #[{ on := 0, ground := Ground.data }, { on := 3, ground := Ground.data }, { on := 2, ground := Ground.chain }], guard := none }) rfl (fun K hK => ?_) AllReadyH.nil
      refine step_append_any _ rfl (.tmp 6) (.tmp 9) 55 rfl base 40 i0 _ 1 8 Try.underlying55 hi0 hz0 hz1 hz2 rfl (by omega) v nd _ (by simp [Act.eval]) (unhide HO1) _ (some ⟨w1.heap.size, 0, none⟩) 1 1 _ (by simp [Act.eval]) (unhide HRD) (u64_one _) (by simp only [maxLen]; omega) (by omega) (by rw [World.size_alloc]; have : wr.drew.heap.size = wr.heap.size := rfl; omega) ?_
      intro v4 w4 hown4 hg4 hat4
      have HAP := hide (got_app (unhide HB1A) (unhide HO1) (unhide HR1) (unhide HF1) hgv hgb hgl hown4 hg4)
      obtain ⟨B4, d4, rfl, _⟩ := own_form hown4
      have hb4 := (unhide HAP).1
      obtain ⟨hbc4, hbf4, hbl4⟩ := hb4.facts
      clear hb4 hown4 hg4 hat4
      refine hK.out _ _ trivial (fun hHeld => ?_)
      clear hK K hHeld
      try simp only [Act.put, List.setIfInBounds_toArray, List.set_cons_zero, List.set_cons_succ]
      refine wpAnyH_ready (rs := [5]) (by kernel_rfl) (by simp) ?_
      refine AllReadyH.cons (o := { dst := none, op := Op.store 55 (Operand.tmp 2) (Operand.tmp 10), type := 0, pos := "law.go:115", after := #[{ on := 4, ground := Ground.data }, { on := 4, ground := Ground.chain }, { on := 0, ground := Ground.phase }, { on := 1, ground := Ground.phase }, { on := 2, ground := Ground.phase }, { on := 3, ground := Ground.phase }, { on := 4, ground := Ground.phase }], guard := none }) rfl (fun K hK => ?_) AllReadyH.nil
      go_simp
      refine hK.out _ _ trivial (fun hHeld => ?_)
      clear hK K hHeld
      try simp only [Act.put, List.setIfInBounds_toArray, List.set_cons_zero, List.set_cons_succ]
      refine wpAnyH_done (by kernel_rfl) ?_ _
      go_wp2
      go_ret
      exact ⟨rfl, _, got_end (unhide HAP)⟩
    · go_simp
      refine hK.out _ _ trivial (fun hHeld => ?_)
      clear hK K hHeld
      try simp only [Act.put, List.setIfInBounds_toArray, List.set_cons_zero, List.set_cons_succ]
      refine wpAnyH_ready (rs := [0]) (by kernel_rfl) (by simp) ?_
      refine AllReadyH.cons (o := { dst := some 6, op := Op.load 55 (Operand.tmp 2), type := 55, pos := "law.go:115", after := #[], guard := none }) rfl (fun K hK => ?_) AllReadyH.nil
      go_simp
      refine hK.out _ _ trivial (fun hHeld => ?_)
      clear hK K hHeld
      try simp only [Act.put, List.setIfInBounds_toArray, List.set_cons_zero, List.set_cons_succ]
      refine wpAnyH_ready (rs := [4]) (by kernel_rfl) (by simp) ?_
      refine AllReadyH.cons (o := { dst := some 10, op := Op.call { callee := Callee.builtin Builtin.append, args := #[Operand.tmp 6, Operand.tmp 9], argTypes := #[55, 55] }, type := 55, pos := "law.go:115", after := #[{ on := 0, ground := Ground.data }, { on := 3, ground := Ground.data }, { on := 2, ground := Ground.chain }], guard := none }) rfl (fun K hK => ?_) AllReadyH.nil
      refine step_append_any _ rfl (.tmp 6) (.tmp 9) 55 rfl base 40 i0 _ 1 8 Try.underlying55 hi0 hz0 hz1 hz2 rfl (by omega) v nd _ (by simp [Act.eval]) (unhide HO1) _ (some ⟨w1.heap.size, 0, none⟩) 1 1 _ (by simp [Act.eval]) (unhide HRD) (u64_one _) (by simp only [maxLen]; omega) (by omega) (by rw [World.size_alloc]; have : wr.drew.heap.size = wr.heap.size := rfl; omega) ?_
      intro v4 w4 hown4 hg4 hat4
      have HAP := hide (got_app (unhide HB1A) (unhide HO1) (unhide HR1) (unhide HF1) hgv hgb hgl hown4 hg4)
      obtain ⟨B4, d4, rfl, _⟩ := own_form hown4
      have hb4 := (unhide HAP).1
      obtain ⟨hbc4, hbf4, hbl4⟩ := hb4.facts
      clear hb4 hown4 hg4 hat4
      refine hK.out _ _ trivial (fun hHeld => ?_)
      clear hK K hHeld
      try simp only [Act.put, List.setIfInBounds_toArray, List.set_cons_zero, List.set_cons_succ]
      refine wpAnyH_ready (rs := [5]) (by kernel_rfl) (by simp) ?_
      refine AllReadyH.cons (o := { dst := none, op := Op.store 55 (Operand.tmp 2) (Operand.tmp 10), type := 0, pos := "law.go:115", after := #[{ on := 4, ground := Ground.data }, { on := 4, ground := Ground.chain }, { on := 0, ground := Ground.phase }, { on := 1, ground := Ground.phase }, { on := 2, ground := Ground.phase }, { on := 3, ground := Ground.phase }, { on := 4, ground := Ground.phase }], guard := none }) rfl (fun K hK => ?_) AllReadyH.nil
      go_simp
      refine hK.out _ _ trivial (fun hHeld => ?_)
      clear hK K hHeld
      try simp only [Act.put, List.setIfInBounds_toArray, List.set_cons_zero, List.set_cons_succ]
      refine wpAnyH_done (by kernel_rfl) ?_ _
      go_wp2
      go_ret
      exact ⟨rfl, _, got_end (unhide HAP)⟩
end Go.Proofs.Ytgaapigagglgbaa
