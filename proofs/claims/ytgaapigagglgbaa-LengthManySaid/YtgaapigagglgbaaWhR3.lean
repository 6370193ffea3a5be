/- The reader of package whole: Octets. -/
import Derived.Test.YtgaapigagglgbaaWhR2
import Derived.Test.YtgaapigagglgbaaBitsRdO
import Derived.Test.YtgaapigagglgbaaBitsRdE
namespace Go.Proofs.Ytgaapigagglgbaa
open Go.ChangeShapes Go.WideShapes Go.ChangeAt Go.RowKit

/-- A call that gives back octets of its own, and where the reader stands then. -/
def GivesW (w : World) (g : Nat) (A : Option Addr) (c : Nat) (xs : List Int) (at_ : Nat) (f : Int) (ys : List Int) (e : Ending) (w' : World) : Prop :=
  ∃ B d, e = .returned (.slice B ys.length d) ∧ ys.length ≤ d ∧ Holds w' B ys ∧ Wr w.heap.size w' B ys.length ∧ WRV w' g A c xs at_ f ∧ Fr g none w w'
theorem Wr.frame {base g : Nat} {w w' : World} {B : Option Addr} {n : Nat} (h : Wr base w B n) (hh : 0 < n → ∀ b, rowOf B = some b → b < w.heap.size) (hf : Fr g none w w') (hg : g < base) : Wr base w' B n := by
  intro hn
  obtain ⟨b, rfl, hb, hfz⟩ := h hn
  refine ⟨b, rfl, hb, fun i hi => ?_⟩
  have hbl := hh hn b rfl
  rw [World.frozen?_of_block (w := w) (hf.2.2.2.2 b hbl (by omega) (fun e => by cases e))]
  exact hfz i hi
theorem Holds.row_lt {w : World} {B : Option Addr} {ys : List Int} (h : Holds w B ys) : 0 < ys.length → ∀ b, rowOf B = some b → b < w.heap.size := by
  intro hn b e
  obtain ⟨ad, e2, hb, _⟩ := h.2 hn
  subst e2
  injection e with e
  subst e
  exact hb
theorem Holds.fr9 {w w' : World} {B : Option Addr} {ys : List Int} {base g : Nat} (h : Holds w B ys) (hW : Wr base w B ys.length) (hf : Fr g none w w') (hg : g < base) : Holds w' B ys := by
  refine ⟨h.1, fun hn => ?_⟩
  obtain ⟨ad, e, hb, hc⟩ := h.2 hn
  refine ⟨ad, e, Nat.lt_of_lt_of_le hb hf.2.2.2.1, fun j u hu => ?_⟩
  obtain ⟨b, e3, hb3, _⟩ := hW hn
  rw [e] at e3
  injection e3 with e3
  have hne : ad.block ≠ g := by rw [e3]; show b ≠ g; omega
  exact (World.cell?_of_block (a := ad.add j) (by rw [block_of_add]; exact hf.2.2.2.2 _ hb hne (fun e => by cases e))).trans (hc j u hu)

section
variable {w : World} {g : Nat} {A : Option Addr} {c : Nat} {xs : List Int} {at_ : Nat} {f : Int}
/-- The trial's cells stay, whatever settle does. -/
theorem trial_cells {w2 w3 : World} {h a2 : Nat} {ff : Int} (hr : RV 80 w2 h A c xs a2 ff) (hf : Fr g none w2 w3) (hg : h ≠ g) :
    w3.cell? ⟨h, 0, none⟩ = some (.slice A xs.length c) ∧ w3.cell? ⟨h, 1, none⟩ = some (.int .i64 (a2 : Nat)) ∧ w3.cell? ⟨h, 2, none⟩ = some (.int .i64 ff) := by
  have hb := fr_blk hf hr.1 hg (fun e => by cases e)
  exact ⟨hb.cell 0, hb.cell 1, hb.cell 2⟩

set_option maxRecDepth 100000 in
set_option maxHeartbeats 1000000 in
theorem wrOctets_any (n : Int) (m : Nat) (hmx : max n 0 = (m : Int)) (hR : WRV w g A c xs at_ 0) (hx : B8 xs) (hl : xs.length ≤ 10000000) (ha : at_ ≤ 8 * xs.length) (hc : xs.length ≤ c) (hyes : at_ + 8 * m ≤ 8 * xs.length) (hm6 : m ≤ 1000000) :
    Calls Try.prog 49 #[.pointer (some ⟨g, 0, none⟩), .int .i64 n] w (GivesW w g A c xs (at_ + 8 * m) 0 (rdO xs at_ m)) := by
  have HRD := hide (ready_any hR)
  rw [show ((0 : Int) == 0) = true from rfl] at HRD
  obtain ⟨hgc, hgf, hgl⟩ := hR.1.facts
  have hg0 : w.cell? ⟨g, 0, none⟩ = some (.slice A xs.length c) := hgc 0
  have hg1 : w.cell? ⟨g, 1, none⟩ = some (.int .i64 (at_ : Nat)) := hgc 1
  have hg2 : w.cell? ⟨g, 2, none⟩ = some (.int .i64 0) := hgc 2
  have HN := hide (rdOctets_any n m hmx (trial_new hR) hx hl ha hc hyes hm6)
  have HR := hide hR
  clear hR hx hgc hmx hyes ha
  generalize hA2 : at_ + 8 * m = a2 at *
  have HA2 := hide hA2
  clear hA2
  generalize rdO xs at_ m = ys at *
  go_enter Try.func49, Try.ntmps49
  go_wp2_with fail
  with_reducible refine (unhide HRD).mono ?_
  rintro e w1 ⟨rfl, hw1⟩
  rw [hw1]
  clear hw1
  go_wp2_with fail
  refine (unhide HN).mono ?_
  rintro e w2 ⟨B, d, rfl, hd, hh2, hwr2, hr2, hf2⟩
  obtain ⟨hra, hrb⟩ := wr_after (unhide HR) hf2
  have HE := hide (rdErr_any hr2.drew)
  have HS := hide (settleOk_any a2 (hra.keeps (Keeps.refl w2).drew))
  obtain ⟨h20, h21, h22⟩ := trial_cells (g := g) hr2 (Fr.refl g none w2).drew (by omega)
  have HT3 := hide (fun (w3 : World) (hf3 : Fr g none w2.drew w3) => trial_cells (g := g) hr2.drew hf3 (by omega))
  have HFR := hide hrb
  have HH := hide hh2
  have HWR := hide hwr2
  have HD := hide hd
  have hyl : ys.length = ys.length := rfl
  clear hr2 hf2 hra hrb hh2 hwr2 hd
  generalize hY : ys.length = yl at *
  have HY := hide hY
  clear hY hyl
  go_wp2
  refine wp_region_held_drew (S := fun w' => w'.cell? ⟨w.heap.size, 0, none⟩ = some (.slice A xs.length c) ∧ w'.cell? ⟨w.heap.size, 1, none⟩ = some (.int .i64 (a2 : Nat)) ∧ w'.cell? ⟨w.heap.size, 2, none⟩ = some (.int .i64 0)) (by kernel_rfl) ⟨h20, h21, h22⟩ (fun hHeld => ?_)
  refine wpAnyH_take (i := 0) (oi := { dst := some 18, op := Op.move (Operand.tmp 0), type := 48, pos := "reader.go:93", after := #[], guard := none }) (v := ?_) rfl (by kernel_rfl) (by kernel_rfl) (by kernel_rfl) (fun _ _ _ h => h) (Or.inl ⟨by rfl, ?_⟩) (by assumption) ?_
  rotate_left
  · intro w hSw
    go_simp
    try with_reducible rfl
  try simp only [Act.put, List.setIfInBounds_toArray, List.set_cons_zero, List.set_cons_succ]
  refine wpAnyH_take (i := 1) (oi := { dst := some 19, op := Op.load 80 (Operand.tmp 5), type := 80, pos := "reader.go:93", after := #[], guard := none }) (v := ?_) rfl (by kernel_rfl) (by kernel_rfl) (by kernel_rfl) (fun _ _ _ h => h) (Or.inl ⟨by rfl, ?_⟩) (by assumption) ?_
  rotate_left
  · intro w hSw
    go_simp
    try with_reducible rfl
  try simp only [Act.put, List.setIfInBounds_toArray, List.set_cons_zero, List.set_cons_succ]
  refine wpAnyH_take (i := 2) (oi := { dst := some 20, op := Op.fieldAddr 80 (Operand.tmp 5) 0, type := 0, pos := "reader.go:93", after := #[], guard := none }) (v := ?_) rfl (by kernel_rfl) (by kernel_rfl) (by kernel_rfl) (fun _ _ _ h => h) (Or.inl ⟨by rfl, ?_⟩) (by assumption) ?_
  rotate_left
  · intro w hSw
    go_simp
    try with_reducible rfl
  try simp only [Act.put, List.setIfInBounds_toArray, List.set_cons_zero, List.set_cons_succ]
  refine wpAnyH_ready (rs := [3]) (by kernel_rfl) (by simp) ?_
  refine AllReadyH.cons (o := { dst := some 21, op := Op.call { callee := Callee.value (Operand.func 60), args := #[Operand.tmp 20], argTypes := #[74] }, type := 52, pos := "reader.go:93", after := #[{ on := 2, ground := Ground.data }], guard := none }) rfl (fun K hK => ?_) AllReadyH.nil
  go_simp
  go_at_call 60
  refine (unhide HE).mono ?_
  rintro e wn ⟨rfl, hwn⟩
  rw [hwn] at *
  clear hwn
  go_wp2_with fail
  refine hK.out _ _ ?_ (fun hHeld => ?_)
  · assumption
  clear hK K
  try simp only [Act.put, List.setIfInBounds_toArray, List.set_cons_zero, List.set_cons_succ]
  refine wpAnyH_ready (rs := [4]) (by kernel_rfl) (by simp) ?_
  refine AllReadyH.cons (o := { dst := some 22, op := Op.call { callee := Callee.value (Operand.func 47), args := #[Operand.tmp 18, Operand.tmp 19, Operand.tmp 21], argTypes := #[48, 80, 52] }, type := 4, pos := "reader.go:93", after := #[{ on := 0, ground := Ground.data }, { on := 1, ground := Ground.data }, { on := 3, ground := Ground.data }, { on := 3, ground := Ground.chain }], guard := none }) rfl (fun K hK => ?_) AllReadyH.nil
  go_simp
  go_at_call 47
  refine (unhide HS).mono ?_
  rintro e w3 ⟨rfl, hr3, hf3⟩
  have HR3 := hide hr3
  have HF3 := hide hf3
  have hk3 := unhide HT3 _ hf3
  clear hr3 hf3
  go_wp2_with fail
  refine hK.out _ _ ?_ (fun hHeld => ?_)
  · exact hk3
  clear hK K
  try simp only [Act.put, List.setIfInBounds_toArray, List.set_cons_zero, List.set_cons_succ]
  refine wpAnyH_take (i := 5) (oi := { dst := some 23, op := Op.unOp UnOp.not 4 (Operand.tmp 22), type := 4, pos := "reader.go:93", after := #[{ on := 4, ground := Ground.data }], guard := none }) (v := ?_) rfl (by kernel_rfl) (by kernel_rfl) (by kernel_rfl) (fun _ _ _ h => h) (Or.inl ⟨by rfl, ?_⟩) (by assumption) ?_
  rotate_left
  · intro w hSw
    go_simp
    try with_reducible rfl
  try simp only [Act.put, List.setIfInBounds_toArray, List.set_cons_zero, List.set_cons_succ]
  refine wpAnyH_done (by kernel_rfl) ?_ _
  go_wp2
  go_ret
  have hwr := unhide HWR
  have hd := unhide HD
  rw [← unhide HY] at hwr hd
  have hf : Fr g none w2 w3 := (Fr.refl g none w2).drew.trans (unhide HF3) (fun x e => by cases e)
  have hh3 := (unhide HH).fr9 hwr hf (by rw [World.size_alloc]; omega)
  have hwr3 := hwr.frame (unhide HH).row_lt hf (by rw [World.size_alloc]; omega)
  have hwr4 : Wr w.heap.size w3 B ys.length := fun hn => by
    obtain ⟨b, e, hb, hz⟩ := hwr3 hn
    rw [World.size_alloc] at hb
    exact ⟨b, e, by omega, hz⟩
  exact ⟨B, d, by rw [unhide HY]; rfl, hd, hh3, hwr4, unhide HR3, (unhide HFR).trans hf (fun x e => by cases e)⟩
theorem givesW_nil {w' : World} {at2 : Nat} {f2 : Int} (hR : WRV w' g A c xs at2 f2) (hf : Fr g none w w') : GivesW w g A c xs at2 f2 [] (.returned (.slice none 0 0)) w' :=
  ⟨none, 0, rfl, Nat.le_refl _, Holds.nil _, fun h => absurd h (by simp), hR, hf⟩
set_option maxRecDepth 100000 in
set_option maxHeartbeats 1000000 in
theorem wrOctetsNo_any (n : Int) (hR : WRV w g A c xs at_ f) (hl : xs.length ≤ 10000000) (ha : at_ ≤ 8 * xs.length) (hn0 : -9223372036854775808 ≤ n) (hn1 : n ≤ 9223372036854775807) (hno : f ≠ 0 ∨ ((8 * xs.length - at_) / 8 : Nat) < n) :
    Calls Try.prog 49 #[.pointer (some ⟨g, 0, none⟩), .int .i64 n] w (GivesW w g A c xs at_ (if f = 0 then 3 else f) []) := by
  have HRD := hide (ready_any hR)
  by_cases hf : f = 0
  · subst hf
    rw [if_pos rfl]
    rw [show ((0 : Int) == 0) = true from rfl] at HRD
    obtain ⟨hgc, hgf, hgl⟩ := hR.1.facts
    have hg0 : w.cell? ⟨g, 0, none⟩ = some (.slice A xs.length c) := hgc 0
    have hg1 : w.cell? ⟨g, 1, none⟩ = some (.int .i64 (at_ : Nat)) := hgc 1
    have hg2 : w.cell? ⟨g, 2, none⟩ = some (.int .i64 0) := hgc 2
    have HN := hide (rdOctetsNo_any n (trial_new hR) hl ha hn0 hn1 hno)
    rw [if_pos rfl] at HN
    have HR := hide hR
    obtain ⟨a2, hA2⟩ : ∃ a2, a2 = at_ := ⟨_, rfl⟩
    clear hR hgc ha hno
    go_enter Try.func49, Try.ntmps49
    go_wp2_with fail
    with_reducible refine (unhide HRD).mono ?_
    rintro e w1 ⟨rfl, hw1⟩
    rw [hw1]
    clear hw1
    go_wp2_with fail
    refine (unhide HN).mono ?_
    rintro e w2 ⟨B, d, rfl, hd, hh2, hwr2, hr2, hf2⟩
    obtain ⟨hra, hrb⟩ := wr_after (unhide HR) hf2
    rw [← hA2] at hr2
    have HE := hide (rdErr_any hr2.drew)
    have HS := hide (settleNo_any a2 3 3 (by omega) (hra.keeps (Keeps.refl w2).drew))
    obtain ⟨h20, h21, h22⟩ := trial_cells (g := g) hr2 (Fr.refl g none w2).drew (by omega)
    have HT3 := hide (fun (w3 : World) (hf3 : Fr g none w2.drew w3) => trial_cells (g := g) hr2.drew hf3 (by omega))
    have HFR := hide hrb
    clear hr2 hf2 hra hrb hh2 hwr2 hd hA2
    go_wp2
    refine wp_region_held_drew (S := fun w' => w'.cell? ⟨w.heap.size, 0, none⟩ = some (.slice A xs.length c) ∧ w'.cell? ⟨w.heap.size, 1, none⟩ = some (.int .i64 (a2 : Nat)) ∧ w'.cell? ⟨w.heap.size, 2, none⟩ = some (.int .i64 3)) (by kernel_rfl) ⟨h20, h21, h22⟩ (fun hHeld => ?_)
    refine wpAnyH_take (i := 0) (oi := { dst := some 18, op := Op.move (Operand.tmp 0), type := 48, pos := "reader.go:93", after := #[], guard := none }) (v := ?_) rfl (by kernel_rfl) (by kernel_rfl) (by kernel_rfl) (fun _ _ _ h => h) (Or.inl ⟨by rfl, ?_⟩) (by assumption) ?_
    rotate_left
    · intro w hSw
      go_simp
      try with_reducible rfl
    try simp only [Act.put, List.setIfInBounds_toArray, List.set_cons_zero, List.set_cons_succ]
    refine wpAnyH_take (i := 1) (oi := { dst := some 19, op := Op.load 80 (Operand.tmp 5), type := 80, pos := "reader.go:93", after := #[], guard := none }) (v := ?_) rfl (by kernel_rfl) (by kernel_rfl) (by kernel_rfl) (fun _ _ _ h => h) (Or.inl ⟨by rfl, ?_⟩) (by assumption) ?_
    rotate_left
    · intro w hSw
      go_simp
      try with_reducible rfl
    try simp only [Act.put, List.setIfInBounds_toArray, List.set_cons_zero, List.set_cons_succ]
    refine wpAnyH_take (i := 2) (oi := { dst := some 20, op := Op.fieldAddr 80 (Operand.tmp 5) 0, type := 0, pos := "reader.go:93", after := #[], guard := none }) (v := ?_) rfl (by kernel_rfl) (by kernel_rfl) (by kernel_rfl) (fun _ _ _ h => h) (Or.inl ⟨by rfl, ?_⟩) (by assumption) ?_
    rotate_left
    · intro w hSw
      go_simp
      try with_reducible rfl
    try simp only [Act.put, List.setIfInBounds_toArray, List.set_cons_zero, List.set_cons_succ]
    refine wpAnyH_ready (rs := [3]) (by kernel_rfl) (by simp) ?_
    refine AllReadyH.cons (o := { dst := some 21, op := Op.call { callee := Callee.value (Operand.func 60), args := #[Operand.tmp 20], argTypes := #[74] }, type := 52, pos := "reader.go:93", after := #[{ on := 2, ground := Ground.data }], guard := none }) rfl (fun K hK => ?_) AllReadyH.nil
    go_simp
    go_at_call 60
    refine (unhide HE).mono ?_
    rintro e wn ⟨rfl, hwn⟩
    rw [hwn] at *
    clear hwn
    go_wp2_with fail
    refine hK.out _ _ ?_ (fun hHeld => ?_)
    · assumption
    clear hK K
    try simp only [Act.put, List.setIfInBounds_toArray, List.set_cons_zero, List.set_cons_succ]
    refine wpAnyH_ready (rs := [4]) (by kernel_rfl) (by simp) ?_
    refine AllReadyH.cons (o := { dst := some 22, op := Op.call { callee := Callee.value (Operand.func 47), args := #[Operand.tmp 18, Operand.tmp 19, Operand.tmp 21], argTypes := #[48, 80, 52] }, type := 4, pos := "reader.go:93", after := #[{ on := 0, ground := Ground.data }, { on := 1, ground := Ground.data }, { on := 3, ground := Ground.data }, { on := 3, ground := Ground.chain }], guard := none }) rfl (fun K hK => ?_) AllReadyH.nil
    go_simp
    go_at_call 47
    refine (unhide HS).mono ?_
    rintro e w3 ⟨rfl, hr3, hf3⟩
    have HR3 := hide hr3
    have HF3 := hide hf3
    have hk3 := unhide HT3 _ hf3
    clear hr3 hf3
    go_wp2_with fail
    refine hK.out _ _ ?_ (fun hHeld => ?_)
    · exact hk3
    clear hK K
    try simp only [Act.put, List.setIfInBounds_toArray, List.set_cons_zero, List.set_cons_succ]
    refine wpAnyH_take (i := 5) (oi := { dst := some 23, op := Op.unOp UnOp.not 4 (Operand.tmp 22), type := 4, pos := "reader.go:93", after := #[{ on := 4, ground := Ground.data }], guard := none }) (v := ?_) rfl (by kernel_rfl) (by kernel_rfl) (by kernel_rfl) (fun _ _ _ h => h) (Or.inl ⟨by rfl, ?_⟩) (by assumption) ?_
    rotate_left
    · intro w hSw
      go_simp
      try with_reducible rfl
    try simp only [Act.put, List.setIfInBounds_toArray, List.set_cons_zero, List.set_cons_succ]
    refine wpAnyH_done (by kernel_rfl) ?_ _
    go_wp2
    go_ret
    have hf : Fr g none w2 w3 := (Fr.refl g none w2).drew.trans (unhide HF3) (fun x e => by cases e)
    exact givesW_nil (unhide HR3) ((unhide HFR).trans hf (fun x e => by cases e))
  · rw [if_neg hf]
    rw [beq_eq_false_iff_ne.2 hf] at HRD
    have HR := hide hR
    clear hR hf ha hno
    go_enter Try.func49, Try.ntmps49
    go_wp2_with fail
    with_reducible refine (unhide HRD).mono ?_
    rintro e w1 ⟨rfl, hw1⟩
    rw [hw1]
    clear hw1
    go_wp2
    go_ret
    exact givesW_nil (unhide HR) (Fr.refl _ _ _)
end
end Go.Proofs.Ytgaapigagglgbaa
