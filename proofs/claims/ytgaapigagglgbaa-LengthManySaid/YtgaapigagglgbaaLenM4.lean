/- LengthMany: numbers, and what the calls of TakeMany keep. -/
import Derived.Test.YtgaapigagglgbaaLenM3
namespace Go.Proofs.Ytgaapigagglgbaa
open Go.ChangeShapes Go.WideShapes Go.ChangeAt Go.RowKit
set_option linter.unusedVariables false

theorem many_div (N : Int) (al : List Int) (i : Nat) : ∀ j, i + j ≤ al.length → manyN N al (i + j) / 2 ^ (5 * j) = manyN N al i := by
  intro j
  induction j with
  | zero => intro _; simp
  | succ j ih =>
    intro h
    rw [show i + (j + 1) = i + j + 1 from by omega, manyN_succ N al (i + j) (by omega), show 5 * (j + 1) = 5 + 5 * j from by omega, Int.pow_add, ← Int.ediv_ediv_of_nonneg (Int.le_of_lt (two_pos _)), tot_start]
    exact ih (by omega)
theorem many_range (N : Int) (n : Nat) (al : List Int) (h0 : 0 ≤ N) (h1 : N < 2 ^ n) : ∀ j, j ≤ al.length → 0 ≤ manyN N al j ∧ manyN N al j < 2 ^ (n + 5 * j) := by
  intro j
  induction j with
  | zero => intro _; exact ⟨h0, h1⟩
  | succ j ih =>
    intro h
    rw [manyN_succ N al j (by omega), show n + 5 * (j + 1) = n + 5 * j + 5 from by omega]
    have := ih (by omega)
    exact tot_range _ _ _ 5 this.1 this.2
theorem many_rd (al : List Int) (l : Nat) (hl : al.length = l) (hl6 : l ≤ 600) :
    rd (octW (manyN (tot 0 (detV l) (detB l)) al l) (detB l + 5 * l)) 0 (detB l) = detV l ∧
    (∀ i, i < l → rd (octW (manyN (tot 0 (detV l) (detB l)) al l) (detB l + 5 * l)) (detB l + 5 * i) 5 = al.getD i 0 % 32) ∧
    wendV (octW (manyN (tot 0 (detV l) (detB l)) al l) (detB l + 5 * l)) (detB l + 5 * l) 0 = 0 := by
  have hv := detV_range l (by omega)
  have ht := tot_range 0 (detV l) 0 (detB l) (by omega) (by simp)
  rw [Nat.zero_add] at ht
  have hr := many_range _ _ al ht.1 ht.2 l (by omega)
  refine ⟨?_, fun i hi => ?_, end_octW _ _ hr.1 hr.2⟩
  · rw [rd_octW _ _ _ _ hr.1 hr.2 (by omega), show detB l + 5 * l - 0 - detB l = 5 * l from by omega]
    have := many_div (tot 0 (detV l) (detB l)) al 0 l (by omega)
    rw [Nat.zero_add] at this
    rw [this, manyN_zero, tot_low]
    exact Int.emod_eq_of_lt hv.1 hv.2
  · rw [rd_octW _ _ _ _ hr.1 hr.2 (by omega), show detB l + 5 * l - (detB l + 5 * i) - 5 = 5 * (l - (i + 1)) from by omega]
    have := many_div (tot 0 (detV l) (detB l)) al (i + 1) (l - (i + 1)) (by omega)
    rw [show i + 1 + (l - (i + 1)) = l from by omega] at this
    rw [this, manyN_succ _ al i (by omega), tot_low, show (2 : Int) ^ 5 = 32 from by decide]
theorem and31 (v : Int) (h0 : 0 ≤ v) (h1 : v ≤ 18446744073709551615) : bits .and .u64 v 31 = v % 32 := by
  obtain ⟨x, rfl⟩ := Int.eq_ofNat_of_zero_le h0
  have := u64_and_nat x 31 (by omega) (by omega)
  rw [show (31 : Nat) = 2 ^ 5 - 1 from rfl, Nat.and_two_pow_sub_one_eq_mod] at this
  rw [show ((31 : Int)) = ((2 ^ 5 - 1 : Nat) : Int) from by decide, this]
  omega

/-- What some calls keep: all of the blocks ahead of a place but two. -/
def FrT (base g h : Nat) (w w' : World) : Prop :=
  w'.os = w.os ∧ w'.tape = w.tape ∧ w'.output = w.output ∧ w.heap.size ≤ w'.heap.size ∧ ∀ b, b < base → b ≠ g → b ≠ h → w'.heap[b]? = w.heap[b]?
section
variable {w w' wr w2 : World} {base g h : Nat}
theorem frT_blk {b : Nat} {t : TypeId} {cs : Array Value} (hf : FrT base g h w w') (hb : Blk w b t cs) (h1 : b < base) (h2 : b ≠ g) (h3 : b ≠ h) : Blk w' b t cs := (hf.2.2.2.2 b h1 h2 h3).trans hb
theorem frT_reads {B size n : Nat} {A : Option Addr} {xs : List Value} (hf : FrT base g h w w') (hr : Reads w B size A n xs) (hA : ∀ b, rowOf A = some b → b < base ∧ b ≠ g ∧ b ≠ h) : Reads w' B size A n xs := by
  refine ⟨hr.1, fun hn => ?_⟩
  obtain ⟨ad, e, hb, hc⟩ := hr.2 hn
  have ha := hA ad.block (by rw [e]; rfl)
  exact ⟨ad, e, hb, fun j u hu => (World.cell?_of_block (a := ad.add j) (by rw [block_of_add]; exact hf.2.2.2.2 _ ha.1 ha.2.1 ha.2.2)).trans (hc j u hu)⟩
theorem reads_more {B B' size n : Nat} {A : Option Addr} {xs : List Value} (hr : Reads w B size A n xs) (h : B ≤ B') : Reads w B' size A n xs :=
  ⟨hr.1, fun hn => by obtain ⟨ad, e, hb, hc⟩ := hr.2 hn; exact ⟨ad, e, Nat.lt_of_lt_of_le hb h, hc⟩⟩
theorem frT_var {ga l c : Nat} {B : Option Addr} {al : List Int} (hf : FrT base g h w w') (hv : VarU w ga B l c al) (h1 : ga < base ∧ ga ≠ g ∧ ga ≠ h) (hA : ∀ b, rowOf B = some b → b < base ∧ b ≠ g ∧ b ≠ h) : VarU w' ga B l c al :=
  ⟨frT_blk hf hv.1 h1.1 h1.2.1 h1.2.2, reads_more (frT_reads hf hv.2.1 hA) hf.2.2.2.1, hv.2.2⟩
theorem frT_wrv {gr : Nat} {A : Option Addr} {c at_ : Nat} {ys : List Int} {f : Int} (hf : FrT base g h w w') (hR : WRV w gr A c ys at_ f) (h1 : gr < base ∧ gr ≠ g ∧ gr ≠ h) (hA : ∀ b, rowOf A = some b → b < base ∧ b ≠ g ∧ b ≠ h) : WRV w' gr A c ys at_ f :=
  ⟨frT_blk hf hR.1 h1.1 h1.2.1 h1.2.2, reads_more (frT_reads hf hR.2.1 hA) hf.2.2.2.1, hR.2.2⟩
theorem frT_keeps {w0 : World} (hk : Keeps w0 w) (hf : FrT base g h w w') (hb : w0.heap.size ≤ base) (hg : w0.heap.size ≤ g) (hh : w0.heap.size ≤ h) : Keeps w0 w' :=
  ⟨hf.1.trans hk.os, hf.2.1.trans hk.tape, hf.2.2.1.trans hk.output, Nat.le_trans hk.size hf.2.2.2.1, fun b hb2 => (hf.2.2.2.2 b (by omega) (by omega) (by omega)).trans (hk.block b hb2)⟩
theorem fr_frT {k : Nat} (hf : Fr g none w w') (hb : base = w.heap.size) : FrT base g k w w' :=
  ⟨hf.1, hf.2.1, hf.2.2.1, hf.2.2.2.1, fun b hb2 h1 _ => hf.2.2.2.2 b (by omega) h1 (fun e => by cases e)⟩
theorem fr2_frT {k : Nat} (hf : Fr g (some k) w w') (hb : base ≤ w.heap.size) : FrT base g k w w' :=
  ⟨hf.1, hf.2.1, hf.2.2.1, hf.2.2.2.1, fun b hb2 h1 h2 => hf.2.2.2.2 b (by omega) h1 (fun e => by injection e with e; exact h2 e.symm)⟩
theorem fr3_frT {row : Option Nat} (hf : Fr3 g h row w w') (hb : base ≤ w.heap.size) (hr : ∀ b, row = some b → base ≤ b) : FrT base g h w w' :=
  ⟨hf.1, hf.2.1, hf.2.2.1, hf.2.2.2.1, fun b hb2 h1 h2 => hf.2.2.2.2 b (by omega) h1 h2 (fun e => by have := hr b e; omega)⟩
theorem frT_trans (h1 : FrT base g h w wr) (h2 : FrT base g h wr w2) : FrT base g h w w2 :=
  ⟨h2.1.trans h1.1, h2.2.1.trans h1.2.1, h2.2.2.1.trans h1.2.2.1, Nat.le_trans h1.2.2.2.1 h2.2.2.2.1, fun b hb a1 a2 => (h2.2.2.2.2 b hb a1 a2).trans (h1.2.2.2.2 b hb a1 a2)⟩
theorem frT_set (hf : FrT base g h w wr) {p : Addr} {v : Value} (hp : base ≤ p.block ∨ p.block = g ∨ p.block = h) : FrT base g h w (wr.setCell p v) :=
  ⟨hf.1, hf.2.1, hf.2.2.1, by have := hf.2.2.2.1; simpa [World.setCell] using this, fun b hb a1 a2 => (Below.heap_setCell _ p _ b (by rcases hp with h | h | h <;> omega)).trans (hf.2.2.2.2 b hb a1 a2)⟩
end
/-- TakeMany's rounds with the second function. -/
def I2 (w : World) (gr gv : Nat) (A : Option Addr) (c : Nat) (ys : List Int) (a : Nat) (j : Nat) (wr : World) : Prop :=
  ∃ v, WRV wr gr A c ys (a + 5 * j) 0 ∧ Blk wr gv 55 #[v] ∧ wr.ownsRow (w.heap.size + 1) 40 1 v j (UL ((List.range j).map fun i => rd ys (a + 5 * i) 5)) ∧ FrT w.heap.size gr gv w wr
/-- .. and with the third. -/
def I3 (w : World) (gr gt gm : Nat) (most : Int) (A : Option Addr) (c : Nat) (ys : List Int) (a : Nat) (j : Nat) (wr : World) : Prop :=
  WRV wr gr A c ys (a + 5 * j) 0 ∧ Blk wr gt 3 #[.int .i64 (j : Nat)] ∧ Blk wr gm 3 #[.int .i64 most] ∧ FrT w.heap.size gr gt w wr
section
variable {w : World} {gr gv gt gm : Nat} {A : Option Addr} {c : Nat} {ys : List Int} {a l : Nat} {most : Int}
theorem take2_any (hR : WRV w gr A c ys 0 0) (hV : Blk w gv 55 #[.slice none 0 0]) (hg : gr < gv) (hy : B8 ys) (hl : ys.length ≤ 10000000) (hl6 : l ≤ 600) (hrd : rd ys 0 (detB l) = detV l) (hat : detB l + 5 * l ≤ 8 * ys.length) :
    Calls Try.prog 28 #[.pointer (some ⟨gr, 0, none⟩), .int .i64 (l : Nat), .func (Fn.func 29) #[] #[.pointer (some ⟨gv, 0, none⟩)]] w fun e w' => e = .returned (.int .i64 (l : Nat)) ∧ I2 w gr gv A c ys (detB l) l w' := by
  have hgv := hV.lt
  refine (takeMany2_any l gv (I2 w gr gv A c ys (detB l)) (fun _ => true) hR hy hl hl6 hrd (by omega) ?_ ?_ ?_ ?_).mono ?_
  · intro w2 hR2 hf2
    rw [Nat.zero_add] at hR2
    exact ⟨_, hR2, fr_blk hf2 hV (by omega) (fun e => by cases e), World.ownsRow_nil _ _ _ _, fr_frT hf2 rfl⟩
  · rintro j wr ⟨v, hR, _⟩
    exact ⟨_, hR⟩
  · rintro j hj wr ⟨v, hR, hB, hO, hF⟩ hs hgn
    have hrow := fun b e => (hO.lt b e).1
    have hne : v.ownBlock ≠ some w.heap.size := fun e => by have := hrow _ e; omega
    refine (clo2_any gv j v ((List.range j).map fun i => rd ys (detB l + 5 * i) 5) (base := w.heap.size + 1) ⟨hB, by simpa using hO⟩ (by simp) hR hy hl (by omega) (by omega) hg (by omega) (by omega) (by omega)).mono ?_
    rintro e w' ⟨rfl, v', hR', hB', hO', hF'⟩
    refine ⟨rfl, ⟨v', by rw [show detB l + 5 * (j + 1) = detB l + 5 * j + 5 from by omega]; exact hR', hB', ?_, frT_trans hF (fr3_frT hF' (by omega) (fun b e => by have := hrow b e; omega))⟩, (hF'.2.2.2.2 _ hs (by omega) (by omega) hne).trans hgn⟩
    rw [List.range_succ, List.map_append]
    exact hO'
  · rintro j wr x ⟨v, hR, hB, hO, hF⟩
    have hfs : Fr w.heap.size none wr (wr.setCell ⟨w.heap.size, 0, none⟩ x) := (Fr.refl w.heap.size none wr).setCell (⟨w.heap.size, 0, none⟩ : Addr) _ (.inl rfl)
    exact ⟨v, hR.fr hfs (by omega) (fun e => by cases e) (fun b e => ⟨by have := hR.2.2 b e; omega, fun e2 => by cases e2⟩), fr_blk hfs hB (by omega) (fun e => by cases e), own_kept hO (fun b e => Below.heap_setCell _ (⟨w.heap.size, 0, none⟩ : Addr) _ b (by have := (hO.lt b e).1; show b ≠ w.heap.size; omega)), frT_set hF (.inl (Nat.le_refl _))⟩
  · rintro e w' (⟨j, hj, h, _⟩ | ⟨_, he, hI⟩)
    · cases h
    · exact ⟨he, hI⟩
theorem take3_any (hR : WRV w gr A c ys 0 0) (hT : Blk w gt 3 #[.int .i64 0]) (hM : Blk w gm 3 #[.int .i64 most]) (hg : gr < gt) (hgm : gm < gr) (hy : B8 ys) (hl : ys.length ≤ 10000000) (hl6 : l ≤ 600) (hrd : rd ys 0 (detB l) = detV l) (hat : detB l + 5 * l ≤ 8 * ys.length)
    (hm0 : 0 ≤ most) (hm1 : most ≤ l) :
    Calls Try.prog 28 #[.pointer (some ⟨gr, 0, none⟩), .int .i64 (l : Nat), .func (Fn.func 30) #[] #[.pointer (some ⟨gt, 0, none⟩), .pointer (some ⟨gm, 0, none⟩)]] w fun e w' => ∃ j : Nat, (∃ x, e = .returned (.int .i64 x)) ∧ (j : Int) = min (max 1 most) l ∧ I3 w gr gt gm most A c ys (detB l) j w' := by
  have hgt := hT.lt
  refine (takeMany3_any l gt gm (I3 w gr gt gm most A c ys (detB l)) (fun j => decide ((j : Int) + 1 < most)) hR hy hl hl6 hrd (by omega) ?_ ?_ ?_ ?_).mono ?_
  · intro w2 hR2 hf2
    rw [Nat.zero_add] at hR2
    exact ⟨hR2, fr_blk hf2 hT (by omega) (fun e => by cases e), fr_blk hf2 hM (by omega) (fun e => by cases e), fr_frT hf2 rfl⟩
  · rintro j wr ⟨hR, _⟩
    exact ⟨_, hR⟩
  · rintro j hj wr ⟨hR, hB, hM, hF⟩ hs hgn
    refine (clo3_any gt gm j (j : Nat) most hB hM hR hy hl (by omega) hg (by omega) (by omega) (by omega) (by omega)).mono ?_
    rintro e w' ⟨rfl, hR', hB', hM', hF'⟩
    refine ⟨rfl, ⟨by rw [show detB l + 5 * (j + 1) = detB l + 5 * j + 5 from by omega]; exact hR', ?_, hM', frT_trans hF (fr2_frT hF' (by omega))⟩, fr_blk hF' hgn (by omega) (fun e => by injection e with e; omega)⟩
    rw [show ((j + 1 : Nat) : Int) = (j : Int) + 1 from by omega]; exact hB'
  · rintro j wr x ⟨hR, hB, hM, hF⟩
    have hfs : Fr w.heap.size none wr (wr.setCell ⟨w.heap.size, 0, none⟩ x) := (Fr.refl w.heap.size none wr).setCell (⟨w.heap.size, 0, none⟩ : Addr) _ (.inl rfl)
    exact ⟨hR.fr hfs (by omega) (fun e => by cases e) (fun b e => ⟨by have := hR.2.2 b e; omega, fun e2 => by cases e2⟩), fr_blk hfs hB (by omega) (fun e => by cases e), fr_blk hfs hM (by omega) (fun e => by cases e), frT_set hF (.inl (Nat.le_refl _))⟩
  · rintro e w' (⟨j, hj, h, hall, hI, he⟩ | ⟨hall, he, hI⟩)
    · have hj2 : ¬ ((j : Int) + 1 < most) := of_decide_eq_false h
      have hj3 : j = 0 ∨ (j : Int) < most := by
        rcases Nat.eq_zero_or_pos j with h0 | h0
        · exact .inl h0
        · have := of_decide_eq_true (hall (j - 1) (by omega))
          right; omega
      exact ⟨j + 1, ⟨_, he⟩, by omega, hI⟩
    · have hl0 : l = 0 := by
        rcases Nat.eq_zero_or_pos l with h0 | h0
        · exact h0
        · have := of_decide_eq_true (hall (l - 1) (by omega))
          omega
      subst hl0
      exact ⟨0, ⟨_, he⟩, by omega, hI⟩
end
end Go.Proofs.Ytgaapigagglgbaa
