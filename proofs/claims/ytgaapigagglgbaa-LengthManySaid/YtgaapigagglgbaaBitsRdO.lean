/- The contract of a reader's Octets. -/
import Derived.Test.YtgaapigagglgbaaBitsRdB
import Derived.Test.YtgaapigagglgbaaSpoil
import Derived.Laws.CopyOwn
import Derived.Deep.RegionLaw
namespace Go.Proofs.Ytgaapigagglgbaa
open Go.ChangeShapes Go.WideShapes Go.ChangeAt Go.RowKit
variable {t : TypeId}

/-- A reader's call that gives back octets of its own, and where the reader stands then. -/
def GivesRd (t : TypeId) (w : World) (g : Nat) (A : Option Addr) (c : Nat) (xs : List Int) (at_ : Nat) (f : Int) (ys : List Int) (e : Ending) (w' : World) : Prop :=
  ∃ B d, e = .returned (.slice B ys.length d) ∧ ys.length ≤ d ∧ Holds w' B ys ∧ Wr w.heap.size w' B ys.length ∧ RV t w' g A c xs at_ f ∧ Fr g none w w'
/-- The octets that are made, k of m being there. -/
def outCells (xs : List Int) (at_ k m : Nat) : Array Value := ((rdO xs at_ k).map (Value.int .u8) ++ List.replicate (m - k) (Value.int .u8 0)).toArray
theorem out_set (xs : List Int) (at_ k m : Nat) (h : k < m) : (outCells xs at_ k m).setIfInBounds k (.int .u8 (rd xs (at_ + 8 * k) 8)) = outCells xs at_ (k + 1) m := by
  unfold outCells
  rw [List.setIfInBounds_toArray, List.set_append, if_neg (by simp [rdO_length]), rdO_succ, List.map_append]
  obtain ⟨j, hj⟩ : ∃ j, m - k = j + 1 := ⟨m - k - 1, by omega⟩
  rw [show m - (k + 1) = j from by omega, hj, List.replicate_succ]
  simp [rdO_length]
theorem out_holds {w : World} {go : Nat} {xs : List Int} {at_ m : Nat} (h : Blk w go 5 (outCells xs at_ m m)) : Holds w (some ⟨go, 0, none⟩) (rdO xs at_ m) := by
  refine ⟨by simp, fun _ => ⟨_, rfl, h.lt, fun j u hu => ?_⟩⟩
  rw [show ((⟨go, 0, none⟩ : Addr).add j) = ⟨go, j, none⟩ from by unfold Addr.add; split <;> simp_all, h.cell]
  simp only [outCells, Nat.sub_self, List.replicate_zero, List.append_nil, List.getElem?_toArray]
  exact hu
theorem out_wr {w : World} {go B : Nat} {cs : Array Value} {m : Nat} (h : Blk w go 5 cs) (hB : B ≤ go) : Wr B w (some ⟨go, 0, none⟩) m := fun _ => ⟨go, rfl, hB, fun i _ => h.frozen i⟩

theorem RV.fr_own {w w' : World} {g : Nat} {A : Option Addr} {c : Nat} {xs : List Int} {at_ at2 : Nat} {f : Int} (h : RV t w g A c xs at_ f) (hf : Fr g none w w') (hb : Blk w' g t (srcCells A xs.length c at2 [.int .i64 f])) : RV t w' g A c xs at2 f :=
  ⟨hb, h.2.1.fr hf (fun b e => ⟨h.2.2 b e, fun e => by cases e⟩), h.2.2⟩

theorem made_heap (w : World) (m : Nat) : (w.alloc (.cells (madeCells #[.int .u8 0] m) 5)).heap[w.heap.size]? = some (.cells (List.replicate m (Value.int .u8 0)).toArray 5 (0, 0)) := by
  have h := Blk.new w 5 (madeCells #[.int .u8 0] m)
  have e : madeCells #[Value.int .u8 0] m = (List.replicate m (Value.int .u8 0)).toArray := by
    rw [← toList_madeCells_one (Value.int .u8 0) m]
  rw [e] at h ⊢
  exact h
/-- The state of the loop of Octets. -/
def OutRel (t : TypeId) (w : World) (g : Nat) (A : Option Addr) (c : Nat) (xs : List Int) (at_ m k : Nat) (wr : World) : Prop :=
  RV t wr g A c xs (at_ + 8 * k) 0 ∧ Blk wr w.heap.size 5 (outCells xs at_ k m) ∧ Fr g none w wr
theorem out_start {w : World} {g : Nat} {A : Option Addr} {c : Nat} {xs : List Int} {at_ m : Nat} (hR : RV t (w.alloc (.cells (madeCells #[.int .u8 0] m) 5)) g A c xs at_ 0) : OutRel t w g A c xs at_ m 0 (w.alloc (.cells (madeCells #[.int .u8 0] m) 5)).drew.drew := by
  refine ⟨hR.drew.drew, ?_, ((Fr.refl g none w).alloc _).drew.drew⟩
  refine Blk.drew (Blk.drew ?_)
  have := made_heap w m
  unfold Blk outCells
  simpa [rdO] using this
/-- What a copy reads. -/
def CopyPos (dp sp : Option Addr) (g : Nat) (cs : List Value) (w : World) : Prop := 0 < cs.length → dp = some ⟨g, 0, none⟩ ∧ ∃ ad, sp = some ad ∧ ∀ j v, cs[j]? = some v → w.cell? (ad.add j) = some v
theorem un_drew3 {B : Nat} {a b : World} (h : Below B a.drew.drew.drew b) : Below B a b := ⟨h.os, h.tape, h.output, h.size, h.block⟩
theorem after_copy {w w4 : World} {g : Nat} {A : Option Addr} {c : Nat} {xs : List Int} {at_ m : Nat} {f : Int} (hR : RV t (w.alloc (.cells (madeCells #[.int .u8 0] m) 5)) g A c xs at_ f) (hb : Below w.heap.size (w.alloc (.cells (madeCells #[.int .u8 0] m) 5)) w4) (hg : g < w.heap.size) :
    w4.cell? ⟨g, 0, none⟩ = some (.slice A xs.length c) ∧ w4.cell? ⟨g, 1, none⟩ = some (.int .i64 (at_ : Nat)) ∧ w4.frozen? ⟨g, 1, none⟩ = false :=
  ⟨(hb.cell (p := ⟨g, 0, none⟩) hg).trans (hR.1.cell 0), (hb.cell (p := ⟨g, 1, none⟩) hg).trans (hR.1.cell 1), (hb.frozen (p := ⟨g, 1, none⟩) hg).trans (hR.1.frozen 1)⟩
theorem copy_gives {w w4 : World} {g : Nat} {A : Option Addr} {c : Nat} {xs : List Int} {P m : Nat} {vs : List Value} (hR : RV t (w.alloc (.cells (madeCells #[.int .u8 0] m) 5)) g A c xs P 0) (hg : g < w.heap.size) (hb : Below w.heap.size (w.alloc (.cells (madeCells #[.int .u8 0] m) 5)) w4)
    (h4 : Hid (w4.heap[w.heap.size]? = some (.cells vs.toArray 5 (0, 0)))) (hv : vs = (rdO xs P m).map (Value.int .u8)) (hh0 : Holds w A xs) :
    GivesRd t w g A c xs (P + 8 * m) 0 (rdO xs P m) (.returned (.slice (some ⟨w.heap.size, 0, none⟩) m m)) (w4.setCell ⟨g, 1, none⟩ (.int .i64 ((P : Int) + 8 * (m : Int)))) := by
  have hbo : Blk w4 w.heap.size 5 (outCells xs P m m) := by
    have := unhide h4
    rw [hv] at this
    unfold Blk outCells
    simpa using this
  have hbo2 := hbo.far (p := ⟨g, 1, none⟩) (show w.heap.size ≠ g by omega) (.int .i64 ((P : Int) + 8 * (m : Int)))
  have hgb : Blk w4 g t (srcCells A xs.length c P [.int .i64 0]) := (hb.block g hg).trans hR.1
  have hgb2 := hgb.set_ 1 (.int .i64 ((P + 8 * m : Nat) : Int))
  rw [src_set] at hgb2
  have e : ((P + 8 * m : Nat) : Int) = (P : Int) + 8 * (m : Int) := by omega
  rw [e] at hgb2
  have hsz : w.heap.size ≤ w4.heap.size := by have := hb.size; rw [World.size_alloc] at this; omega
  have hfr : Fr g none w (w4.setCell ⟨g, 1, none⟩ (.int .i64 ((P : Int) + 8 * (m : Int)))) := by
    refine Fr.setCell (w := w) ⟨hb.os, hb.tape, hb.output, hsz, fun b hbl _ _ => ?_⟩ _ _ (.inl rfl)
    exact (hb.block b hbl).trans (Below.heap_alloc w _ b hbl)
  refine ⟨_, m, by rw [rdO_length], by rw [rdO_length]; exact Nat.le_refl _, out_holds hbo2, by rw [rdO_length]; exact out_wr hbo2 (Nat.le_refl _), ⟨hgb2, ?_, hR.2.2⟩, hfr⟩
  have hw0 : Holds w A xs := hh0
  exact hw0.fr hfr (fun b e => ⟨hR.2.2 b e, fun e => by cases e⟩)

section
variable {w : World} {g : Nat} {A : Option Addr} {c : Nat} {xs : List Int} {at_ : Nat} {f : Int}
set_option maxRecDepth 100000 in
set_option maxHeartbeats 2000000 in
theorem rdOctetsNo_any (n : Int) (hR : RV t w g A c xs at_ f) (hl : xs.length ≤ 10000000) (ha : at_ ≤ 8 * xs.length) (hn0 : -9223372036854775808 ≤ n) (hn1 : n ≤ 9223372036854775807) (hno : f ≠ 0 ∨ ((8 * xs.length - at_) / 8 : Nat) < n) :
    Calls Try.prog 63 #[.pointer (some ⟨g, 0, none⟩), .int .i64 n] w (GivesRd t w g A c xs at_ (if f = 0 then 3 else f) []) := by
  have HLe := hide (rdLeft_any hR hl ha)
  obtain ⟨T, hT⟩ : ∃ T : Nat, T = 8 * xs.length - at_ := ⟨_, rfl⟩
  have hT8 : T ≤ 80000000 := by omega
  rw [← hT] at hno HLe
  obtain ⟨m, hm, hm1⟩ : ∃ m : Nat, min (max n 0) ((T / 8 : Nat) + 1 : Int) = (m : Int) ∧ m ≤ T / 8 + 1 := ⟨(min (max n 0) ((T / 8 : Nat) + 1 : Int)).toNat, by omega, by omega⟩
  have HM := hide hm
  have ediv : (T : Int) / 8 = ((T / 8 : Nat) : Int) := by omega
  generalize hq : T / 8 = q at *
  have hq1 : q ≤ 10000000 := by omega
  by_cases hf : f = 0
  · subst hf
    rw [if_pos rfl]
    have hgt : (T : Int) < 8 * m := by rcases hno with h | h <;> omega
    have HH := hide (has_any (8 * (m : Int)) hR.drew hl ha)
    have HR := hide hR
    have HGT := hide hgt
    have HTT := hide hT
    clear hR hno hm hgt hq hT ha
    go_enter Try.func63, Try.ntmps63
    go_wp2_with fail
    with_reducible refine (unhide HLe).mono ?_
    rintro e w1 ⟨rfl, rfl⟩
    go_wp2_with fail
    refine (within_any _ _ _).mono ?_
    rintro e w1 ⟨rfl, hw1⟩
    rw [hw1, unhide HM]
    clear hw1
    go_wp2_with fail
    with_reducible refine (unhide HH).mono ?_
    rintro e w1 (⟨hbad, _⟩ | ⟨_, rfl, hw1⟩)
    · exfalso; have := unhide HGT; have := unhide HTT; omega
    · have HW := hide hw1
      clear hw1
      go_wp2
      go_ret
      rw [unhide HW]
      obtain ⟨f1, f2⟩ := frame_fault (unhide HR).drew 3
      exact ⟨none, 0, rfl, Nat.le_refl _, Holds.nil _, fun h => absurd h (by simp), f1, (Fr.refl g none w).drew.trans f2 (fun x e => by cases e)⟩
  · rw [if_neg hf]
    have HH := hide (hasF_any f (8 * (m : Int)) hR.drew hf)
    have HR := hide hR
    clear hR hno hm hq hT ha hf
    go_enter Try.func63, Try.ntmps63
    go_wp2_with fail
    with_reducible refine (unhide HLe).mono ?_
    rintro e w1 ⟨rfl, rfl⟩
    go_wp2_with fail
    refine (within_any _ _ _).mono ?_
    rintro e w1 ⟨rfl, hw1⟩
    rw [hw1, unhide HM]
    clear hw1
    go_wp2_with fail
    with_reducible refine (unhide HH).mono ?_
    rintro e w1 ⟨rfl, hw1⟩
    have HW := hide hw1
    clear hw1
    go_wp2
    go_ret
    rw [unhide HW]
    exact ⟨none, 0, rfl, Nat.le_refl _, Holds.nil _, fun h => absurd h (by simp), (unhide HR).drew, (Fr.refl g none w).drew⟩

set_option maxRecDepth 100000 in
set_option maxHeartbeats 4000000 in
theorem rdOctets_any (n : Int) (m : Nat) (hmx : max n 0 = (m : Int)) (hR : RV t w g A c xs at_ 0) (hx : B8 xs) (hl : xs.length ≤ 10000000) (ha : at_ ≤ 8 * xs.length) (hc : xs.length ≤ c) (hyes : at_ + 8 * m ≤ 8 * xs.length) (hm6 : m ≤ 1000000) :
    Calls Try.prog 63 #[.pointer (some ⟨g, 0, none⟩), .int .i64 n] w (GivesRd t w g A c xs (at_ + 8 * m) 0 (rdO xs at_ m)) := by
  have HLe := hide (rdLeft_any hR hl ha)
  obtain ⟨T, hT⟩ : ∃ T : Nat, T = 8 * xs.length - at_ := ⟨_, rfl⟩
  have hT8 : T ≤ 80000000 := by omega
  rw [← hT] at HLe
  have hm : min (max n 0) ((T / 8 : Nat) + 1 : Int) = (m : Int) := by omega
  have HM := hide hm
  have ediv : (T : Int) / 8 = ((T / 8 : Nat) : Int) := by omega
  have hmq : m ≤ T / 8 := by omega
  generalize hq : T / 8 = q at *
  have hq1 : q ≤ 10000000 := by omega
  have HH := hide (has_any (8 * (m : Int)) hR.drew hl ha)
  have hle : 8 * (m : Int) ≤ T := by omega
  have HLE := hide hle
  have HTT := hide hT
  have HR := hide hR.drew.drew
  have HX := hide hx
  have hmk := run_make_bytes m hm6
  have hgl := hR.drew.drew.1.lt
  clear hR hx hmx hm hle hT hq
  have HYES := hide hyes
  have hcase : (∃ i, at_ = 8 * i) ∨ ((at_ : Int) % 8 == 0) = false := by
    by_cases hal : at_ % 8 = 0
    · exact .inl ⟨at_ / 8, by omega⟩
    · right; rw [beq_eq_false_iff_ne]; omega
  have hRa : RV t (w.alloc (.cells (madeCells #[.int .u8 0] m) 5)) g A c xs at_ 0 := ⟨(unhide HR).1.alloc _, (unhide HR).2.1.alloc _, (unhide HR).2.2⟩
  obtain ⟨hgc, hgf, hgl2⟩ := hRa.1.facts
  have hg0 : (w.alloc (.cells (madeCells #[.int .u8 0] m) 5)).cell? ⟨g, 0, none⟩ = some (.slice A xs.length c) := hgc 0
  have hg1 : (w.alloc (.cells (madeCells #[.int .u8 0] m) 5)).cell? ⟨g, 1, none⟩ = some (.int .i64 (at_ : Nat)) := hgc 1
  have HRA := hide hRa
  clear hRa hgc
  rcases hcase with ⟨i, rfl⟩ | e1
  · have e1 : ((8 * i : Nat) : Int) % 8 = 0 := by omega
    have e2 : ((8 * i : Nat) : Int) / 8 = (i : Nat) := by omega
    generalize hP : 8 * i = P at *
    have HP := hide hP
    clear hP
    go_enter Try.func63, Try.ntmps63
    go_wp2_with fail
    with_reducible refine (unhide HLe).mono ?_
    rintro e w1 ⟨rfl, rfl⟩
    go_wp2_with fail
    refine (within_any _ _ _).mono ?_
    rintro e w1 ⟨rfl, hw1⟩
    rw [hw1, unhide HM]
    clear hw1
    go_wp2_with fail
    with_reducible refine (unhide HH).mono ?_
    rintro e w1 (⟨_, rfl, rfl⟩ | ⟨hbad, _⟩)
    · have hgw : g < w.heap.size := (unhide HR).1.lt
      have HGW := hide hgw
      have HMADE := hide (made_heap w m)
      have HONE := hide (ints_oneCell .u8 ((xs.drop i).take m))
      have HCN := hide (show (((xs.drop i).take m).map (Value.int .u8)).length = Nat.min (xs.length - i) m from by rw [List.length_map, List.length_take, List.length_drop]; exact Nat.min_comm _ _)
      have HFIT := hide (show 0 + (((xs.drop i).take m).map (Value.int .u8)).length ≤ (List.replicate m (Value.int .u8 0)).length from by simp; omega)
      have HSPL := hide (show splice (List.replicate m (Value.int .u8 0)) 0 (((xs.drop i).take m).map (Value.int .u8)) = (rdO xs P m).map (Value.int .u8) from by
        rw [← unhide HP, rdO_whole xs (unhide HX) i m (by have := unhide HP; omega)]
        have hl2 : ((xs.drop i).take m).length = m := by rw [List.length_take, List.length_drop]; have := unhide HP; omega
        simp only [splice, List.take_zero, List.nil_append, List.length_map, hl2, Nat.zero_add]
        have hdr : (List.replicate m (Value.int .u8 0)).drop m = [] := by simp
        rw [hdr, List.append_nil])
      have hPi : 8 * i ≤ 8 * xs.length := by have := unhide HP; omega
      have hi0 : (0 : Int) ≤ (i : Int) := by omega
      have hi1 : (i : Int) ≤ (xs.length : Int) := by omega
      have hi2 : (i : Int) ≤ 10000000 := by omega
      have hi3 : (xs.length : Int) ≤ (c : Int) := by omega
      have hiw : IntKind.i64.wrap (i : Int) = i := by rw [IntKind.wrap_i64]; omega
      cases A with
      | none =>
        have hxe : xs.length = 0 := by
          rcases Nat.eq_zero_or_pos xs.length with h | h
          · exact h
          · obtain ⟨ad, e, _⟩ := (unhide HRA).2.1.2 h; cases e
        have HPOS := hide (show CopyPos (some ⟨w.heap.size, 0, none⟩) none w.heap.size (((xs.drop i).take m).map (Value.int .u8)) (w.alloc (.cells (madeCells #[.int .u8 0] m) 5)).drew.drew.drew from fun h => by
          rw [unhide HCN] at h
          have : Nat.min (xs.length - i) m ≤ xs.length - i := Nat.min_le_left _ _
          omega)
        clear hxe
        go_wp2
        go_region_law (refine step_copy_splice rfl (.tmp 27) (.tmp 39) 28 28 rfl 5 Try.underlying28 (by kernel_rfl) (some ⟨w.heap.size, 0, none⟩) none m m (xs.length - i) (c - i) (by simp [Act.eval, Act.put]) (by simp [Act.eval, Act.put]) w.heap.size 0 (List.replicate m (.int .u8 0)) 5 (unhide HMADE) (((xs.drop i).take m).map (Value.int .u8)) (unhide HCN) (unhide HPOS) (unhide HFIT) (unhide HONE) w.heap.size _ (Below.refl _ _) (Nat.le_refl _) ?_; intro w4 hg4 hb4; have hb4' := un_drew3 hb4; obtain ⟨k0, k1, k2⟩ := after_copy (unhide HRA) hb4' (unhide HGW); have HB4 := hide hb4'; clear hb4 hb4')
        all_goals
          go_wp2
          go_ret
          exact copy_gives (unhide HRA) (unhide HGW) (unhide HB4) hg4 (unhide HSPL) (unhide HR).2.1
      | some ad =>
        by_cases hci : c = i
        · subst hci
          have HPOS := hide (show CopyPos (some ⟨w.heap.size, 0, none⟩) (some ad) w.heap.size (((xs.drop c).take m).map (Value.int .u8)) (w.alloc (.cells (madeCells #[.int .u8 0] m) 5)).drew.drew.drew from fun h => by
            rw [unhide HCN] at h
            have : Nat.min (xs.length - c) m ≤ xs.length - c := Nat.min_le_left _ _
            omega)
          go_wp2
          go_region_law (refine step_copy_splice rfl (.tmp 27) (.tmp 39) 28 28 rfl 5 Try.underlying28 (by kernel_rfl) (some ⟨w.heap.size, 0, none⟩) (some ad) m m (xs.length - c) 0 (by simp [Act.eval, Act.put]) (by simp [Act.eval, Act.put]; omega) w.heap.size 0 (List.replicate m (.int .u8 0)) 5 (unhide HMADE) (((xs.drop c).take m).map (Value.int .u8)) (unhide HCN) (unhide HPOS) (unhide HFIT) (unhide HONE) w.heap.size _ (Below.refl _ _) (Nat.le_refl _) ?_; intro w4 hg4 hb4; have hb4' := un_drew3 hb4; obtain ⟨k0, k1, k2⟩ := after_copy (unhide HRA) hb4' (unhide HGW); have HB4 := hide hb4'; clear hb4 hb4')
          all_goals
            go_wp2
            go_ret
            exact copy_gives (unhide HRA) (unhide HGW) (unhide HB4) hg4 (unhide HSPL) (unhide HR).2.1
        · have hil : 0 < (((xs.drop i).take m).map (Value.int .u8)).length → i < xs.length := fun h => by
            rw [unhide HCN] at h
            have : Nat.min (xs.length - i) m ≤ xs.length - i := Nat.min_le_left _ _
            omega
          have HPOS := hide (show CopyPos (some ⟨w.heap.size, 0, none⟩) (some (ad.add i)) w.heap.size (((xs.drop i).take m).map (Value.int .u8)) (w.alloc (.cells (madeCells #[.int .u8 0] m) 5)).drew.drew.drew from fun h => ⟨rfl, _, rfl, fun j v hv => by
            obtain ⟨ad2, e2, _, hcell⟩ := (unhide HRA).2.1.2 (by have := hil h; omega)
            injection e2 with e2; subst e2
            rw [add_of_add]
            refine hcell (i + j) v ?_
            rw [List.getElem?_map] at hv ⊢
            rw [List.getElem?_take] at hv
            split at hv
            · rw [List.getElem?_drop] at hv; exact hv
            · cases hv⟩)
          clear hil
          go_wp2
          go_region_law (refine step_copy_splice rfl (.tmp 27) (.tmp 39) 28 28 rfl 5 Try.underlying28 (by kernel_rfl) (some ⟨w.heap.size, 0, none⟩) (some (ad.add i)) m m (xs.length - i) (c - i) (by simp [Act.eval, Act.put]) (by simp [Act.eval, Act.put]) w.heap.size 0 (List.replicate m (.int .u8 0)) 5 (unhide HMADE) (((xs.drop i).take m).map (Value.int .u8)) (unhide HCN) (unhide HPOS) (unhide HFIT) (unhide HONE) w.heap.size _ (Below.refl _ _) (Nat.le_refl _) ?_; intro w4 hg4 hb4; have hb4' := un_drew3 hb4; obtain ⟨k0, k1, k2⟩ := after_copy (unhide HRA) hb4' (unhide HGW); have HB4 := hide hb4'; clear hb4 hb4')
          all_goals
            go_wp2
            go_ret
            exact copy_gives (unhide HRA) (unhide HGW) (unhide HB4) hg4 (unhide HSPL) (unhide HR).2.1
    · exfalso; have := unhide HLE; have := unhide HTT; omega
  · have hex : ∀ k, k ≤ m → at_ + 8 * k ≤ 8 * xs.length := fun k hk => by omega
    have HEX := hide hex
    clear hex hg0
    go_enter Try.func63, Try.ntmps63
    go_wp2_with fail
    with_reducible refine (unhide HLe).mono ?_
    rintro e w1 ⟨rfl, rfl⟩
    go_wp2_with fail
    refine (within_any _ _ _).mono ?_
    rintro e w1 ⟨rfl, hw1⟩
    rw [hw1, unhide HM]
    clear hw1
    go_wp2_with fail
    with_reducible refine (unhide HH).mono ?_
    rintro e w1 (⟨_, rfl, rfl⟩ | ⟨hbad, _⟩)
    · have hst : ∃ k : Nat, k ≤ m ∧ (0 : Int) = (k : Nat) ∧ OutRel t w g A c xs at_ m k (w.alloc (.cells (madeCells #[.int .u8 0] m) 5)).drew.drew := ⟨0, Nat.zero_le _, rfl, out_start (unhide HRA)⟩
      have HST := hide hst
      clear hst
      go_wp2
      go_loopw [55] (fun i wr => ∃ k : Nat, k ≤ m ∧ i = .int .i64 k ∧ OutRel t w g A c xs at_ m k wr) (fun i _ => m - (intOf i).toNat)
      case atStart =>
        obtain ⟨k, hk, e, h⟩ := unhide HST
        exact ⟨k, hk, by rw [e], h⟩
      case round =>
        obtain ⟨k, hk, rfl, hR2⟩ := hrel
        by_cases hlt : k < m
        · obtain ⟨hrv, hbo, hfr⟩ := hR2
          have hgo : g ≠ w.heap.size := by have := hfr.2.2.2.1; intro e; have h1 := (unhide HR).1.lt; rw [e] at h1; exact absurd h1 (Nat.lt_irrefl _)
          have hrow : ∀ b, rowOf A = some b → b ≠ w.heap.size := fun b e => by
            obtain ⟨ad, e2, hlt2, _⟩ := (unhide HR).2.1.2 (by have := unhide HYES; omega)
            rw [e2] at e
            injection e with e
            have h1 : ad.block < w.heap.size := hlt2
            change ad.block = b at e
            omega
          have HROW := hide hrow
          clear hrow
          have hn0 := (next_any g _ A xs c (at_ + 8 * k) 8 _ wr hrv.1 hrv.2.1 (unhide HX) hrv.2.2 hl (by omega) (by have := unhide HEX (k + 1) (by omega); omega))
          rw [show ((8 : Nat) : Int) = 8 from rfl] at hn0
          have HN := hide hn0
          clear hn0
          have HBO := hide hbo
          have HRV := hide hrv
          have HFR := hide hfr
          have hrr := rd_range xs (at_ + 8 * k) 8
          rw [show (2 : Int) ^ 8 = 256 from by decide] at hrr
          have HSET := hide (out_set xs at_ k m hlt)
          clear hrv hbo hfr
          generalize rd xs (at_ + 8 * k) 8 = byte at *
          go_wp2_with fail
          with_reducible refine (unhide HN).mono ?_
          rintro e w2 ⟨rfl, hb2, hf2⟩
          have hbo2 := fr_blk hf2 (unhide HBO) (fun e => hgo e.symm) (fun e => by cases e)
          obtain ⟨hoc, hof, hol⟩ := hbo2.facts
          have hock : ∃ u, w2.cell? ⟨w.heap.size, k, none⟩ = some u := by
            rw [hoc]
            exact ⟨_, Array.getElem?_eq_getElem (by simp [outCells, rdO_length]; omega)⟩
          obtain ⟨u, hock⟩ := hock
          have HB2 := hide hb2
          have HF2 := hide hf2
          have HBO2 := hide hbo2
          clear hb2 hf2 hbo2 hoc
          go_wp2
          refine ⟨⟨k + 1, by omega, by go_num, ?_⟩, by simp [intOf]; omega⟩
          refine ⟨?_, ?_, ?_⟩
          · have h1 : RV t w2 g A c xs (at_ + 8 * k + 8) 0 := (unhide HRV).fr_own (unhide HF2) (unhide HB2)
            rw [show at_ + 8 * (k + 1) = at_ + 8 * k + 8 from by omega]
            exact h1.fr ((Fr.refl w.heap.size none w2).setCell _ _ (.inl rfl)) hgo (fun e => by cases e) (fun b e => ⟨(unhide HROW b e), fun h => by cases h⟩)
          · have := (unhide HBO2).set_ k (.int .u8 byte)
            rw [unhide HSET] at this
            exact this
          · have h1 := (unhide HFR).trans (unhide HF2) (fun x e => by cases e)
            exact Fr.setCell h1 _ _ (.inr (.inr (Nat.le_refl _)))
        · obtain rfl : k = m := by omega
          obtain ⟨hrv, hbo, hfr⟩ := hR2
          have HG := hide (show GivesRd t w g A c xs (at_ + 8 * k) 0 (rdO xs at_ k) (.returned (.slice (some ⟨w.heap.size, 0, none⟩) k k)) wr from
            ⟨_, k, by rw [rdO_length], by rw [rdO_length]; exact Nat.le_refl _, out_holds hbo, by rw [rdO_length]; exact out_wr hbo (Nat.le_refl _), hrv, hfr⟩)
          clear hrv hbo hfr
          go_wp2
          go_ret
          exact unhide HG
    · exfalso; have := unhide HLE; have := unhide HTT; omega
end
end Go.Proofs.Ytgaapigagglgbaa
