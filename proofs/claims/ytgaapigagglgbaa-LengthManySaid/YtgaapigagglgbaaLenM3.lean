/- LengthMany's third function; TakeMany with the second, and with the third. -/
import Derived.Test.YtgaapigagglgbaaLenM2
namespace Go.Proofs.Ytgaapigagglgbaa
open Go.ChangeShapes Go.WideShapes Go.ChangeAt Go.RowKit
set_option linter.unusedVariables false

theorem int_load {w : World} {g : Nat} {x : Int} (hb : Blk w g 3 #[.int .i64 x]) : (loadVar 3 ⟨g, 0, none⟩).run Try.prog w = .ok (.int .i64 x) w := by
  have hc : w.cell? ⟨g, 0, none⟩ = some (.int .i64 x) := hb.cell 0
  simp [go_sem, hc]
theorem results_n {fn : Func} {c : Tmp} {tmps : Array Value} {w : World} {g : Nat} {x : Int} (h : fn.results = #[.cell c 3]) (hp : tmps.getD c undef = .pointer (some ⟨g, 0, none⟩)) (hb : Blk w g 3 #[.int .i64 x]) :
    (results fn tmps).run Try.prog w = .ok (.int .i64 x) w := by
  have hp2 : tmps[c]?.getD undef = .pointer (some ⟨g, 0, none⟩) := by simpa using hp
  simp only [results, h]
  simp [hp2, asAddr, int_load hb]
set_option maxRecDepth 100000 in
set_option maxHeartbeats 1000000 in
theorem clo3_any (gt gm j : Nat) (told most : Int) {wr : World} {gr : Nat} {A : Option Addr} {c : Nat} {ys : List Int} {at_ : Nat} (hT : Blk wr gt 3 #[.int .i64 told]) (hM : Blk wr gm 3 #[.int .i64 most]) (hR : WRV wr gr A c ys at_ 0) (hy : B8 ys) (hl : ys.length ≤ 10000000) (hat : at_ + 5 ≤ 8 * ys.length)
    (hgt : gr < gt) (hgm : gm ≠ gr) (hgg : gm ≠ gt) (h0 : 0 ≤ told) (h1 : told ≤ 1000) :
    Calls Try.prog 30 #[.pointer (some ⟨gr, 0, none⟩), .int .i64 (j : Nat), .pointer (some ⟨gt, 0, none⟩), .pointer (some ⟨gm, 0, none⟩)] wr fun e w' => e = .returned (.bool (decide (told + 1 < most))) ∧ WRV w' gr A c ys (at_ + 5) 0 ∧ Blk w' gt 3 #[.int .i64 (told + 1)] ∧ Blk w' gm 3 #[.int .i64 most] ∧ Fr gr (some gt) wr w' := by
  have hct : wr.cell? ⟨gt, 0, none⟩ = some (.int .i64 told) := hT.cell 0
  have hft := hT.frozen 0
  have hT2 : Blk (wr.setCell ⟨gt, 0, none⟩ (.int .i64 (told + 1))) gt 3 #[.int .i64 (told + 1)] := by simpa using hT.set_ 0 (.int .i64 (told + 1))
  have hfs : Fr gt none wr (wr.setCell ⟨gt, 0, none⟩ (.int .i64 (told + 1))) := (Fr.refl gt none wr).setCell (⟨gt, 0, none⟩ : Addr) _ (.inl rfl)
  have hfs2 : Fr gr (some gt) wr (wr.setCell ⟨gt, 0, none⟩ (.int .i64 (told + 1))) := (Fr.refl gr (some gt) wr).setCell (⟨gt, 0, none⟩ : Addr) _ (.inr (.inl rfl))
  have hM2 := fr_blk hfs hM hgg (fun e => by cases e)
  have hR2 := hR.fr hfs (by omega) (fun e => by cases e) (fun b e => ⟨by have := hR.2.2 b e; omega, fun e2 => by cases e2⟩)
  have e1 : rdVal ys at_ 0 5 = rd ys at_ 5 := if_pos ⟨rfl, hat⟩
  have e2 : rdAt (8 * ys.length) at_ 0 5 = at_ + 5 := if_pos ⟨rfl, hat⟩
  have e3 : rdF (8 * ys.length) at_ 0 5 = 0 := by unfold rdF; rw [if_pos rfl, if_pos hat]
  have hc1 := wrBits_any 5 5 (by omega) hR2 hy hl (by omega)
  rw [e1, e2, e3] at hc1
  have HC1 := hide hc1
  have HT2 := hide hT2
  have HM2 := hide hM2
  have HFS2 := hide hfs2
  clear hc1 e1 e2 e3 hT hM hR hT2 hfs hfs2 hM2 hR2
  generalize rd ys at_ 5 = rv at *
  go_enter Try.func30, Try.ntmps30
  go_wp2_with fail
  with_reducible refine (unhide HC1).mono ?_
  rintro e w1 ⟨rfl, hR1, hf1⟩
  have hT3 := fr_blk hf1 (unhide HT2) (by omega) (fun e => by cases e)
  have hM3 := fr_blk hf1 (unhide HM2) hgm (fun e => by cases e)
  have hct3 : w1.cell? ⟨gt, 0, none⟩ = some (.int .i64 (told + 1)) := hT3.cell 0
  have hcm3 : w1.cell? ⟨gm, 0, none⟩ = some (.int .i64 most) := hM3.cell 0
  have HT3 := hide hT3
  have HM3 := hide hM3
  have HR1 := hide hR1
  have HF1 := hide ((unhide HFS2).trans (fr_row hf1) (fun x e => .inl e))
  clear hT3 hM3 hR1 hf1
  go_wp2
  go_ret
  exact ⟨rfl, unhide HR1, unhide HT3, unhide HM3, unhide HF1⟩

set_option maxRecDepth 100000 in
set_option maxHeartbeats 4000000 in
theorem takeMany2_any (l gv : Nat) (I : Nat → World → Prop) (ok : Nat → Bool) {w : World} {gr : Nat} {A : Option Addr} {c : Nat} {ys : List Int} {a : Nat} (hR : WRV w gr A c ys a 0) (hy : B8 ys) (hl : ys.length ≤ 10000000) (hl6 : l ≤ 600)
    (hrd : rd ys a (detB l) = detV l) (hat : a + detB l ≤ 8 * ys.length)
    (hI0 : ∀ w2, WRV w2 gr A c ys (a + detB l) 0 → Fr gr none w w2 → I 0 w2) (hIr : ∀ j wr, I j wr → ∃ a2, WRV wr gr A c ys a2 0)
    (hIc : ∀ j, j < l → ∀ wr, I j wr → w.heap.size < wr.heap.size → Blk wr w.heap.size 3 #[.int .i64 0] → Calls Try.prog 29 #[.pointer (some ⟨gr, 0, none⟩), .int .i64 (j : Nat), .pointer (some ⟨gv, 0, none⟩)] wr (fun e w' => e = .returned (.bool (ok j)) ∧ I (j + 1) w' ∧ Blk w' w.heap.size 3 #[.int .i64 0]))
    (hIs : ∀ j wr x, I j wr → I j (wr.setCell ⟨w.heap.size, 0, none⟩ x)) :
    Calls Try.prog 28 #[.pointer (some ⟨gr, 0, none⟩), .int .i64 (l : Nat), .func (Fn.func 29) #[] #[.pointer (some ⟨gv, 0, none⟩)]] w fun e w' =>
      (∃ j, j < l ∧ ok j = false ∧ (∀ i, i < j → ok i = true) ∧ I (j + 1) w' ∧ e = .returned (.int .i64 0)) ∨ ((∀ i, i < l → ok i = true) ∧ e = .returned (.int .i64 (l : Nat)) ∧ I l w') := by
  have hmf : ∀ (fn : Fn) (first cap : Array Value) (w : World), (Instr.makeFunc fn first cap).run Try.prog w = .ok (.func fn first cap) w := fun _ _ _ _ => rfl
  have hfn : ∀ (w : World), (binOp BinOp.eql 60 (.func (Fn.func 29) #[] #[.pointer (some ⟨gv, 0, none⟩)]) Value.nilFunc).run Try.prog w = .ok (.bool false) w := fun _ => rfl
  have hgl := hR.1.lt
  have hk0 := ((Keeps.refl w).alloc (.cells #[.int .i64 0] 3)).alloc (.cells (takC gr l 0 0) 85)
  have hgn0 := (Blk.new w 3 #[.int .i64 0]).alloc (.cells (takC gr l 0 0) 85)
  have hgt0 := Blk.new (w.alloc (.cells #[.int .i64 0] 3)) 85 (takC gr l 0 0)
  rw [World.size_alloc] at hgt0
  have HN := hide (next_any_ok (l : Int) 0 0 (l : Int) l (by omega) (hR.keeps hk0) hgt0 (by omega) hy hl (by omega) (by omega) hat hrd (by omega) (by omega) (by omega) (by omega))
  have HGN := hide hgn0
  have HK0 := hide hk0
  have HI0 := hide hI0
  have HIR := hide hIr
  have HIC := hide hIc
  have HIS := hide hIs
  clear hR hk0 hgn0 hgt0 hI0 hIr hIc hIs hy hl hrd hat
  rw [Int.zero_add] at HN
  go_enter_defers Try.func28, Try.ntmps28
  go_wp2
  generalize hw0 : ((w.alloc (.cells #[.int .i64 0] 3)).alloc (.cells (takC gr l 0 0) 85)) = w0 at *
  go_loopw [8] (fun i wr => i = .int .i64 0 ∧ wr = w0) (fun _ _ => 0)
  case atStart => exact ⟨rfl, rfl⟩
  case round =>
    obtain ⟨rfl, rfl⟩ := hrel
    go_wp2_with fail
    with_reducible refine (unhide HN).mono ?_
    rintro e w2 ⟨rfl, hR2, hT2, hf2⟩
    have hz2 := hf2.2.2.2.1
    have hz0 : wr.heap.size = w.heap.size + 1 + 1 := by rw [← hw0, World.size_alloc, World.size_alloc]
    have hg2 : Blk w2 w.heap.size 3 #[.int .i64 0] := fr_blk hf2 (unhide HGN) (by omega) (fun e => by injection e with e; omega)
    have HI2 := hide (unhide HI0 w2 hR2 (fr_past (h := 0) ((Fr.refl gr none w).keeps (unhide HK0)) hf2 (fun b e => by injection e with e; omega)))
    have HG2 := hide hg2
    have hs2 : w.heap.size < w2.heap.size := by omega
    clear hR2 hT2 hf2 hg2 HN HGN HK0 HI0
    go_wp2
    go_loopw [8, 24] (fun i x wx => ∃ (j : Nat) (wy : World), wy = wx ∧ j ≤ l ∧ i = .int .i64 j ∧ x = .int .i64 j ∧ Hid (∀ i, i < j → ok i = true) ∧ Hid (I j wy) ∧ Blk wy w.heap.size 3 #[.int .i64 0] ∧ w.heap.size < wy.heap.size) (fun _ x _ => l - (intOf x).toNat)
    case atStart => exact ⟨0, w2, rfl, Nat.zero_le _, rfl, rfl, hide (fun i h => by omega), HI2, unhide HG2, hs2⟩
    case round =>
      obtain ⟨j, wy, rfl, hj, rfl, rfl, HOK, HI, hg, hsx⟩ := hrel
      obtain ⟨hgc, hgf, hgl2⟩ := hg.facts
      have hgc0 : wy.cell? ⟨w.heap.size, 0, none⟩ = some (.int .i64 0) := hgc 0
      by_cases hlt : j < l
      · have HC := hide (unhide HIC j hlt wy (unhide HI) hsx hg)
        have hzx := hsx
        cases hok : ok j with
        | false =>
          rw [hok] at HC
          have HOJ := hide hok
          clear hg hgc hgf hgl2 hgc0 hok
          go_wp2_with fail
          with_reducible refine (unhide HC).mono ?_
          rintro e w3 ⟨rfl, hI3, hg3⟩
          obtain ⟨hgc3, hgf3, hgl3⟩ := hg3.facts
          have hgc30 : w3.cell? ⟨w.heap.size, 0, none⟩ = some (.int .i64 0) := hgc3 0
          have HG3 := hide hg3
          have HI3 := hide hI3
          clear hg3 hI3 hgc3
          go_wp2
          have hbf : Blk (w3.setCell ⟨w.heap.size, 0, none⟩ (.int .i64 0)) w.heap.size 3 #[.int .i64 0] := by simpa using (unhide HG3).set_ 0 (.int .i64 0)
          refine leaves_cons (f := 54) (args := #[.pointer (some ⟨w.heap.size, 0, none⟩)]) (by simp) (by simp [go_sem]) ?_
          refine (takeRec_any ⟨w.heap.size, 0, none⟩ _).mono ?_
          rintro e u' w'' ⟨rfl, rfl, rfl⟩
          refine ⟨_, results_n rfl rfl hbf, ?_⟩
          exact .inl ⟨j, hlt, unhide HOJ, unhide HOK, unhide HIS _ _ _ (unhide HI3), rfl⟩
        | true =>
          rw [hok] at HC
          have HOJ := hide hok
          clear hg hgc hgf hgl2 hgc0 hok
          go_wp2_with fail
          with_reducible refine (unhide HC).mono ?_
          rintro e w3 ⟨rfl, hI3, hg3⟩
          obtain ⟨a3, hR3⟩ := unhide HIR _ _ hI3
          have HE := hide (wrErr_any hR3)
          have HG3 := hide hg3
          have HI3 := hide hI3
          have hs3 := hg3.lt
          clear hg3 hI3 hR3
          go_wp2_with fail
          with_reducible refine (unhide HE).mono ?_
          rintro e w4 ⟨rfl, hw4⟩
          rw [hw4]
          clear hw4
          go_wp2
          exact ⟨⟨j + 1, _, rfl, by omega, by go_num, by go_num, hide (fun i hi => by
            rcases Nat.lt_or_ge i j with h | h
            · exact unhide HOK i h
            · obtain rfl : i = j := by omega
              exact unhide HOJ), HI3, unhide HG3, hs3⟩, by simp [intOf]; omega⟩
      · obtain rfl : j = l := by omega
        have HG3 := hide hg
        clear hg hgc
        go_wp2
        have hbf : Blk (wy.setCell ⟨w.heap.size, 0, none⟩ (.int .i64 (j : Nat))) w.heap.size 3 #[.int .i64 (j : Nat)] := by simpa using (unhide HG3).set_ 0 (.int .i64 (j : Nat))
        refine leaves_cons (f := 54) (args := #[.pointer (some ⟨w.heap.size, 0, none⟩)]) (by simp) (by simp [go_sem]) ?_
        refine (takeRec_any ⟨w.heap.size, 0, none⟩ _).mono ?_
        rintro e u' w'' ⟨rfl, rfl, rfl⟩
        refine ⟨_, results_n rfl rfl hbf, ?_⟩
        exact .inr ⟨unhide HOK, rfl, unhide HIS _ _ _ (unhide HI)⟩

set_option maxRecDepth 100000 in
set_option maxHeartbeats 4000000 in
theorem takeMany3_any (l gt gm : Nat) (I : Nat → World → Prop) (ok : Nat → Bool) {w : World} {gr : Nat} {A : Option Addr} {c : Nat} {ys : List Int} {a : Nat} (hR : WRV w gr A c ys a 0) (hy : B8 ys) (hl : ys.length ≤ 10000000) (hl6 : l ≤ 600)
    (hrd : rd ys a (detB l) = detV l) (hat : a + detB l ≤ 8 * ys.length)
    (hI0 : ∀ w2, WRV w2 gr A c ys (a + detB l) 0 → Fr gr none w w2 → I 0 w2) (hIr : ∀ j wr, I j wr → ∃ a2, WRV wr gr A c ys a2 0)
    (hIc : ∀ j, j < l → ∀ wr, I j wr → w.heap.size < wr.heap.size → Blk wr w.heap.size 3 #[.int .i64 0] → Calls Try.prog 30 #[.pointer (some ⟨gr, 0, none⟩), .int .i64 (j : Nat), .pointer (some ⟨gt, 0, none⟩), .pointer (some ⟨gm, 0, none⟩)] wr (fun e w' => e = .returned (.bool (ok j)) ∧ I (j + 1) w' ∧ Blk w' w.heap.size 3 #[.int .i64 0]))
    (hIs : ∀ j wr x, I j wr → I j (wr.setCell ⟨w.heap.size, 0, none⟩ x)) :
    Calls Try.prog 28 #[.pointer (some ⟨gr, 0, none⟩), .int .i64 (l : Nat), .func (Fn.func 30) #[] #[.pointer (some ⟨gt, 0, none⟩), .pointer (some ⟨gm, 0, none⟩)]] w fun e w' =>
      (∃ j, j < l ∧ ok j = false ∧ (∀ i, i < j → ok i = true) ∧ I (j + 1) w' ∧ e = .returned (.int .i64 0)) ∨ ((∀ i, i < l → ok i = true) ∧ e = .returned (.int .i64 (l : Nat)) ∧ I l w') := by
  have hmf : ∀ (fn : Fn) (first cap : Array Value) (w : World), (Instr.makeFunc fn first cap).run Try.prog w = .ok (.func fn first cap) w := fun _ _ _ _ => rfl
  have hfn : ∀ (w : World), (binOp BinOp.eql 60 (.func (Fn.func 30) #[] #[.pointer (some ⟨gt, 0, none⟩), .pointer (some ⟨gm, 0, none⟩)]) Value.nilFunc).run Try.prog w = .ok (.bool false) w := fun _ => rfl
  have hgl := hR.1.lt
  have hk0 := ((Keeps.refl w).alloc (.cells #[.int .i64 0] 3)).alloc (.cells (takC gr l 0 0) 85)
  have hgn0 := (Blk.new w 3 #[.int .i64 0]).alloc (.cells (takC gr l 0 0) 85)
  have hgt0 := Blk.new (w.alloc (.cells #[.int .i64 0] 3)) 85 (takC gr l 0 0)
  rw [World.size_alloc] at hgt0
  have HN := hide (next_any_ok (l : Int) 0 0 (l : Int) l (by omega) (hR.keeps hk0) hgt0 (by omega) hy hl (by omega) (by omega) hat hrd (by omega) (by omega) (by omega) (by omega))
  have HGN := hide hgn0
  have HK0 := hide hk0
  have HI0 := hide hI0
  have HIR := hide hIr
  have HIC := hide hIc
  have HIS := hide hIs
  clear hR hk0 hgn0 hgt0 hI0 hIr hIc hIs hy hl hrd hat
  rw [Int.zero_add] at HN
  go_enter_defers Try.func28, Try.ntmps28
  go_wp2
  generalize hw0 : ((w.alloc (.cells #[.int .i64 0] 3)).alloc (.cells (takC gr l 0 0) 85)) = w0 at *
  go_loopw [8] (fun i wr => i = .int .i64 0 ∧ wr = w0) (fun _ _ => 0)
  case atStart => exact ⟨rfl, rfl⟩
  case round =>
    obtain ⟨rfl, rfl⟩ := hrel
    go_wp2_with fail
    with_reducible refine (unhide HN).mono ?_
    rintro e w2 ⟨rfl, hR2, hT2, hf2⟩
    have hz2 := hf2.2.2.2.1
    have hz0 : wr.heap.size = w.heap.size + 1 + 1 := by rw [← hw0, World.size_alloc, World.size_alloc]
    have hg2 : Blk w2 w.heap.size 3 #[.int .i64 0] := fr_blk hf2 (unhide HGN) (by omega) (fun e => by injection e with e; omega)
    have HI2 := hide (unhide HI0 w2 hR2 (fr_past (h := 0) ((Fr.refl gr none w).keeps (unhide HK0)) hf2 (fun b e => by injection e with e; omega)))
    have HG2 := hide hg2
    have hs2 : w.heap.size < w2.heap.size := by omega
    clear hR2 hT2 hf2 hg2 HN HGN HK0 HI0
    go_wp2
    go_loopw [8, 24] (fun i x wx => ∃ (j : Nat) (wy : World), wy = wx ∧ j ≤ l ∧ i = .int .i64 j ∧ x = .int .i64 j ∧ Hid (∀ i, i < j → ok i = true) ∧ Hid (I j wy) ∧ Blk wy w.heap.size 3 #[.int .i64 0] ∧ w.heap.size < wy.heap.size) (fun _ x _ => l - (intOf x).toNat)
    case atStart => exact ⟨0, w2, rfl, Nat.zero_le _, rfl, rfl, hide (fun i h => by omega), HI2, unhide HG2, hs2⟩
    case round =>
      obtain ⟨j, wy, rfl, hj, rfl, rfl, HOK, HI, hg, hsx⟩ := hrel
      obtain ⟨hgc, hgf, hgl2⟩ := hg.facts
      have hgc0 : wy.cell? ⟨w.heap.size, 0, none⟩ = some (.int .i64 0) := hgc 0
      by_cases hlt : j < l
      · have HC := hide (unhide HIC j hlt wy (unhide HI) hsx hg)
        have hzx := hsx
        cases hok : ok j with
        | false =>
          rw [hok] at HC
          have HOJ := hide hok
          clear hg hgc hgf hgl2 hgc0 hok
          go_wp2_with fail
          with_reducible refine (unhide HC).mono ?_
          rintro e w3 ⟨rfl, hI3, hg3⟩
          obtain ⟨hgc3, hgf3, hgl3⟩ := hg3.facts
          have hgc30 : w3.cell? ⟨w.heap.size, 0, none⟩ = some (.int .i64 0) := hgc3 0
          have HG3 := hide hg3
          have HI3 := hide hI3
          clear hg3 hI3 hgc3
          go_wp2
          have hbf : Blk (w3.setCell ⟨w.heap.size, 0, none⟩ (.int .i64 0)) w.heap.size 3 #[.int .i64 0] := by simpa using (unhide HG3).set_ 0 (.int .i64 0)
          refine leaves_cons (f := 54) (args := #[.pointer (some ⟨w.heap.size, 0, none⟩)]) (by simp) (by simp [go_sem]) ?_
          refine (takeRec_any ⟨w.heap.size, 0, none⟩ _).mono ?_
          rintro e u' w'' ⟨rfl, rfl, rfl⟩
          refine ⟨_, results_n rfl rfl hbf, ?_⟩
          exact .inl ⟨j, hlt, unhide HOJ, unhide HOK, unhide HIS _ _ _ (unhide HI3), rfl⟩
        | true =>
          rw [hok] at HC
          have HOJ := hide hok
          clear hg hgc hgf hgl2 hgc0 hok
          go_wp2_with fail
          with_reducible refine (unhide HC).mono ?_
          rintro e w3 ⟨rfl, hI3, hg3⟩
          obtain ⟨a3, hR3⟩ := unhide HIR _ _ hI3
          have HE := hide (wrErr_any hR3)
          have HG3 := hide hg3
          have HI3 := hide hI3
          have hs3 := hg3.lt
          clear hg3 hI3 hR3
          go_wp2_with fail
          with_reducible refine (unhide HE).mono ?_
          rintro e w4 ⟨rfl, hw4⟩
          rw [hw4]
          clear hw4
          go_wp2
          exact ⟨⟨j + 1, _, rfl, by omega, by go_num, by go_num, hide (fun i hi => by
            rcases Nat.lt_or_ge i j with h | h
            · exact unhide HOK i h
            · obtain rfl : i = j := by omega
              exact unhide HOJ), HI3, unhide HG3, hs3⟩, by simp [intOf]; omega⟩
      · obtain rfl : j = l := by omega
        have HG3 := hide hg
        clear hg hgc
        go_wp2
        have hbf : Blk (wy.setCell ⟨w.heap.size, 0, none⟩ (.int .i64 (j : Nat))) w.heap.size 3 #[.int .i64 (j : Nat)] := by simpa using (unhide HG3).set_ 0 (.int .i64 (j : Nat))
        refine leaves_cons (f := 54) (args := #[.pointer (some ⟨w.heap.size, 0, none⟩)]) (by simp) (by simp [go_sem]) ?_
        refine (takeRec_any ⟨w.heap.size, 0, none⟩ _).mono ?_
        rintro e u' w'' ⟨rfl, rfl, rfl⟩
        refine ⟨_, results_n rfl rfl hbf, ?_⟩
        exact .inr ⟨unhide HOK, rfl, unhide HIS _ _ _ (unhide HI)⟩
end Go.Proofs.Ytgaapigagglgbaa
