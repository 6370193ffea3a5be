/- The contracts of a taker: determinant and next. -/
import Derived.Test.YtgaapigagglgbaaLenB0
namespace Go.Proofs.Ytgaapigagglgbaa
open Go.ChangeShapes Go.WideShapes Go.ChangeAt Go.RowKit
set_option linter.unusedVariables false

/-- The taker's cells. -/
abbrev takC (gr : Nat) (most tn before : Int) : Array Value := #[.pointer (some ⟨gr, 0, none⟩), .int .i64 most, .int .i64 tn, .int .i64 before]

section
variable {w : World} {gr gt : Nat} {A : Option Addr} {c : Nat} {ys : List Int} {at_ : Nat}
set_option maxRecDepth 100000 in
set_option maxHeartbeats 2000000 in
theorem det_any (most tn before : Int) (k : Nat) (hR : WRV w gr A c ys at_ 0) (hT : Blk w gt 85 (takC gr most tn before)) (hne : gt ≠ gr) (hy : B8 ys) (hl : ys.length ≤ 10000000)
    (hk : k < 16384 ∨ (k = min (k / 16384) 4 * 16384 ∧ 16384 ≤ k)) (hb : 16384 ≤ k → ¬ (0 < before ∧ before < 65536)) (hat : at_ + detB k ≤ 8 * ys.length) (hrd : rd ys at_ (detB k) = detV k) :
    Calls Try.prog 62 #[.pointer (some ⟨gt, 0, none⟩)] w fun e w' => e = .returned (.tuple #[.int .i64 (k : Nat), .int .i64 0]) ∧ WRV w' gr A c ys (at_ + detB k) 0 ∧ Fr gr none w w' := by
  obtain ⟨htc, htf, htl⟩ := hT.facts
  have ht0 : w.cell? ⟨gt, 0, none⟩ = some (.pointer (some ⟨gr, 0, none⟩)) := htc 0
  have h8 : at_ + 8 ≤ 8 * ys.length := by unfold detB at hat; split at hat <;> (try split at hat) <;> omega
  have e1 : rdVal ys at_ 0 8 = rd ys at_ 8 := if_pos ⟨rfl, h8⟩
  have e2 : rdAt (8 * ys.length) at_ 0 8 = at_ + 8 := if_pos ⟨rfl, h8⟩
  have e3 : rdF (8 * ys.length) at_ 0 8 = 0 := by unfold rdF; rw [if_pos rfl, if_pos h8]
  have hc1 := wrBits_any 8 8 (by omega) hR hy hl (by omega)
  rw [e1, e2, e3] at hc1
  have HC1 := hide hc1
  have HT := hide hT
  clear hc1 e1 e2 e3 hT htc
  by_cases h1 : k < 128
  · have eB : detB k = 8 := if_pos h1
    have eV : detV k = k := if_pos h1
    rw [eB] at hrd hat ⊢
    rw [hrd, eV] at HC1
    clear hrd eV eB hk hb hR
    go_enter Try.func62, Try.ntmps62
    go_wp2_with fail
    with_reducible refine (unhide HC1).mono ?_
    rintro e w1 ⟨rfl, hR1, hf1⟩
    have hT1 := fr_blk hf1 (unhide HT) hne (fun e => by cases e)
    have ht1 : w1.cell? ⟨gt, 0, none⟩ = some (.pointer (some ⟨gr, 0, none⟩)) := hT1.cell 0
    have HE := hide (wrErr_any hR1)
    have HR1 := hide hR1
    have HF1 := hide hf1
    clear hR1 hf1 hT1
    go_wp2_with fail
    with_reducible refine (unhide HE).mono ?_
    rintro e w2 ⟨rfl, hw2⟩
    rw [hw2]
    clear hw2
    go_wp2
    go_ret2
    exact ⟨rfl, unhide HR1, unhide HF1⟩
  · by_cases h2 : k < 16384
    · have eB : detB k = 16 := (if_neg h1).trans (if_pos h2)
      have eV : detV k = ((32768 + k : Nat) : Int) := (if_neg h1).trans (if_pos h2)
      rw [eB] at hrd hat ⊢
      rw [eV] at hrd
      have hadd := rd_add ys at_ 8 8 (by omega)
      have hr1 := rd_range ys at_ 8
      have hr2 := rd_range ys (at_ + 8) 8
      rw [show 8 + 8 = 16 from rfl, hrd, show (2 : Int) ^ 8 = 256 from by decide] at hadd
      rw [show (2 : Int) ^ 8 = 256 from by decide] at hr1 hr2
      have hv1 : rd ys at_ 8 = ((128 + k / 256 : Nat) : Int) := by omega
      have hv2 : rd ys (at_ + 8) 8 = ((k % 256 : Nat) : Int) := by omega
      have hand := and63 (128 + k / 256) (by omega)
      rw [show (128 + k / 256) % 64 = k / 256 from by omega, show ((128 + k / 256 : Nat) : Int) = 128 + ((k / 256 : Nat) : Int) from by omega] at hand
      have hor := or_low8 (k / 256) (k % 256) (by omega) (by omega)
      rw [show k / 256 * 256 + k % 256 = k from by omega] at hor
      have hmul : ((k / 256 * 256 : Nat) : Int) = ((k / 256 : Nat) : Int) * 256 := by omega
      rw [hmul] at hor
      rw [hv1, show ((128 + k / 256 : Nat) : Int) = 128 + ((k / 256 : Nat) : Int) from by omega] at HC1
      have HC2F := hide fun (w1 : World) (h : WRV w1 gr A c ys (at_ + 8) 0) => (show Calls _ _ _ w1 _ from by
        have hc := wrBits_any 8 8 (by omega) h hy hl (by omega)
        rw [show rdVal ys (at_ + 8) 0 8 = rd ys (at_ + 8) 8 from if_pos ⟨rfl, by omega⟩, show rdAt (8 * ys.length) (at_ + 8) 0 8 = at_ + 8 + 8 from if_pos ⟨rfl, by omega⟩, show rdF (8 * ys.length) (at_ + 8) 0 8 = 0 from by unfold rdF; rw [if_pos rfl, if_pos (by omega)], hv2] at hc
        exact hc)
      have hq0 : k / 256 ≤ 63 := by omega
      have hq1 : k % 256 ≤ 255 := by omega
      clear hrd eV eB hk hb hR hadd hr1 hr2 hv1 hv2 hmul
      generalize hqa : k / 256 = qa at *
      generalize hqb : k % 256 = qb at *
      clear hqa hqb
      go_enter Try.func62, Try.ntmps62
      go_wp2_with fail
      with_reducible refine (unhide HC1).mono ?_
      rintro e w1 ⟨rfl, hR1, hf1⟩
      have hT1 := fr_blk hf1 (unhide HT) hne (fun e => by cases e)
      obtain ⟨htc1, htf1, htl1⟩ := hT1.facts
      have ht1 : w1.cell? ⟨gt, 0, none⟩ = some (.pointer (some ⟨gr, 0, none⟩)) := htc1 0
      have HE := hide (wrErr_any hR1)
      have HC2 := hide (unhide HC2F _ hR1)
      have HT1 := hide hT1
      have HF1 := hide hf1
      clear hR1 hf1 hT1 htc1
      go_wp2_with fail
      with_reducible refine (unhide HE).mono ?_
      rintro e w2 ⟨rfl, hw2⟩
      rw [hw2]
      clear hw2
      go_wp2_with fail
      with_reducible refine (unhide HC2).mono ?_
      rintro e w3 ⟨rfl, hR3, hf3⟩
      have hT3 := fr_blk hf3 (unhide HT1) hne (fun e => by cases e)
      obtain ⟨htc3, htf3, htl3⟩ := hT3.facts
      have ht3 : w3.cell? ⟨gt, 0, none⟩ = some (.pointer (some ⟨gr, 0, none⟩)) := htc3 0
      have HE3 := hide (wrErr_any hR3)
      have HR3 := hide hR3
      have HF3 := hide ((unhide HF1).trans hf3 (fun x e => by cases e))
      clear hR3 hf3 hT3 htc3
      go_wp2_with fail
      with_reducible refine (unhide HE3).mono ?_
      rintro e w4 ⟨rfl, hw4⟩
      rw [hw4]
      clear hw4
      go_wp2_with fail
      with_reducible refine (unhide HE3).mono ?_
      rintro e w4 ⟨rfl, hw4⟩
      rw [hw4]
      clear hw4
      go_wp2
      go_ret2
      exact ⟨rfl, unhide HR3, unhide HF3⟩
    · have eB : detB k = 8 := (if_neg h1).trans (if_neg h2)
      have eV : detV k = ((192 + k / 16384 : Nat) : Int) := (if_neg h1).trans (if_neg h2)
      have hkm : k = k / 16384 * 16384 ∧ 1 ≤ k / 16384 ∧ k / 16384 ≤ 4 := by omega
      have hbb := hb (by omega)
      rw [eB] at hrd hat ⊢
      rw [hrd, eV] at HC1
      obtain ⟨hk1, hk2, hk3⟩ := hkm
      have hand := and63 (192 + k / 16384) (by omega)
      rw [show (192 + k / 16384) % 64 = k / 16384 from by omega, show ((192 + k / 16384 : Nat) : Int) = 192 + ((k / 16384 : Nat) : Int) from by omega] at hand
      rw [show ((192 + k / 16384 : Nat) : Int) = 192 + ((k / 16384 : Nat) : Int) from by omega] at HC1
      have hkk : (k : Int) = ((k / 16384 : Nat) : Int) * 16384 := by omega
      have HKK := hide hkk
      clear hrd eV eB hk hb hR hk1 hkk
      generalize k / 16384 = m at *
      have ht3 : w.cell? ⟨gt, 3, none⟩ = some (.int .i64 before) := (unhide HT).cell 3
      go_enter Try.func62, Try.ntmps62
      go_wp2_with fail
      with_reducible refine (unhide HC1).mono ?_
      rintro e w1 ⟨rfl, hR1, hf1⟩
      have hT1 := fr_blk hf1 (unhide HT) hne (fun e => by cases e)
      obtain ⟨htc1, htf1, htl1⟩ := hT1.facts
      have ht1 : w1.cell? ⟨gt, 0, none⟩ = some (.pointer (some ⟨gr, 0, none⟩)) := htc1 0
      have ht13 : w1.cell? ⟨gt, 3, none⟩ = some (.int .i64 before) := htc1 3
      have HE := hide (wrErr_any hR1)
      have HR1 := hide hR1
      have HF1 := hide hf1
      clear hR1 hf1 hT1 htc1
      go_wp2_with fail
      with_reducible refine (unhide HE).mono ?_
      rintro e w2 ⟨rfl, hw2⟩
      rw [hw2]
      clear hw2
      by_cases hb0 : 0 < before
      · have hb6 : ¬ (before < 65536) := fun h => hbb ⟨hb0, h⟩
        go_wp2
        go_ret2
        exact ⟨(by rw [unhide HKK]; rfl), unhide HR1, unhide HF1⟩
      · go_wp2
        go_ret2
        exact ⟨(by rw [unhide HKK]; rfl), unhide HR1, unhide HF1⟩
/-- What next leaves behind. -/
def NextP (w : World) (gr gt : Nat) (A : Option Addr) (c : Nat) (ys : List Int) (at2 : Nat) (f : Int) (most tn before : Int) (ke : Int) (ok : Bool) (e : Ending) (w' : World) : Prop :=
  e = .returned (.tuple #[.int .i64 ke, .bool ok]) ∧ WRV w' gr A c ys at2 f ∧ Blk w' gt 85 (takC gr most tn before) ∧ Fr gr (some gt) w w'
theorem fr_row {g : Nat} {row : Option Nat} {w w' : World} (h : Fr g none w w') : Fr g row w w' := ⟨h.1, h.2.1, h.2.2.1, h.2.2.2.1, fun b hb hg hr => h.2.2.2.2 b hb hg (fun e => by cases e)⟩
theorem fr_drew {g : Nat} {row : Option Nat} {w w' : World} (h : Fr g row w w') : Fr g row w w'.drew := ⟨h.1, h.2.1, h.2.2.1, h.2.2.2.1, h.2.2.2.2⟩
set_option maxRecDepth 100000 in
set_option maxHeartbeats 2000000 in
theorem next_any_ok (most tn before mx : Int) (k : Nat) (hmx : max most 0 = mx) (hR : WRV w gr A c ys at_ 0) (hT : Blk w gt 85 (takC gr most tn before)) (hne : gr < gt) (hy : B8 ys) (hl : ys.length ≤ 10000000)
    (hk : k < 16384 ∨ (k = min (k / 16384) 4 * 16384 ∧ 16384 ≤ k)) (hb : 16384 ≤ k → ¬ (0 < before ∧ before < 65536)) (hat : at_ + detB k ≤ 8 * ys.length) (hrd : rd ys at_ (detB k) = detV k)
    (hm1 : mx ≤ 9223372036854775807) (ht0 : 0 ≤ tn) (ht1 : tn ≤ 1000000) (hok : tn + k ≤ mx) :
    Calls Try.prog 48 #[.pointer (some ⟨gt, 0, none⟩)] w (NextP w gr gt A c ys (at_ + detB k) 0 most (tn + k) k k true) := by
  have hk6 : k ≤ 65536 := by omega
  obtain ⟨htc, htf, htl⟩ := hT.facts
  have hrl := hR.1.lt
  have HEF := hide fun (w1 : World) (h : WRV w1 gr A c ys at_ 0) => wrErr_any h
  have HE := hide (wrErr_any hR)
  have hgc := fun i => hR.1.cell i
  have hg0 : w.cell? ⟨gr, 0, none⟩ = some (.slice A ys.length c) := hgc 0
  have hg1 : w.cell? ⟨gr, 1, none⟩ = some (.int .i64 (at_ : Nat)) := hgc 1
  have hg2 : w.cell? ⟨gr, 2, none⟩ = some (.int .i64 0) := hgc 2
  have hg3 : w.cell? ⟨gr, 3, none⟩ = some (.int .i64 (ys.length : Nat)) := hgc 3
  have hg4 : w.cell? ⟨gr, 4, none⟩ = some (.int .i64 0) := hgc 4
  have hkp := (Keeps.refl w).alloc (.cells #[.slice A ys.length c, .int .i64 (at_ : Nat), .int .i64 0, .int .i64 (ys.length : Nat), .int .i64 0] 78)
  have HD := hide (det_any most tn before k (hR.keeps hkp) (hT.keeps hkp) (by omega) hy hl hk hb hat hrd)
  have HT := hide (hT.keeps hkp)
  have HR := hide hR
  have HK := hide hkp
  clear hR hgc hkp hk hb hat hrd hy hl
  go_enter Try.func48, Try.ntmps48
  go_wp2_with fail
  with_reducible refine (unhide HE).mono ?_
  rintro e w1 ⟨rfl, hw1⟩
  rw [hw1]
  clear hw1
  go_wp2_with fail
  with_reducible refine (unhide HD).mono ?_
  rintro e w2 ⟨rfl, hR2, hf2⟩
  have hT2 := fr_blk hf2 (unhide HT) (by omega) (fun e => by cases e)
  obtain ⟨htc2, htf2, htl2⟩ := hT2.facts
  have h0 : w2.cell? ⟨gt, 0, none⟩ = some (.pointer (some ⟨gr, 0, none⟩)) := htc2 0
  have h1 : w2.cell? ⟨gt, 1, none⟩ = some (.int .i64 most) := htc2 1
  have h2 : w2.cell? ⟨gt, 2, none⟩ = some (.int .i64 tn) := htc2 2
  have h3 : w2.cell? ⟨gt, 3, none⟩ = some (.int .i64 before) := htc2 3
  have HT2 := hide hT2
  have HR2 := hide hR2
  have HF2 := hide ((fr_row ((Fr.refl gr none w).keeps (unhide HK)) : Fr gr (some gt) w _).trans (fr_row hf2) (fun x e => .inl e))
  clear hT2 hR2 hf2
  have hsub : tn + (k : Int) ≤ 1100000 := by omega
  go_wp2
  go_region
  go_wp2
  have hT3 := ((unhide HT2).set_ 2 (.int .i64 (tn + k))).set_ 3 (.int .i64 (k : Nat))
  have hfr3 : Fr gr (some gt) w2 ((w2.setCell ⟨gt, 2, none⟩ (.int .i64 (tn + k))).setCell ⟨gt, 3, none⟩ (.int .i64 (k : Nat))) := ((Fr.refl gr (some gt) w2).setCell (⟨gt, 2, none⟩ : Addr) _ (.inr (.inl rfl))).setCell (⟨gt, 3, none⟩ : Addr) _ (.inr (.inl rfl))
  have hfg3 : Fr gt none w2 ((w2.setCell ⟨gt, 2, none⟩ (.int .i64 (tn + k))).setCell ⟨gt, 3, none⟩ (.int .i64 (k : Nat))) := ((Fr.refl gt none w2).setCell (⟨gt, 2, none⟩ : Addr) _ (.inl rfl)).setCell (⟨gt, 3, none⟩ : Addr) _ (.inl rfl)
  have hR3 := (unhide HR2).fr hfg3 (by omega) (fun e => by cases e) (fun b e => ⟨by have := (unhide HR2).2.2 b e; omega, fun e2 => by cases e2⟩)
  go_ret2
  have hT4 : Blk ((w2.setCell ⟨gt, 2, none⟩ (.int .i64 (tn + k))).setCell ⟨gt, 3, none⟩ (.int .i64 (k : Nat))) gt 85 (takC gr most (tn + k) k) := by simpa [takC] using hT3
  exact ⟨rfl, hR3, hT4.drew, fr_drew ((unhide HF2).trans hfr3 (fun x e => .inl e))⟩
set_option maxRecDepth 100000 in
set_option maxHeartbeats 2000000 in
theorem next_any_no (most tn before mx : Int) (k : Nat) (hmx : max most 0 = mx) (hR : WRV w gr A c ys at_ 0) (hT : Blk w gt 85 (takC gr most tn before)) (hne : gr < gt) (hy : B8 ys) (hl : ys.length ≤ 10000000)
    (hk : k < 16384 ∨ (k = min (k / 16384) 4 * 16384 ∧ 16384 ≤ k)) (hb : 16384 ≤ k → ¬ (0 < before ∧ before < 65536)) (hat : at_ + detB k ≤ 8 * ys.length) (hrd : rd ys at_ (detB k) = detV k)
    (hm1 : mx ≤ 9223372036854775807) (ht0 : 0 ≤ tn) (ht1 : tn ≤ 1000000) (hok : mx < tn + k) :
    Calls Try.prog 48 #[.pointer (some ⟨gt, 0, none⟩)] w (NextP w gr gt A c ys (at_ + detB k) 5 most tn before 0 false) := by
  have hk6 : k ≤ 65536 := by omega
  obtain ⟨htc, htf, htl⟩ := hT.facts
  have hrl := hR.1.lt
  have HEF := hide fun (w1 : World) (h : WRV w1 gr A c ys at_ 0) => wrErr_any h
  have HE := hide (wrErr_any hR)
  have hgc := fun i => hR.1.cell i
  have hg0 : w.cell? ⟨gr, 0, none⟩ = some (.slice A ys.length c) := hgc 0
  have hg1 : w.cell? ⟨gr, 1, none⟩ = some (.int .i64 (at_ : Nat)) := hgc 1
  have hg2 : w.cell? ⟨gr, 2, none⟩ = some (.int .i64 0) := hgc 2
  have hg3 : w.cell? ⟨gr, 3, none⟩ = some (.int .i64 (ys.length : Nat)) := hgc 3
  have hg4 : w.cell? ⟨gr, 4, none⟩ = some (.int .i64 0) := hgc 4
  have hkp := (Keeps.refl w).alloc (.cells #[.slice A ys.length c, .int .i64 (at_ : Nat), .int .i64 0, .int .i64 (ys.length : Nat), .int .i64 0] 78)
  have HD := hide (det_any most tn before k (hR.keeps hkp) (hT.keeps hkp) (by omega) hy hl hk hb hat hrd)
  have HT := hide (hT.keeps hkp)
  have HR := hide hR
  have HK := hide hkp
  clear hR hgc hkp hk hb hat hrd hy hl
  go_enter Try.func48, Try.ntmps48
  go_wp2_with fail
  with_reducible refine (unhide HE).mono ?_
  rintro e w1 ⟨rfl, hw1⟩
  rw [hw1]
  clear hw1
  go_wp2_with fail
  with_reducible refine (unhide HD).mono ?_
  rintro e w2 ⟨rfl, hR2, hf2⟩
  have hT2 := fr_blk hf2 (unhide HT) (by omega) (fun e => by cases e)
  obtain ⟨htc2, htf2, htl2⟩ := hT2.facts
  have h0 : w2.cell? ⟨gt, 0, none⟩ = some (.pointer (some ⟨gr, 0, none⟩)) := htc2 0
  have h1 : w2.cell? ⟨gt, 1, none⟩ = some (.int .i64 most) := htc2 1
  have h2 : w2.cell? ⟨gt, 2, none⟩ = some (.int .i64 tn) := htc2 2
  have h3 : w2.cell? ⟨gt, 3, none⟩ = some (.int .i64 before) := htc2 3
  have HT2 := hide hT2
  have HR2 := hide hR2
  have HF2 := hide ((fr_row ((Fr.refl gr none w).keeps (unhide HK)) : Fr gr (some gt) w _).trans (fr_row hf2) (fun x e => .inl e))
  clear hT2 hR2 hf2
  have HFL := hide (fail0_any 5 ((unhide HR2).keeps (Keeps.refl _).drew))
  go_wp2
  go_region
  go_wp2_with fail
  with_reducible refine (unhide HFL).mono ?_
  rintro e w3 ⟨rfl, hR3, hf3⟩
  have hT3 := fr_blk hf3 (unhide HT2).drew (by omega) (fun e => by cases e)
  have hfr3 := (fr_drew (unhide HF2)).trans (fr_row hf3 : Fr gr (some gt) _ _) (fun x e => .inl e)
  have HT3 := hide hT3
  have HR3 := hide hR3
  have HFR3 := hide hfr3
  clear hT3 hR3 hfr3 hf3
  go_wp2
  go_ret2
  exact ⟨rfl, unhide HR3, unhide HT3, unhide HFR3⟩
end
end Go.Proofs.Ytgaapigagglgbaa
