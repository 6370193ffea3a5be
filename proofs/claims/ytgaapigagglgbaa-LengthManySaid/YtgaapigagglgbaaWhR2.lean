/- The reader of package whole: settle, Bits, Between. -/
import Derived.Test.YtgaapigagglgbaaWhR
import Derived.Test.YtgaapigagglgbaaWhW
namespace Go.Proofs.Ytgaapigagglgbaa
open Go.ChangeShapes Go.WideShapes Go.ChangeAt Go.RowKit

section
variable {w : World} {g : Nat} {A : Option Addr} {c : Nat} {xs : List Int} {at_ : Nat} {f : Int}
set_option maxHeartbeats 1000000 in
theorem settleOk_any (at2 : Nat) (hR : WRV w g A c xs at_ 0) :
    Calls Try.prog 47 #[.pointer (some ⟨g, 0, none⟩), .agg #[.slice A xs.length c, .int .i64 (at2 : Nat), .int .i64 0], .int .i64 0] w fun e w' => e = .returned (.bool true) ∧ WRV w' g A c xs at2 0 ∧ Fr g none w w' := by
  have b0 := hR.1.alloc (.cells #[.slice A xs.length c, .int .i64 (at2 : Nat), .int .i64 0] 80)
  have b1 := (hR.1.set_ 0 (.slice A xs.length c)).alloc (.cells #[.slice A xs.length c, .int .i64 (at2 : Nat), .int .i64 0] 80)
  have b2 := ((hR.1.set_ 0 (.slice A xs.length c)).set_ 1 (.int .i64 (at2 : Nat))).alloc (.cells #[.slice A xs.length c, .int .i64 (at2 : Nat), .int .i64 0] 80)
  have b3 := (((hR.1.set_ 0 (.slice A xs.length c)).set_ 1 (.int .i64 (at2 : Nat))).set_ 2 (.int .i64 0)).alloc (.cells #[.slice A xs.length c, .int .i64 (at2 : Nat), .int .i64 0] 80)
  have c00 : (w.alloc (.cells #[.slice A xs.length c, .int .i64 (at2 : Nat), .int .i64 0] 80)).cell? ⟨g, 0, none⟩ = some (.slice A xs.length c) := b0.cell 0
  have f00 := b0.frozen 0
  have c01 := b1.cell 1
  have f01 := b1.frozen 1
  have c02 := b2.cell 2
  have f02 := b2.frozen 2
  simp [srcCells] at c01 c02
  have hgw := hR.1.lt
  have hfr := ((((Fr.refl g none w).setCell (⟨g, 0, none⟩ : Addr) (.slice A xs.length c) (.inl rfl)).setCell (⟨g, 1, none⟩ : Addr) (.int .i64 (at2 : Nat)) (.inl rfl)).setCell (⟨g, 2, none⟩ : Addr) (.int .i64 0) (.inl rfl)).alloc (.cells #[.slice A xs.length c, .int .i64 (at2 : Nat), .int .i64 0] 80)
  have HFIN := hide (show WRV ((((w.setCell ⟨g, 0, none⟩ (.slice A xs.length c)).setCell ⟨g, 1, none⟩ (.int .i64 (at2 : Nat))).setCell ⟨g, 2, none⟩ (.int .i64 0)).alloc (.cells #[.slice A xs.length c, .int .i64 (at2 : Nat), .int .i64 0] 80)) g A c xs at2 0 from
    ⟨by simpa [srcCells] using b3, hR.2.1.fr hfr (fun b e => ⟨Nat.ne_of_lt (hR.2.2 b e), fun h => by cases h⟩), hR.2.2⟩)
  have HFR := hide hfr
  clear hR b0 b1 b2 b3 hfr
  go_enter Try.func47, Try.ntmps47
  go_wp2
  go_ret
  exact ⟨rfl, unhide HFIN, unhide HFR⟩
theorem settleNo_any (at2 : Nat) (f2 e2 : Int) (he : e2 ≠ 0) (hR : WRV w g A c xs at_ 0) :
    Calls Try.prog 47 #[.pointer (some ⟨g, 0, none⟩), .agg #[.slice A xs.length c, .int .i64 (at2 : Nat), .int .i64 f2], .int .i64 e2] w fun e w' => e = .returned (.bool false) ∧ WRV w' g A c xs at_ e2 ∧ Fr g none w w' := by
  have hk := (Keeps.refl w).alloc (.cells #[.slice A xs.length c, .int .i64 (at2 : Nat), .int .i64 f2] 80)
  have HF := hide (fail0_any e2 (hR.keeps hk))
  have HFR := hide ((Fr.refl g none w).keeps hk)
  have e1 : (e2 != 0) = true := by rw [bne_iff_ne]; exact he
  have e3 : (e2 == 0) = false := beq_eq_false_iff_ne.2 he
  clear hR he hk
  go_enter Try.func47, Try.ntmps47
  go_wp2_with fail
  with_reducible refine (unhide HF).mono ?_
  rintro e w1 ⟨rfl, hr1, hf1⟩
  have HR1 := hide hr1
  have HF1 := hide hf1
  clear hr1 hf1
  go_wp2
  go_ret
  exact ⟨rfl, unhide HR1, (unhide HFR).trans (unhide HF1) (fun x e => by cases e)⟩
theorem trial_new (hR : WRV w g A c xs at_ 0) : RV 80 (w.alloc (.cells #[.slice A xs.length c, .int .i64 (at_ : Nat), .int .i64 0] 80)) w.heap.size A c xs at_ 0 :=
  ⟨Blk.new w _ _, hR.2.1.alloc _, fun b e => by have := hR.2.2 b e; have := hR.1.lt; omega⟩
/-- What follows a trial. -/
theorem wr_after {w2 : World} (hR : WRV w g A c xs at_ 0) (hf2 : Fr w.heap.size none (w.alloc (.cells #[.slice A xs.length c, .int .i64 (at_ : Nat), .int .i64 0] 80)) w2) : WRV w2 g A c xs at_ 0 ∧ Fr g none w w2 := by
  have hk := fr_keeps ((Keeps.refl w).alloc (.cells #[.slice A xs.length c, .int .i64 (at_ : Nat), .int .i64 0] 80)) hf2 (Nat.le_refl _) (fun b e => by cases e)
  exact ⟨hR.keeps hk, (Fr.refl g none w).keeps hk⟩

set_option maxRecDepth 100000 in
set_option maxHeartbeats 2000000 in
theorem wrBits_any (k : Int) (J : Nat) (hJ : min (max k 0) 64 = (J : Int)) (hR : WRV w g A c xs at_ f) (hx : B8 xs) (hl : xs.length ≤ 10000000) (ha : at_ ≤ 8 * xs.length) :
    Calls Try.prog 21 #[.pointer (some ⟨g, 0, none⟩), .int .i64 k] w fun e w' => e = .returned (.int .u64 (rdVal xs at_ f J)) ∧ WRV w' g A c xs (rdAt (8 * xs.length) at_ f J) (rdF (8 * xs.length) at_ f J) ∧ Fr g none w w' := by
  have HRD := hide (ready_any hR)
  have HJ := hide hJ
  have hJ64 : J ≤ 64 := by omega
  by_cases hf : f = 0
  · subst hf
    rw [show ((0 : Int) == 0) = true from rfl] at HRD
    obtain ⟨hgc, hgf, hgl⟩ := hR.1.facts
    have hg0 : w.cell? ⟨g, 0, none⟩ = some (.slice A xs.length c) := hgc 0
    have hg1 : w.cell? ⟨g, 1, none⟩ = some (.int .i64 (at_ : Nat)) := hgc 1
    have hg2 : w.cell? ⟨g, 2, none⟩ = some (.int .i64 0) := hgc 2
    have HN := hide (number_any J hJ64 (trial_new hR) hx hl ha)
    have HR := hide hR
    have HNA := hide (@numA_ok (8 * xs.length) at_ J)
    by_cases hok : at_ + J ≤ 8 * xs.length
    · rw [if_pos hok, numV_ok hok, numA_ok hok] at HN
      have HV := hide (show rdVal xs at_ 0 J = rd xs at_ J from if_pos ⟨rfl, hok⟩)
      have HA := hide (show rdAt (8 * xs.length) at_ 0 J = at_ + J from if_pos ⟨rfl, hok⟩)
      have HF := hide (show rdF (8 * xs.length) at_ 0 J = 0 from by unfold rdF; rw [if_pos rfl, if_pos hok])
      clear hR hx hgc hJ hok ha
      go_enter Try.func21, Try.ntmps21
      go_wp2_with fail
      with_reducible refine (unhide HRD).mono ?_
      rintro e w1 ⟨rfl, hw1⟩
      rw [hw1]
      clear hw1
      go_wp2_with fail
      refine (wWithin_any _ _ _).mono ?_
      rintro e w1 ⟨rfl, hw1⟩
      rw [hw1, unhide HJ]
      clear hw1
      go_wp2_with fail
      refine (unhide HN).mono ?_
      rintro e w2 ⟨rfl, hr2, hf2⟩
      obtain ⟨hra, hrb⟩ := wr_after (unhide HR) hf2
      have h20 : w2.cell? ⟨w.heap.size, 0, none⟩ = some (.slice A xs.length c) := hr2.1.cell 0
      have h21 : w2.cell? ⟨w.heap.size, 1, none⟩ = some (.int .i64 (at_ + J : Nat)) := hr2.1.cell 1
      have h22 : w2.cell? ⟨w.heap.size, 2, none⟩ = some (.int .i64 0) := hr2.1.cell 2
      have HS := hide (settleOk_any (at_ + J) hra)
      have HFR := hide hrb
      clear hr2 hf2 hra hrb
      generalize at_ + J = a2 at *
      go_wp2_with fail
      refine (unhide HS).mono ?_
      rintro e w3 ⟨rfl, hr3, hf3⟩
      have HR3 := hide hr3
      have HF3 := hide hf3
      clear hr3 hf3
      go_wp2
      go_ret
      rw [unhide HV, unhide HA, unhide HF]
      exact ⟨rfl, unhide HR3, (unhide HFR).trans (unhide HF3) (fun x e => by cases e)⟩
    · rw [if_neg hok] at HN
      have HV := hide (show rdVal xs at_ 0 J = 0 from if_neg (fun h => hok h.2))
      have HA := hide (show rdAt (8 * xs.length) at_ 0 J = at_ from if_neg (fun h => hok h.2))
      have HF := hide (show rdF (8 * xs.length) at_ 0 J = 3 from by unfold rdF; rw [if_pos rfl, if_neg hok])
      clear hR hx hgc hJ hok ha
      generalize numV xs at_ J = nv at *
      generalize numA (8 * xs.length) at_ J = na at *
      go_enter Try.func21, Try.ntmps21
      go_wp2_with fail
      with_reducible refine (unhide HRD).mono ?_
      rintro e w1 ⟨rfl, hw1⟩
      rw [hw1]
      clear hw1
      go_wp2_with fail
      refine (wWithin_any _ _ _).mono ?_
      rintro e w1 ⟨rfl, hw1⟩
      rw [hw1, unhide HJ]
      clear hw1
      go_wp2_with fail
      refine (unhide HN).mono ?_
      rintro e w2 ⟨rfl, hr2, hf2⟩
      obtain ⟨hra, hrb⟩ := wr_after (unhide HR) hf2
      have h20 : w2.cell? ⟨w.heap.size, 0, none⟩ = some (.slice A xs.length c) := hr2.1.cell 0
      have h21 : w2.cell? ⟨w.heap.size, 1, none⟩ = some (.int .i64 (na : Nat)) := hr2.1.cell 1
      have h22 : w2.cell? ⟨w.heap.size, 2, none⟩ = some (.int .i64 3) := hr2.1.cell 2
      have HS := hide (settleNo_any na 3 3 (by omega) hra)
      have HFR := hide hrb
      clear hr2 hf2 hra hrb
      go_wp2_with fail
      refine (unhide HS).mono ?_
      rintro e w3 ⟨rfl, hr3, hf3⟩
      have HR3 := hide hr3
      have HF3 := hide hf3
      clear hr3 hf3
      go_wp2
      go_ret
      rw [unhide HV, unhide HA, unhide HF]
      exact ⟨rfl, unhide HR3, (unhide HFR).trans (unhide HF3) (fun x e => by cases e)⟩
  · rw [beq_eq_false_iff_ne.2 hf] at HRD
    have HV := hide (show rdVal xs at_ f J = 0 from if_neg (fun h => hf h.1))
    have HA := hide (show rdAt (8 * xs.length) at_ f J = at_ from if_neg (fun h => hf h.1))
    have HF := hide (show rdF (8 * xs.length) at_ f J = f from if_neg hf)
    have HR := hide hR
    clear hR hf
    go_enter Try.func21, Try.ntmps21
    go_wp2_with fail
    with_reducible refine (unhide HRD).mono ?_
    rintro e w1 ⟨rfl, hw1⟩
    rw [hw1]
    clear hw1
    go_wp2
    go_ret
    rw [unhide HV, unhide HA, unhide HF]
    exact ⟨rfl, unhide HR, Fr.refl _ _ _⟩

/-- What Between answers, where it stands then, and the fault. -/
def btV (xs : List Int) (at_ : Nat) (f s : Int) (W : Nat) : Int := if rdVal xs at_ f W ≤ s then rdVal xs at_ f W else 0
def btA (xs : List Int) (at_ : Nat) (f s : Int) (W : Nat) : Nat := if rdVal xs at_ f W ≤ s then rdAt (8 * xs.length) at_ f W else at_
def btF (xs : List Int) (at_ : Nat) (f s : Int) (W : Nat) : Int := if rdVal xs at_ f W ≤ s then rdF (8 * xs.length) at_ f W else 4
end
end Go.Proofs.Ytgaapigagglgbaa
