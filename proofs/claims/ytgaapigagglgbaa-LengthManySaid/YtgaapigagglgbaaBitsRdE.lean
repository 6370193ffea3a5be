/- The contract of a reader's End. -/
import Derived.Test.YtgaapigagglgbaaBitsRdB
namespace Go.Proofs.Ytgaapigagglgbaa
open Go.ChangeShapes Go.WideShapes Go.ChangeAt Go.RowKit
variable {t : TypeId}

/-- What End tells. -/
def endV (xs : List Int) (at_ : Nat) (f : Int) : Int := if f ≠ 0 then f else if 8 ≤ 8 * xs.length - at_ then 4 else if rd xs at_ (8 * xs.length - at_) ≠ 0 then 4 else 0
section
variable {w : World} {g : Nat} {A : Option Addr} {c : Nat} {xs : List Int} {at_ : Nat} {f : Int}
set_option maxRecDepth 100000 in
set_option maxHeartbeats 1000000 in
theorem rdEnd_any (hR : RV t w g A c xs at_ f) (hx : B8 xs) (hl : xs.length ≤ 10000000) (ha : at_ ≤ 8 * xs.length) (hA : ∀ b, rowOf A = some b → b < w.heap.size) :
    Calls Try.prog 52 #[.pointer (some ⟨g, 0, none⟩)] w fun e w' => e = .returned (.int .i64 (endV xs at_ f)) ∧ Keeps w w' := by
  have HE := hide (rdErr_any hR)
  by_cases hf : f = 0
  · subst hf
    have hg0 : w.cell? ⟨g, 0, none⟩ = some (.slice A xs.length c) := hR.1.cell 0
    have hg1 : w.cell? ⟨g, 1, none⟩ = some (.int .i64 (at_ : Nat)) := hR.1.cell 1
    have hnb : Blk (w.alloc (.cells (srcCells A xs.length c at_ []) 72)) w.heap.size 72 (srcCells A xs.length c at_ []) := Blk.new _ _ _
    have HL := hide (left_any w.heap.size _ A xs.length c at_ [] _ hnb hl ha)
    have HHO := hide (hR.2.1.alloc (.cells (srcCells A xs.length c at_ []) 72))
    have HNB := hide hnb
    have HX := hide hx
    obtain ⟨T, hT⟩ : ∃ T : Nat, T = 8 * xs.length - at_ := ⟨_, rfl⟩
    have HV := hide (show endV xs at_ 0 = if 8 ≤ T then 4 else if rd xs at_ T ≠ 0 then 4 else 0 from by unfold endV; rw [if_neg (fun h => h rfl), hT])
    rw [← hT] at HL
    have hTl : T ≤ 80000000 := by omega
    have hat : at_ + T = 8 * xs.length := by omega
    have HAT := hide hat
    have HK := hide ((Keeps.refl w).alloc (.cells (srcCells A xs.length c at_ []) 72))
    have HA := hide hA
    clear hR hx hT ha hat hnb
    by_cases h8 : 8 ≤ T
    · rw [if_pos h8] at HV
      go_enter Try.func52, Try.ntmps52
      go_wp2_with fail
      with_reducible refine (unhide HE).mono ?_
      rintro e w1 ⟨rfl, hw1⟩
      rw [hw1]
      clear hw1
      go_wp2_with fail
      refine (unhide HL).mono ?_
      rintro e w1 ⟨rfl, hw1⟩
      have HW := hide hw1
      clear hw1
      go_wp2
      go_ret
      rw [unhide HV, unhide HW]
      exact ⟨rfl, (unhide HK).drew⟩
    · have hsrc : T < 8 := by omega
      rw [if_neg h8] at HV
      have HN := hide (next_any w.heap.size _ A xs c at_ T [] _ (unhide HNB).drew (unhide HHO).drew (unhide HX) (fun b e => by have := unhide HA b e; omega) hl (by omega) (by have := unhide HAT; omega))
      by_cases hz : rd xs at_ T = 0
      · rw [if_neg (fun h => h hz)] at HV
        rw [hz] at HN
        clear hz
        go_enter Try.func52, Try.ntmps52
        go_wp2_with fail
        with_reducible refine (unhide HE).mono ?_
        rintro e w1 ⟨rfl, hw1⟩
        rw [hw1]
        clear hw1
        go_wp2_with fail
        refine (unhide HL).mono ?_
        rintro e w1 ⟨rfl, rfl⟩
        go_wp2_with fail
        refine (unhide HN).mono ?_
        rintro e w2 ⟨rfl, _, hf2⟩
        have HF2 := hide hf2
        clear hf2
        go_wp2
        go_ret
        rw [unhide HV]
        exact ⟨rfl, fr_keeps (unhide HK).drew (unhide HF2) (Nat.le_refl _) (fun b e => by cases e)⟩
      · rw [if_pos hz] at HV
        have e1 : (rd xs at_ T != 0) = true := by rw [bne_iff_ne]; exact hz
        have e2 : (rd xs at_ T == 0) = false := beq_eq_false_iff_ne.2 hz
        clear hz
        generalize rd xs at_ T = v at *
        go_enter Try.func52, Try.ntmps52
        go_wp2_with fail
        with_reducible refine (unhide HE).mono ?_
        rintro e w1 ⟨rfl, hw1⟩
        rw [hw1]
        clear hw1
        go_wp2_with fail
        refine (unhide HL).mono ?_
        rintro e w1 ⟨rfl, rfl⟩
        go_wp2_with fail
        refine (unhide HN).mono ?_
        rintro e w2 ⟨rfl, _, hf2⟩
        have HF2 := hide hf2
        clear hf2
        go_wp2
        go_ret
        rw [unhide HV]
        exact ⟨rfl, fr_keeps (unhide HK).drew (unhide HF2) (Nat.le_refl _) (fun b e => by cases e)⟩
  · have e1 : (f != 0) = true := by rw [bne_iff_ne]; exact hf
    have e2 : (f == 0) = false := beq_eq_false_iff_ne.2 hf
    have HV := hide (show endV xs at_ f = f from if_pos hf)
    clear hR hx ha hf
    go_enter Try.func52, Try.ntmps52
    go_wp2_with fail
    with_reducible refine (unhide HE).mono ?_
    rintro e w1 ⟨rfl, hw1⟩
    rw [hw1]
    clear hw1
    go_wp2
    go_ret
    rw [unhide HV]
    exact ⟨rfl, Keeps.refl _⟩
end
end Go.Proofs.Ytgaapigagglgbaa
