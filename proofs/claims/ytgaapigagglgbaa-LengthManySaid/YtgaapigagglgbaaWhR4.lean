/- The reader of package whole: New and End. -/
import Derived.Test.YtgaapigagglgbaaWhR3
namespace Go.Proofs.Ytgaapigagglgbaa
open Go.ChangeShapes Go.WideShapes Go.ChangeAt Go.RowKit

set_option maxRecDepth 100000 in
set_option maxHeartbeats 1000000 in
theorem wrNew_any (A : Option Addr) (xs : List Int) (c : Nat) (w : World) (hh : Holds w A xs) (hl : xs.length ≤ 10000000) :
    Calls Try.prog 20 #[.slice A xs.length c] w fun e w' => ∃ g A' c', e = .returned (.pointer (some ⟨g, 0, none⟩)) ∧ WRV w' g A' c' xs 0 0 ∧ w.heap.size ≤ g ∧ (∀ b, rowOf A' = some b → w.heap.size ≤ b) ∧ Keeps w w' ∧ xs.length ≤ c' := by
  have HC := hide (new_any A xs c w hh hl)
  clear hh
  go_enter Try.func20, Try.ntmps20
  go_wp2_with fail
  with_reducible refine (unhide HC).mono ?_
  rintro e w1 ⟨g, B, d, rfl, hR, hg, hrow, hk, hd⟩
  have h0 : w1.cell? ⟨g, 0, none⟩ = some (.slice B xs.length d) := hR.1.cell 0
  have h1 : w1.cell? ⟨g, 1, none⟩ = some (.int .i64 (0 : Nat)) := hR.1.cell 1
  have h2 : w1.cell? ⟨g, 2, none⟩ = some (.int .i64 0) := hR.1.cell 2
  have HR := hide hR
  have HG := hide hR.1.lt
  have HROW := hide hrow
  have HK := hide hk
  have HD := hide hd
  clear hR hrow hk hd
  go_wp2
  go_ret
  exact ⟨w1.heap.size, B, d, rfl, ⟨Blk.new w1 _ _, (unhide HR).2.1.alloc _, fun b e => by have := (unhide HROW b e).2; have := unhide HG; omega⟩, (unhide HK).size, fun b e => (unhide HROW b e).1, (unhide HK).alloc _, unhide HD⟩

/-- What End tells. -/
def wendV (xs : List Int) (at_ : Nat) (f : Int) : Int := if f ≠ 0 then f else if xs.length = 1 ∧ at_ = 0 ∧ rd xs 0 8 = 0 then 0 else endV xs at_ 0
section
variable {w : World} {g : Nat} {A : Option Addr} {c : Nat} {xs : List Int} {at_ : Nat} {f : Int}
set_option maxRecDepth 100000 in
set_option maxHeartbeats 1000000 in
theorem wrEnd_any (hR : WRV w g A c xs at_ f) (hx : B8 xs) (hl : xs.length ≤ 10000000) (ha : at_ ≤ 8 * xs.length) :
    Calls Try.prog 23 #[.pointer (some ⟨g, 0, none⟩)] w fun e w' => e = .returned (.int .i64 (wendV xs at_ f)) ∧ Keeps w w' := by
  have HRD := hide (ready_any hR)
  have HER := hide (wrErr_any hR)
  by_cases hf : f = 0
  · subst hf
    rw [show ((0 : Int) == 0) = true from rfl] at HRD
    obtain ⟨hgc, hgf, hgl⟩ := hR.1.facts
    have hg0 : w.cell? ⟨g, 0, none⟩ = some (.slice A xs.length c) := hgc 0
    have hg1 : w.cell? ⟨g, 1, none⟩ = some (.int .i64 (at_ : Nat)) := hgc 1
    have hg2 : w.cell? ⟨g, 2, none⟩ = some (.int .i64 0) := hgc 2
    have hb3 : (w.alloc (.cells #[.slice A xs.length c, .int .i64 (at_ : Nat), .int .i64 0] 74)).cell? ⟨g, 3, none⟩ = some (.int .i64 (xs.length : Nat)) := (hR.1.alloc _).cell 3
    have hT : RV 74 (w.alloc (.cells #[.slice A xs.length c, .int .i64 (at_ : Nat), .int .i64 0] 74)) w.heap.size A c xs at_ 0 := ⟨Blk.new w _ _, hR.2.1.alloc _, fun b e => by have := hR.2.2 b e; omega⟩
    have hk := (Keeps.refl w).alloc (.cells #[.slice A xs.length c, .int .i64 (at_ : Nat), .int .i64 0] 74)
    have hrl : ∀ b, rowOf A = some b → b < w.heap.size := fun b e => by have := hR.2.2 b e; omega
    have HEND := hide fun (w2 : World) (a2 : Nat) (h : RV 74 w2 w.heap.size A c xs a2 0) (ha2 : a2 ≤ 8 * xs.length) (hs : w.heap.size ≤ w2.heap.size) => rdEnd_any h hx hl ha2 (fun b e => by have := hrl b e; omega)
    have HLF := hide (rdLeft_any hT hl ha)
    have HBT := hide (rdBits_any 8 8 (by omega) hT.drew hx hl ha)
    have HT := hide hT
    have HK := hide hk
    have HA := hide ha
    by_cases h1 : xs.length = 1
    · by_cases h2 : at_ = 0
      · subst h2
        have e1 : rdVal xs 0 0 8 = rd xs 0 8 := if_pos ⟨rfl, by omega⟩
        have e2 : rdAt (8 * xs.length) 0 0 8 = 8 := if_pos ⟨rfl, by omega⟩
        have e3 : rdF (8 * xs.length) 0 0 8 = 0 := by unfold rdF; rw [if_pos rfl, if_pos (by omega)]
        rw [e1, e2, e3] at HBT
        have HX1 := hide h1
        by_cases hz : rd xs 0 8 = 0
        · have HV := hide (show wendV xs 0 0 = endV xs 8 0 from by
            unfold wendV endV
            rw [if_neg (fun h => h rfl), if_pos ⟨h1, rfl, hz⟩, if_neg (fun h => h rfl), if_neg (by omega), show 8 * xs.length - 8 = 0 from by omega, rd_zero, if_neg (fun h => h rfl)])
          rw [hz] at HBT
          rw [show 8 * xs.length - 0 = 8 from by omega] at HLF
          have HE8 := hide fun w2 h => unhide HEND w2 8 h (by omega)
          clear hR hx hgc ha hT hk hrl h1 hz e1 e2 e3 HEND
          rw [unhide HX1] at hb3 hg0 HT HBT HLF HK
          rw [show ((0 : Nat) : Int) = 0 from rfl] at hb3 hg1 HBT HLF HK
          go_enter Try.func23, Try.ntmps23
          go_wp2_with fail
          with_reducible refine (unhide HRD).mono ?_
          rintro e w1 ⟨rfl, hw1⟩
          rw [hw1]
          clear hw1
          go_wp2_with fail
          refine (unhide HLF).mono ?_
          rintro e w1 ⟨rfl, hw1⟩
          rw [hw1]
          clear hw1
          go_wp2_with fail
          refine (unhide HBT).mono ?_
          rintro e w2 ⟨rfl, hr2, hf2⟩
          have hk2 := fr_keeps (unhide HK).drew hf2 (Nat.le_refl _) (fun b e => by cases e)
          have HK2 := hide hk2
          have HE := hide (unhide HE8 w2 hr2 hk2.size)
          clear hr2 hf2 hk2
          go_wp2_with fail
          refine (unhide HE).mono ?_
          rintro e w3 ⟨rfl, hk3⟩
          have HK3 := hide hk3
          clear hk3
          go_wp2
          go_ret
          rw [unhide HV]
          exact ⟨rfl, (unhide HK2).trans (unhide HK3)⟩
        · have HV := hide (show wendV xs 0 0 = 4 from by
            unfold wendV endV
            rw [if_neg (fun h => h rfl), if_neg (fun h => hz h.2.2), if_neg (fun h => h rfl), if_pos (by omega)])
          have ez : (rd xs 0 8 != 0) = true := by rw [bne_iff_ne]; exact hz
          have ez2 : (rd xs 0 8 == 0) = false := beq_eq_false_iff_ne.2 hz
          rw [show 8 * xs.length - 0 = 8 from by omega] at HLF
          clear hR hx hgc ha hT hk hrl h1 hz e1 e2 e3 HEND
          rw [unhide HX1] at hb3 hg0 HT HBT HLF HK
          rw [show ((0 : Nat) : Int) = 0 from rfl] at hb3 hg1 HBT HLF HK
          generalize rd xs 0 8 = v at *
          go_enter Try.func23, Try.ntmps23
          go_wp2_with fail
          with_reducible refine (unhide HRD).mono ?_
          rintro e w1 ⟨rfl, hw1⟩
          rw [hw1]
          clear hw1
          go_wp2_with fail
          refine (unhide HLF).mono ?_
          rintro e w1 ⟨rfl, hw1⟩
          rw [hw1]
          clear hw1
          go_wp2_with fail
          refine (unhide HBT).mono ?_
          rintro e w2 ⟨rfl, hr2, hf2⟩
          have hk2 := fr_keeps (unhide HK).drew hf2 (Nat.le_refl _) (fun b e => by cases e)
          have HK2 := hide hk2
          clear hr2 hf2 hk2
          go_wp2
          go_ret
          rw [unhide HV]
          exact ⟨rfl, unhide HK2⟩
      · have HV := hide (show wendV xs at_ 0 = endV xs at_ 0 from by
          unfold wendV
          rw [if_neg (fun h => h rfl), if_neg (fun h => h2 h.2.1)])
        have HX1 := hide h1
        have hT8 : ((8 * xs.length - at_ : Nat) : Int) ≠ 8 := by omega
        have HE := hide (unhide HEND _ at_ (unhide HT).drew (unhide HA) (unhide HK).drew.size)
        clear hR hx hgc ha hT hk hrl h2 HEND
        generalize 8 * xs.length - at_ = T at *
        rw [h1] at hb3 hg0 HLF HK HE
        clear h1
        go_enter Try.func23, Try.ntmps23
        go_wp2_with fail
        with_reducible refine (unhide HRD).mono ?_
        rintro e w1 ⟨rfl, hw1⟩
        rw [hw1]
        clear hw1
        go_wp2_with fail
        refine (unhide HLF).mono ?_
        rintro e w1 ⟨rfl, hw1⟩
        rw [hw1]
        clear hw1
        go_wp2_with fail
        refine (unhide HE).mono ?_
        rintro e w3 ⟨rfl, hk3⟩
        have HK3 := hide hk3
        clear hk3
        go_wp2
        go_ret
        rw [unhide HV]
        exact ⟨rfl, (unhide HK).drew.trans (unhide HK3)⟩
    · have HV := hide (show wendV xs at_ 0 = endV xs at_ 0 from by
        unfold wendV
        rw [if_neg (fun h => h rfl), if_neg (fun h => h1 h.1)])
      have hL1 : (xs.length : Int) ≠ 1 := by omega
      have HE := hide (unhide HEND _ at_ (unhide HT) (unhide HA) (unhide HK).size)
      clear hR hx hgc ha hT hk hrl h1 HEND
      go_enter Try.func23, Try.ntmps23
      go_wp2_with fail
      with_reducible refine (unhide HRD).mono ?_
      rintro e w1 ⟨rfl, hw1⟩
      rw [hw1]
      clear hw1
      go_wp2_with fail
      refine (unhide HE).mono ?_
      rintro e w3 ⟨rfl, hk3⟩
      have HK3 := hide hk3
      clear hk3
      go_wp2
      go_ret
      rw [unhide HV]
      exact ⟨rfl, (unhide HK).trans (unhide HK3)⟩
  · rw [beq_eq_false_iff_ne.2 hf] at HRD
    have HV := hide (show wendV xs at_ f = f from if_pos hf)
    clear hR hx ha hf
    go_enter Try.func23, Try.ntmps23
    go_wp2_with fail
    with_reducible refine (unhide HRD).mono ?_
    rintro e w1 ⟨rfl, hw1⟩
    rw [hw1]
    clear hw1
    go_wp2_with fail
    with_reducible refine (unhide HER).mono ?_
    rintro e w1 ⟨rfl, hw1⟩
    rw [hw1]
    clear hw1
    go_wp2
    go_ret
    rw [unhide HV]
    exact ⟨rfl, Keeps.refl _⟩
end
end Go.Proofs.Ytgaapigagglgbaa
