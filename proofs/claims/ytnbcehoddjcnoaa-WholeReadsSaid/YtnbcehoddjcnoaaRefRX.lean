/- The reference's reader of layer 17: Between, End, New. -/
import Derived.Test.YtnbcehoddjcnoaaRefRW
import Derived.Test.YtnbcehoddjcnoaaWhR6
namespace Go.Proofs.Ytnbcehoddjcnoaa
open Go.ChangeShapes Go.WideShapes Go.ChangeAt Go.RowKit

section
variable {w : World} {g : Nat} {A : Option Addr} {c : Nat} {xs : List Int} {at_ : Nat} {f : Int}
set_option maxRecDepth 100000 in
set_option maxHeartbeats 1000000 in
theorem xBetweenR_any (s : Int) (hs0 : 0 ≤ s) (hs1 : s ≤ 18446744073709551615) (hR : QV w g A c xs at_ f) (hx : B8 xs) (hl : xs.length ≤ 10000000) (ha : at_ ≤ 8 * xs.length) :
    Calls Try.prog 32 #[.pointer (some ⟨g, 0, none⟩), .int .u64 s] w fun e w' => e = .returned (.int .u64 (btV xs at_ f s (Lib.bitLen s.toNat))) ∧ QV w' g A c xs (btA xs at_ f s (Lib.bitLen s.toNat)) (btF xs at_ f s (Lib.bitLen s.toNat)) ∧ Fr g none w w' := by
  obtain ⟨h0, h1, h2, hz⟩ := hR.cells
  have HW := hide (fun w => refWidth_any s w hs0 hs1)
  have hJ64 := bitLen_64 s.toNat (by omega)
  have HB := hide (xBitsR_any (Lib.bitLen s.toNat : Nat) (Lib.bitLen s.toNat) (by omega) hR hx hl ha)
  have HF0 := hide (show ¬ rdVal xs at_ f (Lib.bitLen s.toNat) ≤ s → rdF (8 * xs.length) at_ f (Lib.bitLen s.toNat) = 0 from fun h => by
    unfold rdVal at h
    by_cases hok : f = 0 ∧ at_ + Lib.bitLen s.toNat ≤ 8 * xs.length
    · unfold rdF; rw [if_pos hok.1, if_pos hok.2]
    · rw [if_neg hok] at h; exact absurd hs0 h)
  unfold btV btA btF
  clear hR hx h0 h2 ha
  generalize Lib.bitLen s.toNat = J at *
  generalize rdVal xs at_ f J = v at *
  generalize rdAt (8 * xs.length) at_ f J = a2 at *
  generalize rdF (8 * xs.length) at_ f J = f2 at *
  by_cases hvs : v ≤ s
  · rw [if_pos hvs, if_pos hvs, if_pos hvs]
    go_enter Try.func32, Try.ntmps32
    go_wp2_with fail
    refine (unhide HW _).mono ?_
    rintro e w1 ⟨rfl, hw1⟩
    rw [hw1]
    clear hw1
    go_wp2_with fail
    refine (unhide HB).mono ?_
    rintro e w2 ⟨rfl, hr2, hf2⟩
    have HR2 := hide hr2
    have HF2 := hide hf2
    clear hr2 hf2
    go_wp2
    go_ret
    exact ⟨rfl, unhide HR2, unhide HF2⟩
  · rw [if_neg hvs, if_neg hvs, if_neg hvs]
    have hf2 := unhide HF0 hvs
    subst hf2
    have hvs2 : s < v := by omega
    go_enter Try.func32, Try.ntmps32
    go_wp2_with fail
    refine (unhide HW _).mono ?_
    rintro e w1 ⟨rfl, hw1⟩
    rw [hw1]
    clear hw1
    go_wp2_with fail
    refine (unhide HB).mono ?_
    rintro e w2 ⟨rfl, hr2, hf2⟩
    have HK := hide (xBack_any at_ 4 hr2)
    rw [if_pos rfl] at HK
    have HF2 := hide hf2
    clear hr2 hf2
    go_wp2_with fail
    refine (unhide HK).mono ?_
    rintro e w3 ⟨rfl, hr3, hf3⟩
    have HR3 := hide hr3
    have HF3 := hide hf3
    clear hr3 hf3
    go_wp2
    go_ret
    exact ⟨rfl, unhide HR3, (unhide HF2).trans (unhide HF3) (fun x e => by cases e)⟩
set_option maxRecDepth 100000 in
set_option maxHeartbeats 1000000 in
theorem xEnd_any (hR : QV w g A c xs at_ f) (hx : B8 xs) (hl : xs.length ≤ 10000000) (ha : at_ ≤ 8 * xs.length) :
    Calls Try.prog 28 #[.pointer (some ⟨g, 0, none⟩)] w fun e w' => e = .returned (.int .i64 (wendV xs at_ f)) ∧ Keeps w w' := by
  obtain ⟨h0, h1, h2, hz⟩ := hR.cells
  have HE := hide (refEnd_any hR hx hl ha)
  have HH := hide hR.2.1
  have HRO := hide (show 0 < xs.length → rd xs (8 * 0) 8 = xs.getD 0 0 from fun h => rd_octet xs hx 0 h)
  clear hR hx ha
  by_cases hf : f = 0
  · subst hf
    by_cases hl1 : xs.length = 1
    · obtain ⟨b, o, rfl, hc⟩ := (unhide HH).at_ (k := 0) (by omega)
      replace hc : w.cell? ⟨b, o, none⟩ = some (.int .u8 (xs.getD 0 0)) := hc
      have hro := unhide HRO (by omega)
      rw [Nat.mul_zero] at hro
      rw [hl1] at h0
      by_cases hy : xs.getD 0 0 = 0
      · rw [hy] at hro hc
        by_cases ha0 : at_ = 0
        · have HV := hide (show wendV xs at_ 0 = 0 from by unfold wendV; rw [if_neg (fun h => h rfl), if_pos ⟨hl1, ha0, hro⟩])
          subst ha0
          clear hro hy hl1
          rw [show ((0 : Nat) : Int) = 0 from rfl] at h1
          go_enter Try.func28, Try.ntmps28
          go_wp2
          go_ret
          rw [unhide HV]
          exact ⟨rfl, Keeps.refl _⟩
        · have HV := hide (show wendV xs at_ 0 = endV xs at_ 0 from by unfold wendV; rw [if_neg (fun h => h rfl), if_neg (fun h => ha0 h.2.1)])
          have e1 : ((at_ : Int) == 0) = false := by rw [beq_eq_false_iff_ne]; omega
          clear hro hy hl1 ha0
          go_enter Try.func28, Try.ntmps28
          go_wp2_with fail
          refine (unhide HE).mono ?_
          rintro e w1 ⟨rfl, hk⟩
          have HK := hide hk
          clear hk
          go_wp2
          go_ret
          rw [unhide HV]
          exact ⟨rfl, unhide HK⟩
      · have HV := hide (show wendV xs at_ 0 = endV xs at_ 0 from by unfold wendV; rw [if_neg (fun h => h rfl), if_neg (fun h => hy (by rw [← hro]; exact h.2.2))])
        have e1 : (xs.getD 0 0 == 0) = false := beq_eq_false_iff_ne.2 hy
        clear hro hy hl1
        generalize xs.getD 0 0 = y at *
        go_enter Try.func28, Try.ntmps28
        go_wp2_with fail
        refine (unhide HE).mono ?_
        rintro e w1 ⟨rfl, hk⟩
        have HK := hide hk
        clear hk
        go_wp2
        go_ret
        rw [unhide HV]
        exact ⟨rfl, unhide HK⟩
    · have HV := hide (show wendV xs at_ 0 = endV xs at_ 0 from by unfold wendV; rw [if_neg (fun h => h rfl), if_neg (fun h => hl1 h.1)])
      have hL1 : (xs.length : Int) ≠ 1 := by omega
      clear hl1
      go_enter Try.func28, Try.ntmps28
      go_wp2_with fail
      refine (unhide HE).mono ?_
      rintro e w1 ⟨rfl, hk⟩
      have HK := hide hk
      clear hk
      go_wp2
      go_ret
      rw [unhide HV]
      exact ⟨rfl, unhide HK⟩
  · have HV := hide (show wendV xs at_ f = endV xs at_ f from by unfold wendV endV; rw [if_pos hf, if_pos hf])
    have e1 : (f == 0) = false := beq_eq_false_iff_ne.2 hf
    clear hf
    go_enter Try.func28, Try.ntmps28
    go_wp2_with fail
    refine (unhide HE).mono ?_
    rintro e w1 ⟨rfl, hk⟩
    have HK := hide hk
    clear hk
    go_wp2
    go_ret
    rw [unhide HV]
    exact ⟨rfl, unhide HK⟩
end
end Go.Proofs.Ytnbcehoddjcnoaa
