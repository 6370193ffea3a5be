/- The reference's reader of layer 17: Small. -/
import Derived.Test.YtnbcehoddjcnoaaRefRX
import Derived.Test.YtnbcehoddjcnoaaTakeR
namespace Go.Proofs.Ytnbcehoddjcnoaa
open Go.ChangeShapes Go.WideShapes Go.ChangeAt Go.RowKit

section
variable {w : World} {g : Nat} {A : Option Addr} {c : Nat} {xs : List Int} {at_ : Nat} {f : Int}
/-- A small number whose first bit is 0, or not there. -/
theorem sl_zero (h0 : rdVal xs at_ f 1 = 0) :
    slF xs at_ f = rdF (8 * xs.length) (rdAt (8 * xs.length) at_ f 1) (rdF (8 * xs.length) at_ f 1) 6 ∧
    (rdF (8 * xs.length) (rdAt (8 * xs.length) at_ f 1) (rdF (8 * xs.length) at_ f 1) 6 = 0 → slV xs at_ f = rdVal xs (rdAt (8 * xs.length) at_ f 1) (rdF (8 * xs.length) at_ f 1) 6 ∧ slA xs at_ f = rdAt (8 * xs.length) (rdAt (8 * xs.length) at_ f 1) (rdF (8 * xs.length) at_ f 1) 6) ∧
    (rdF (8 * xs.length) (rdAt (8 * xs.length) at_ f 1) (rdF (8 * xs.length) at_ f 1) 6 ≠ 0 → slV xs at_ f = 0 ∧ slA xs at_ f = at_) := by
  have key : slF xs at_ f = 0 → slV xs at_ f = (smR xs at_).1 ∧ slA xs at_ f = (smR xs at_).2.1 := by
    intro h
    unfold slF at h
    by_cases hf : f = 0
    · rw [if_pos hf] at h
      unfold slV slA
      rw [if_pos ⟨hf, h⟩, if_pos ⟨hf, h⟩]
      exact ⟨rfl, rfl⟩
    · rw [if_neg hf] at h; exact absurd h hf
  have keyn : slF xs at_ f ≠ 0 → slV xs at_ f = 0 ∧ slA xs at_ f = at_ := by
    intro h
    have : ¬ (f = 0 ∧ (smR xs at_).2.2 = 0) := fun hh => h (by unfold slF; rw [if_pos hh.1]; exact hh.2)
    unfold slV slA
    rw [if_neg this, if_neg this]
    exact ⟨rfl, rfl⟩
  by_cases hf : f = 0
  · subst hf
    have hslF : slF xs at_ 0 = (smR xs at_).2.2 := if_pos rfl
    by_cases hs : 8 * xs.length < at_ + 1
    · have e2 : rdF (8 * xs.length) at_ 0 1 = 3 := by unfold rdF; rw [if_pos rfl, if_neg (by omega)]
      have e3 : rdF (8 * xs.length) (rdAt (8 * xs.length) at_ 0 1) 3 6 = 3 := if_neg (by decide)
      have e4 : slF xs at_ 0 = 3 := by rw [hslF]; unfold smR; rw [if_pos hs]
      rw [e2, e3, e4]
      exact ⟨rfl, fun h => absurd h (by decide), fun _ => keyn (by rw [e4]; decide)⟩
    · have e1 : rdAt (8 * xs.length) at_ 0 1 = at_ + 1 := if_pos ⟨rfl, by omega⟩
      have e2 : rdF (8 * xs.length) at_ 0 1 = 0 := by unfold rdF; rw [if_pos rfl, if_pos (by omega)]
      have e3 : rd xs at_ 1 = 0 := by
        have := h0
        unfold rdVal at this
        rwa [if_pos ⟨rfl, by omega⟩] at this
      rw [e1, e2]
      by_cases h7 : at_ + 7 ≤ 8 * xs.length
      · have hsm : smR xs at_ = (rd xs (at_ + 1) 6, at_ + 7, 0) := by unfold smR; rw [if_neg hs, if_pos e3, if_pos h7]
        have e5 : rdF (8 * xs.length) (at_ + 1) 0 6 = 0 := by unfold rdF; rw [if_pos rfl, if_pos (by omega)]
        have e6 : slF xs at_ 0 = 0 := by rw [hslF, hsm]
        obtain ⟨k1, k2⟩ := key e6
        rw [hsm] at k1 k2
        rw [e5, e6]
        refine ⟨rfl, fun _ => ⟨?_, ?_⟩, fun h => absurd rfl h⟩
        · rw [k1]; unfold rdVal; rw [if_pos ⟨rfl, by omega⟩]
        · rw [k2]; unfold rdAt; rw [if_pos ⟨rfl, by omega⟩]
      · have hsm : smR xs at_ = (0, at_, 3) := by unfold smR; rw [if_neg hs, if_pos e3, if_neg h7]
        have e5 : rdF (8 * xs.length) (at_ + 1) 0 6 = 3 := by unfold rdF; rw [if_pos rfl, if_neg (by omega)]
        have e6 : slF xs at_ 0 = 3 := by rw [hslF, hsm]
        rw [e5, e6]
        exact ⟨rfl, fun h => absurd h (by decide), fun _ => keyn (by rw [e6]; decide)⟩
  · have e2 : rdF (8 * xs.length) at_ f 1 = f := if_neg hf
    have e3 : rdF (8 * xs.length) (rdAt (8 * xs.length) at_ f 1) f 6 = f := if_neg hf
    have e4 : slF xs at_ f = f := if_neg hf
    rw [e2, e3, e4]
    exact ⟨rfl, fun h => absurd h hf, fun _ => keyn (by rw [e4]; exact hf)⟩
theorem sl_one {s : Int × Nat × Int} (hs : smR xs at_ = s) : slF xs at_ 0 = s.2.2 ∧ (s.2.2 = 0 → slV xs at_ 0 = s.1 ∧ slA xs at_ 0 = s.2.1) ∧ (s.2.2 ≠ 0 → slV xs at_ 0 = 0 ∧ slA xs at_ 0 = at_) := by
  subst hs
  refine ⟨if_pos rfl, fun h => ⟨if_pos ⟨rfl, h⟩, if_pos ⟨rfl, h⟩⟩, fun h => ⟨if_neg (fun hh => h hh.2), if_neg (fun hh => h hh.2)⟩⟩

set_option maxRecDepth 100000 in
set_option maxHeartbeats 1000000 in
theorem xSmall0_any (hR : QV w g A c xs at_ f) (hx : B8 xs) (hl : xs.length ≤ 10000000) (ha : at_ ≤ 8 * xs.length) (h0 : rdVal xs at_ f 1 = 0) :
    Calls Try.prog 34 #[.pointer (some ⟨g, 0, none⟩)] w fun e w' => e = .returned (.int .i64 (slV xs at_ f)) ∧ QV w' g A c xs (slA xs at_ f) (slF xs at_ f) ∧ Fr g none w w' := by
  obtain ⟨k1, k2, k3⟩ := sl_zero h0
  obtain ⟨c0, c1, c2, cz⟩ := hR.cells
  have HB1 := hide (xBitsR_any 1 1 (by omega) hR hx hl ha)
  rw [h0] at HB1
  have ha1 := rdAt_le (f := f) (n := 1) ha
  generalize rdAt (8 * xs.length) at_ f 1 = a1 at *
  generalize rdF (8 * xs.length) at_ f 1 = f1 at *
  have HB2F := hide fun (w1 : World) (hr : QV w1 g A c xs a1 f1) => xBitsR_any 6 6 (by omega) hr hx hl ha1
  have hv2 := rdVal_range xs a1 f1 6 (by omega)
  obtain ⟨hv20, hv21⟩ := hv2
  clear hR hx h0 ha c0 c2 cz
  generalize rdVal xs a1 f1 6 = v2 at *
  generalize rdF (8 * xs.length) a1 f1 6 = f2 at *
  generalize rdAt (8 * xs.length) a1 f1 6 = a2 at *
  by_cases hf2 : f2 = 0
  · obtain ⟨k4, k5⟩ := k2 hf2
    rw [k1, k4, k5]
    subst hf2
    clear k1 k2 k3 k4 k5
    go_enter Try.func34, Try.ntmps34
    go_wp2_with fail
    refine (unhide HB1).mono ?_
    rintro e w1 ⟨rfl, hr1, hf1⟩
    have HB2 := hide (unhide HB2F _ hr1)
    have HF1 := hide hf1
    clear hr1 hf1
    go_wp2_with fail
    refine (unhide HB2).mono ?_
    rintro e w2 ⟨rfl, hr2, hf2⟩
    obtain ⟨d0, d1, d2, dz⟩ := hr2.cells
    have HR2 := hide hr2
    have HF2 := hide ((unhide HF1).trans hf2 (fun x e => by cases e))
    clear hr2 hf2
    go_wp2
    go_ret
    exact ⟨rfl, unhide HR2, unhide HF2⟩
  · obtain ⟨k4, k5⟩ := k3 hf2
    rw [k1, k4, k5]
    have e1 : (f2 != 0) = true := by rw [bne_iff_ne]; exact hf2
    clear k1 k2 k3 k4 k5 hf2
    go_enter Try.func34, Try.ntmps34
    go_wp2_with fail
    refine (unhide HB1).mono ?_
    rintro e w1 ⟨rfl, hr1, hf1⟩
    have HB2 := hide (unhide HB2F _ hr1)
    have HF1 := hide hf1
    clear hr1 hf1
    go_wp2_with fail
    refine (unhide HB2).mono ?_
    rintro e w2 ⟨rfl, hr2, hf2⟩
    obtain ⟨d0, d1, d2, dz⟩ := hr2.cells
    have HR2 := hide (hr2.moved at_)
    have HF2 := hide (((unhide HF1).trans hf2 (fun x e => by cases e)).setCell (⟨g, 1, none⟩ : Addr) (.int .i64 (at_ : Nat)) (.inl rfl))
    clear hr2 hf2
    go_wp2
    go_ret
    exact ⟨rfl, unhide HR2, unhide HF2⟩
end
end Go.Proofs.Ytnbcehoddjcnoaa
