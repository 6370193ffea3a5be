/- The reader of package whole: Small. -/
import Derived.Test.YtnbcehoddjcnoaaWhR4
import Derived.Test.YtnbcehoddjcnoaaWhR5
namespace Go.Proofs.Ytnbcehoddjcnoaa
open Go.ChangeShapes Go.WideShapes Go.ChangeAt Go.RowKit

/-- What Small answers, where it stands then, and the fault. -/
def slV (xs : List Int) (at_ : Nat) (f : Int) : Int := if f = 0 ∧ (smR xs at_).2.2 = 0 then (smR xs at_).1 else 0
def slA (xs : List Int) (at_ : Nat) (f : Int) : Nat := if f = 0 ∧ (smR xs at_).2.2 = 0 then (smR xs at_).2.1 else at_
def slF (xs : List Int) (at_ : Nat) (f : Int) : Int := if f = 0 then (smR xs at_).2.2 else f
section
variable {w : World} {g : Nat} {A : Option Addr} {c : Nat} {xs : List Int} {at_ : Nat} {f : Int}
theorem small_any {h : Nat} (hR : RV 82 w h A c xs at_ 0) (hx : B8 xs) (hl : xs.length ≤ 10000000) (hc : xs.length ≤ c) (ha : at_ ≤ 8 * xs.length) :
    Calls Try.prog 68 #[.pointer (some ⟨h, 0, none⟩)] w (SmP w h A c xs at_) := by
  by_cases h0 : rdVal xs at_ 0 1 = 0
  · exact small0_any hR hx hl ha h0
  · by_cases h1 : at_ + 1 ≤ 8 * xs.length
    · refine small1_any hR hx hl hc h1 ?_
      have hr := rd_range xs at_ 1
      rw [Int.pow_one] at hr
      unfold rdVal at h0
      rw [if_pos ⟨rfl, h1⟩] at h0
      omega
    · exact absurd (if_neg (fun h => h1 h.2)) h0
set_option maxRecDepth 100000 in
set_option maxHeartbeats 1000000 in
theorem wrSmall_any (hR : WRV w g A c xs at_ f) (hx : B8 xs) (hl : xs.length ≤ 10000000) (hc : xs.length ≤ c) (ha : at_ ≤ 8 * xs.length) :
    Calls Try.prog 33 #[.pointer (some ⟨g, 0, none⟩)] w fun e w' => e = .returned (.int .i64 (slV xs at_ f)) ∧ WRV w' g A c xs (slA xs at_ f) (slF xs at_ f) ∧ Fr g none w w' := by
  have HRD := hide (ready_any hR)
  unfold slV slA slF
  by_cases hf : f = 0
  · subst hf
    rw [show ((0 : Int) == 0) = true from rfl] at HRD
    obtain ⟨hgc, hgf, hgl⟩ := hR.1.facts
    have hg0 : w.cell? ⟨g, 0, none⟩ = some (.slice A xs.length c) := hgc 0
    have hg1 : w.cell? ⟨g, 1, none⟩ = some (.int .i64 (at_ : Nat)) := hgc 1
    have hg2 : w.cell? ⟨g, 2, none⟩ = some (.int .i64 0) := hgc 2
    have HN := hide (small_any (trial_new hR) hx hl hc ha)
    have HR := hide hR
    rw [if_pos rfl]
    by_cases hs : (smR xs at_).2.2 = 0
    · rw [if_pos ⟨rfl, hs⟩, if_pos ⟨rfl, hs⟩, hs]
      have HSS := hide hs
      clear hR hx hgc ha hs
      generalize hV : (smR xs at_).1 = v0 at *
      generalize hA : (smR xs at_).2.1 = a0 at *
      have HV := hide hV
      have HA := hide hA
      clear hV hA
      go_enter Try.func33, Try.ntmps33
      go_wp2_with fail
      with_reducible refine (unhide HRD).mono ?_
      rintro e w1 ⟨rfl, hw1⟩
      rw [hw1]
      clear hw1
      go_wp2_with fail
      refine (unhide HN).mono ?_
      rintro e w2 ⟨v, a2, f2, rfl, hr2, hf2, h0⟩
      rw [unhide HSS]
      obtain ⟨q1, q2, rfl⟩ := h0 (unhide HSS)
      rw [unhide HV] at q1
      rw [unhide HA] at q2
      subst q1
      subst q2
      obtain ⟨hra, hrb⟩ := wr_after (unhide HR) hf2
      have h20 : w2.cell? ⟨w.heap.size, 0, none⟩ = some (.slice A xs.length c) := hr2.1.cell 0
      have h21 : w2.cell? ⟨w.heap.size, 1, none⟩ = some (.int .i64 (a2 : Nat)) := hr2.1.cell 1
      have h22 : w2.cell? ⟨w.heap.size, 2, none⟩ = some (.int .i64 0) := hr2.1.cell 2
      have HS := hide (settleOk_any a2 hra)
      have HFR := hide hrb
      clear hr2 hf2 hra hrb h0
      go_wp2_with fail
      refine (unhide HS).mono ?_
      rintro e w3 ⟨rfl, hr3, hf3⟩
      have HR3 := hide hr3
      have HF3 := hide hf3
      clear hr3 hf3
      go_wp2
      go_ret
      exact ⟨rfl, unhide HR3, (unhide HFR).trans (unhide HF3) (fun x e => by cases e)⟩
    · rw [if_neg (fun h => hs h.2), if_neg (fun h => hs h.2)]
      have HSS := hide hs
      generalize hE : (smR xs at_).2.2 = er at *
      have HE := hide hE
      have e1 : (er != 0) = true := by rw [bne_iff_ne]; exact hs
      clear hR hx hgc ha hs hE
      go_enter Try.func33, Try.ntmps33
      go_wp2_with fail
      with_reducible refine (unhide HRD).mono ?_
      rintro e w1 ⟨rfl, hw1⟩
      rw [hw1]
      clear hw1
      go_wp2_with fail
      refine (unhide HN).mono ?_
      rintro e w2 ⟨v, a2, f2, rfl, hr2, hf2, h0⟩
      rw [unhide HE]
      obtain ⟨hra, hrb⟩ := wr_after (unhide HR) hf2
      have h20 : w2.cell? ⟨w.heap.size, 0, none⟩ = some (.slice A xs.length c) := hr2.1.cell 0
      have h21 : w2.cell? ⟨w.heap.size, 1, none⟩ = some (.int .i64 (a2 : Nat)) := hr2.1.cell 1
      have h22 : w2.cell? ⟨w.heap.size, 2, none⟩ = some (.int .i64 f2) := hr2.1.cell 2
      have HS := hide (settleNo_any a2 f2 er (unhide HSS) hra)
      have HFR := hide hrb
      clear hr2 hf2 hra hrb h0
      go_wp2_with fail
      refine (unhide HS).mono ?_
      rintro e w3 ⟨rfl, hr3, hf3⟩
      have HR3 := hide hr3
      have HF3 := hide hf3
      clear hr3 hf3
      go_wp2
      go_ret
      exact ⟨rfl, unhide HR3, (unhide HFR).trans (unhide HF3) (fun x e => by cases e)⟩
  · rw [beq_eq_false_iff_ne.2 hf] at HRD
    rw [if_neg (fun h => hf h.1), if_neg (fun h => hf h.1), if_neg hf]
    have HR := hide hR
    clear hR hf
    go_enter Try.func33, Try.ntmps33
    go_wp2_with fail
    with_reducible refine (unhide HRD).mono ?_
    rintro e w1 ⟨rfl, hw1⟩
    rw [hw1]
    clear hw1
    go_wp2
    go_ret
    exact ⟨rfl, unhide HR, Fr.refl _ _ _⟩
end
end Go.Proofs.Ytnbcehoddjcnoaa
