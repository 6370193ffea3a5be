/- The reference's reader of layer 17: Small, its first bit 1; New. -/
import Derived.Test.YtnbcehoddjcnoaaRefSm
namespace Go.Proofs.Ytnbcehoddjcnoaa
open Go.ChangeShapes Go.WideShapes Go.ChangeAt Go.RowKit

section
variable {w : World} {g : Nat} {A : Option Addr} {c : Nat} {xs : List Int} {at_ : Nat}
set_option maxRecDepth 100000 in
set_option maxHeartbeats 1000000 in
theorem xSmall1_any (hR : QV w g A c xs at_ 0) (hx : B8 xs) (hl : xs.length ≤ 10000000) (h1 : at_ + 1 ≤ 8 * xs.length) (h0 : rd xs at_ 1 = 1) :
    Calls Try.prog 34 #[.pointer (some ⟨g, 0, none⟩)] w fun e w' => e = .returned (.int .i64 (slV xs at_ 0)) ∧ QV w' g A c xs (slA xs at_ 0) (slF xs at_ 0) ∧ Fr g none w w' := by
  obtain ⟨c0, c1, c2, cz⟩ := hR.cells
  clear c0 c2 cz
  have HB1 := hide (xBitsR_any 1 1 (by omega) hR hx hl (by omega))
  rw [show rdVal xs at_ 0 1 = 1 from by unfold rdVal; rw [if_pos ⟨rfl, h1⟩, h0], show rdAt (8 * xs.length) at_ 0 1 = at_ + 1 from if_pos ⟨rfl, h1⟩, show rdF (8 * xs.length) at_ 0 1 = 0 from by unfold rdF; rw [if_pos rfl, if_pos h1]] at HB1
  have HB2F := hide fun (w1 : World) (hr : QV w1 g A c xs (at_ + 1) 0) => xBitsR_any 8 8 (by omega) hr hx hl h1
  have n1 : ¬ 8 * xs.length < at_ + 1 := by omega
  have n2 : ¬ rd xs at_ 1 = 0 := by rw [h0]; decide
  by_cases h9 : at_ + 9 ≤ 8 * xs.length
  · obtain ⟨K, hK⟩ : ∃ K : Nat, rd xs (at_ + 1) 8 = (K : Int) := ⟨(rd xs (at_ + 1) 8).toNat, by have := (rd_range xs (at_ + 1) 8).1; omega⟩
    have hK2 : (K : Int) < 256 := by have := (rd_range xs (at_ + 1) 8).2; rw [hK] at this; exact this
    have hKn : (rd xs (at_ + 1) 8).toNat = K := by rw [hK]; exact Int.toNat_natCast K
    have n3 : ¬ 8 * xs.length < at_ + 9 := by omega
    rw [show rdVal xs (at_ + 1) 0 8 = (K : Int) from by unfold rdVal; rw [if_pos ⟨rfl, by omega⟩, hK], show rdAt (8 * xs.length) (at_ + 1) 0 8 = at_ + 9 from by unfold rdAt; rw [if_pos ⟨rfl, by omega⟩], show rdF (8 * xs.length) (at_ + 1) 0 8 = 0 from by unfold rdF; rw [if_pos rfl, if_pos (by omega)]] at HB2F
    by_cases hbad : K = 0 ∨ 8 < K
    · obtain ⟨q1, _, q3⟩ := sl_one (show smR xs at_ = (0, at_, 4) from by unfold smR; rw [if_neg n1, if_neg n2, if_neg n3, hKn, if_pos hbad])
      obtain ⟨q4, q5⟩ := q3 (show (4 : Int) ≠ 0 by decide)
      rw [q1, q4, q5]
      clear hR hx h0 h1 n1 n2 n3 hK hKn h9 q1 q3 q4 q5
      rcases hbad with rfl | hbad
      · go_enter Try.func34, Try.ntmps34
        go_wp2_with fail
        refine (unhide HB1).mono ?_
        rintro e w1 ⟨rfl, hr1, hf1⟩
        have HB2 := hide (unhide HB2F _ hr1)
        have HF1 := hide hf1
        clear hr1 hf1
        go_wp2_with fail
        refine (unhide HB2).mono ?_
        rintro e w2 ⟨rfl, hr2, hf2⟩
        obtain ⟨d0, d1, d2, dz⟩ := hr2.cells
        clear d0 d1 dz
        have HR2 := hide hr2
        have HF12 := hide ((unhide HF1).trans hf2 (fun x e => by cases e))
        clear hr2 hf2
        go_wp2_with fail
        have HK := hide (xBack_any at_ 4 (unhide HR2))
        rw [if_pos rfl] at HK
        refine (unhide HK).mono ?_
        rintro e w9 ⟨rfl, hr9, hf9⟩
        have HR9 := hide hr9
        have HF9 := hide hf9
        clear hr9 hf9
        go_wp2
        go_ret
        exact ⟨rfl, unhide HR9, (unhide HF12).trans (unhide HF9) (fun x e => by cases e)⟩
      · go_enter Try.func34, Try.ntmps34
        go_wp2_with fail
        refine (unhide HB1).mono ?_
        rintro e w1 ⟨rfl, hr1, hf1⟩
        have HB2 := hide (unhide HB2F _ hr1)
        have HF1 := hide hf1
        clear hr1 hf1
        go_wp2_with fail
        refine (unhide HB2).mono ?_
        rintro e w2 ⟨rfl, hr2, hf2⟩
        obtain ⟨d0, d1, d2, dz⟩ := hr2.cells
        clear d0 d1 dz
        have HR2 := hide hr2
        have HF12 := hide ((unhide HF1).trans hf2 (fun x e => by cases e))
        clear hr2 hf2
        go_wp2_with fail
        have HK := hide (xBack_any at_ 4 (unhide HR2))
        rw [if_pos rfl] at HK
        refine (unhide HK).mono ?_
        rintro e w9 ⟨rfl, hr9, hf9⟩
        have HR9 := hide hr9
        have HF9 := hide hf9
        clear hr9 hf9
        go_wp2
        go_ret
        exact ⟨rfl, unhide HR9, (unhide HF12).trans (unhide HF9) (fun x e => by cases e)⟩
    · have hK0 : 0 < K := by omega
      have hK8 : K ≤ 8 := by omega
      have gK1 : ¬ ((K : Int) < 1) := by omega
      have gK : ¬ (8 < (K : Int)) := by omega
      by_cases hlong : at_ + 9 + 8 * K ≤ 8 * xs.length
      · have HO := hide fun (w2 : World) (hr : QV w2 g A c xs (at_ + 9) 0) => xOctetsR_any (K : Int) _ _ _ (refOctets_any (K : Int) K (by omega) hr hx hl (by omega) hlong (by omega))
        have HYL := hide (rdO_length xs (at_ + 9) K)
        have HYB := hide (rdO_bytes xs (at_ + 9) K)
        have n5 : ¬ 8 * xs.length < at_ + 9 + 8 * K := by omega
        have hsm : smR xs at_ = if (takeU (rdO xs (at_ + 9) K)).2 ≠ 0 ∨ (takeU (rdO xs (at_ + 9) K)).1 < 64 ∨ 10000 < (takeU (rdO xs (at_ + 9) K)).1 then (0, at_, 4) else ((takeU (rdO xs (at_ + 9) K)).1, at_ + 9 + 8 * K, 0) := by
          unfold smR; rw [if_neg n1, if_neg n2, if_neg n3, hKn, if_neg hbad, if_neg n5]
        have HSL := hide (fun s (h : smR xs at_ = s) => sl_one h)
        clear hR hx h0 h1 n1 n2 n3 n5 hK hKn h9 hbad hlong
        have HTUF := hide fun (w4 : World) (B : Option Addr) (d : Nat) (hh : Holds w4 B (rdO xs (at_ + 9) K)) => refTakeUnsigned_any B _ d (unhide HYB) (by have := unhide HYL; unfold maxLen; omega) w4 hh
        generalize rdO xs (at_ + 9) K = ys at *
        generalize at_ + 9 + 8 * K = a2 at *
        generalize (takeU ys).1 = p1 at *
        generalize (takeU ys).2 = p2 at *
        have hsl4 : (p2 ≠ 0 ∨ p1 < 64 ∨ 10000 < p1) → slF xs at_ 0 = 4 ∧ slV xs at_ 0 = 0 ∧ slA xs at_ 0 = at_ := fun h => by
          rw [if_pos h] at hsm
          obtain ⟨q1, _, q3⟩ := sl_one hsm
          exact ⟨q1, (q3 (show (4 : Int) ≠ 0 by decide)).1, (q3 (show (4 : Int) ≠ 0 by decide)).2⟩
        by_cases hp2 : p2 = 0
        · by_cases hp3 : p1 < 64
          · obtain ⟨q1, q2, q3⟩ := hsl4 (.inr (.inl hp3))
            rw [q1, q2, q3]
            subst hp2
            clear hsm hsl4 q1 q2 q3
            go_enter Try.func34, Try.ntmps34
            go_wp2_with fail
            refine (unhide HB1).mono ?_
            rintro e w1 ⟨rfl, hr1, hf1⟩
            have HB2 := hide (unhide HB2F _ hr1)
            have HF1 := hide hf1
            clear hr1 hf1
            go_wp2_with fail
            refine (unhide HB2).mono ?_
            rintro e w2 ⟨rfl, hr2, hf2⟩
            obtain ⟨d0, d1, d2, dz⟩ := hr2.cells
            clear d0 d1 dz
            have HR2 := hide hr2
            have HF12 := hide ((unhide HF1).trans hf2 (fun x e => by cases e))
            clear hr2 hf2
            go_wp2_with fail
            refine (unhide HO _ (unhide HR2)).mono ?_
            rintro e w4 ⟨B, d, rfl, hh, hr4, hf4⟩
            obtain ⟨d0, d1, d2, dz⟩ := hr4.cells
            have HR4 := hide hr4
            have HF14 := hide ((unhide HF12).trans hf4 (fun x e => by cases e))
            have HH := hide hh
            clear hr4 hf4 hh d0
            have HTU := hide (unhide HTUF _ B d (unhide HH))
            go_wp2_with fail
            refine (unhide HTU).mono ?_
            rintro e w5 ⟨rfl, hk5⟩
            have HR5 := hide ((unhide HR4).keeps hk5)
            have HF15 := hide ((unhide HF14).keeps hk5)
            clear hk5
            go_wp2_with fail
            have HK := hide (xBack_any at_ 4 (unhide HR5))
            rw [if_pos rfl] at HK
            refine (unhide HK).mono ?_
            rintro e w9 ⟨rfl, hr9, hf9⟩
            have HR9 := hide hr9
            have HF9 := hide hf9
            clear hr9 hf9
            go_wp2
            go_ret
            exact ⟨rfl, unhide HR9, (unhide HF15).trans (unhide HF9) (fun x e => by cases e)⟩
          · by_cases hp4 : 10000 < p1
            · obtain ⟨q1, q2, q3⟩ := hsl4 (.inr (.inr hp4))
              rw [q1, q2, q3]
              subst hp2
              clear hsm hsl4 q1 q2 q3
              go_enter Try.func34, Try.ntmps34
              go_wp2_with fail
              refine (unhide HB1).mono ?_
              rintro e w1 ⟨rfl, hr1, hf1⟩
              have HB2 := hide (unhide HB2F _ hr1)
              have HF1 := hide hf1
              clear hr1 hf1
              go_wp2_with fail
              refine (unhide HB2).mono ?_
              rintro e w2 ⟨rfl, hr2, hf2⟩
              obtain ⟨d0, d1, d2, dz⟩ := hr2.cells
              clear d0 d1 dz
              have HR2 := hide hr2
              have HF12 := hide ((unhide HF1).trans hf2 (fun x e => by cases e))
              clear hr2 hf2
              go_wp2_with fail
              refine (unhide HO _ (unhide HR2)).mono ?_
              rintro e w4 ⟨B, d, rfl, hh, hr4, hf4⟩
              obtain ⟨d0, d1, d2, dz⟩ := hr4.cells
              have HR4 := hide hr4
              have HF14 := hide ((unhide HF12).trans hf4 (fun x e => by cases e))
              have HH := hide hh
              clear hr4 hf4 hh d0
              have HTU := hide (unhide HTUF _ B d (unhide HH))
              go_wp2_with fail
              refine (unhide HTU).mono ?_
              rintro e w5 ⟨rfl, hk5⟩
              have HR5 := hide ((unhide HR4).keeps hk5)
              have HF15 := hide ((unhide HF14).keeps hk5)
              clear hk5
              go_wp2_with fail
              have HK := hide (xBack_any at_ 4 (unhide HR5))
              rw [if_pos rfl] at HK
              refine (unhide HK).mono ?_
              rintro e w9 ⟨rfl, hr9, hf9⟩
              have HR9 := hide hr9
              have HF9 := hide hf9
              clear hr9 hf9
              go_wp2
              go_ret
              exact ⟨rfl, unhide HR9, (unhide HF15).trans (unhide HF9) (fun x e => by cases e)⟩
            · rw [if_neg (fun h => by rcases h with h | h | h; exact h hp2; exact hp3 h; exact hp4 h)] at hsm
              obtain ⟨q1, q2, _⟩ := sl_one hsm
              obtain ⟨q4, q5⟩ := q2 rfl
              rw [q1, q4, q5]
              subst hp2
              clear hsm hsl4 q1 q2 q4 q5
              go_enter Try.func34, Try.ntmps34
              go_wp2_with fail
              refine (unhide HB1).mono ?_
              rintro e w1 ⟨rfl, hr1, hf1⟩
              have HB2 := hide (unhide HB2F _ hr1)
              have HF1 := hide hf1
              clear hr1 hf1
              go_wp2_with fail
              refine (unhide HB2).mono ?_
              rintro e w2 ⟨rfl, hr2, hf2⟩
              obtain ⟨d0, d1, d2, dz⟩ := hr2.cells
              clear d0 d1 dz
              have HR2 := hide hr2
              have HF12 := hide ((unhide HF1).trans hf2 (fun x e => by cases e))
              clear hr2 hf2
              go_wp2_with fail
              refine (unhide HO _ (unhide HR2)).mono ?_
              rintro e w4 ⟨B, d, rfl, hh, hr4, hf4⟩
              obtain ⟨d0, d1, d2, dz⟩ := hr4.cells
              have HR4 := hide hr4
              have HF14 := hide ((unhide HF12).trans hf4 (fun x e => by cases e))
              have HH := hide hh
              clear hr4 hf4 hh d0
              have HTU := hide (unhide HTUF _ B d (unhide HH))
              go_wp2_with fail
              refine (unhide HTU).mono ?_
              rintro e w5 ⟨rfl, hk5⟩
              have HR5 := hide ((unhide HR4).keeps hk5)
              have HF15 := hide ((unhide HF14).keeps hk5)
              clear hk5
              go_wp2
              go_ret
              exact ⟨rfl, unhide HR5, unhide HF15⟩
        · obtain ⟨q1, q2, q3⟩ := hsl4 (.inl hp2)
          rw [q1, q2, q3]
          have ep : (p2 != 0) = true := by rw [bne_iff_ne]; exact hp2
          clear hsm hsl4 q1 q2 q3
          go_enter Try.func34, Try.ntmps34
          go_wp2_with fail
          refine (unhide HB1).mono ?_
          rintro e w1 ⟨rfl, hr1, hf1⟩
          have HB2 := hide (unhide HB2F _ hr1)
          have HF1 := hide hf1
          clear hr1 hf1
          go_wp2_with fail
          refine (unhide HB2).mono ?_
          rintro e w2 ⟨rfl, hr2, hf2⟩
          obtain ⟨d0, d1, d2, dz⟩ := hr2.cells
          clear d0 d1 dz
          have HR2 := hide hr2
          have HF12 := hide ((unhide HF1).trans hf2 (fun x e => by cases e))
          clear hr2 hf2
          go_wp2_with fail
          refine (unhide HO _ (unhide HR2)).mono ?_
          rintro e w4 ⟨B, d, rfl, hh, hr4, hf4⟩
          obtain ⟨d0, d1, d2, dz⟩ := hr4.cells
          have HR4 := hide hr4
          have HF14 := hide ((unhide HF12).trans hf4 (fun x e => by cases e))
          have HH := hide hh
          clear hr4 hf4 hh d0
          have HTU := hide (unhide HTUF _ B d (unhide HH))
          go_wp2_with fail
          refine (unhide HTU).mono ?_
          rintro e w5 ⟨rfl, hk5⟩
          have HR5 := hide ((unhide HR4).keeps hk5)
          have HF15 := hide ((unhide HF14).keeps hk5)
          clear hk5
          go_wp2_with fail
          have HK := hide (xBack_any at_ 4 (unhide HR5))
          rw [if_pos rfl] at HK
          refine (unhide HK).mono ?_
          rintro e w9 ⟨rfl, hr9, hf9⟩
          have HR9 := hide hr9
          have HF9 := hide hf9
          clear hr9 hf9
          go_wp2
          go_ret
          exact ⟨rfl, unhide HR9, (unhide HF15).trans (unhide HF9) (fun x e => by cases e)⟩
      · obtain ⟨q1, _, q3⟩ := sl_one (show smR xs at_ = (0, at_, 3) from by unfold smR; rw [if_neg n1, if_neg n2, if_neg n3, hKn, if_neg hbad, if_pos (by omega)])
        obtain ⟨q4, q5⟩ := q3 (show (3 : Int) ≠ 0 by decide)
        rw [q1, q4, q5]
        have HO := hide fun (w2 : World) (hr : QV w2 g A c xs (at_ + 9) 0) => xOctetsR_any (K : Int) _ _ _ (refOctetsNo_any (K : Int) hr hl (by omega) (.inr (by omega)))
        rw [if_pos rfl] at HO
        clear hR hx h0 h1 n1 n2 n3 hK hKn h9 hbad hlong q1 q3 q4 q5
        go_enter Try.func34, Try.ntmps34
        go_wp2_with fail
        refine (unhide HB1).mono ?_
        rintro e w1 ⟨rfl, hr1, hf1⟩
        have HB2 := hide (unhide HB2F _ hr1)
        have HF1 := hide hf1
        clear hr1 hf1
        go_wp2_with fail
        refine (unhide HB2).mono ?_
        rintro e w2 ⟨rfl, hr2, hf2⟩
        obtain ⟨d0, d1, d2, dz⟩ := hr2.cells
        clear d0 d1 dz
        have HR2 := hide hr2
        have HF12 := hide ((unhide HF1).trans hf2 (fun x e => by cases e))
        clear hr2 hf2
        go_wp2_with fail
        refine (unhide HO _ (unhide HR2)).mono ?_
        rintro e w4 ⟨B, d, rfl, hh, hr4, hf4⟩
        obtain ⟨d0, d1, d2, dz⟩ := hr4.cells
        have HR4 := hide hr4
        have HF14 := hide ((unhide HF12).trans hf4 (fun x e => by cases e))
        have HH := hide hh
        clear hr4 hf4 hh d0
        have HRM := hide ((unhide HR4).moved at_)
        have HFM := hide ((unhide HF14).setCell (⟨g, 1, none⟩ : Addr) (.int .i64 (at_ : Nat)) (.inl rfl))
        go_wp2
        go_ret
        exact ⟨rfl, unhide HRM, unhide HFM⟩
  · obtain ⟨q1, _, q3⟩ := sl_one (show smR xs at_ = (0, at_, 3) from by unfold smR; rw [if_neg n1, if_neg n2, if_pos (by omega)])
    obtain ⟨q4, q5⟩ := q3 (show (3 : Int) ≠ 0 by decide)
    rw [q1, q4, q5]
    rw [show rdVal xs (at_ + 1) 0 8 = 0 from if_neg (fun h => by have := h.2; omega), show rdAt (8 * xs.length) (at_ + 1) 0 8 = at_ + 1 from if_neg (fun h => by have := h.2; omega), show rdF (8 * xs.length) (at_ + 1) 0 8 = 3 from by unfold rdF; rw [if_pos rfl, if_neg (by omega)]] at HB2F
    have HO := hide fun (w2 : World) (hr : QV w2 g A c xs (at_ + 1) 3) => xOctetsR_any 0 _ _ _ (refOctetsNo_any 0 hr hl h1 (.inl (by decide)))
    rw [if_neg (by decide)] at HO
    clear hR hx h0 h1 n1 n2 h9 q1 q3 q4 q5
    go_enter Try.func34, Try.ntmps34
    go_wp2_with fail
    refine (unhide HB1).mono ?_
    rintro e w1 ⟨rfl, hr1, hf1⟩
    have HB2 := hide (unhide HB2F _ hr1)
    have HF1 := hide hf1
    clear hr1 hf1
    go_wp2_with fail
    refine (unhide HB2).mono ?_
    rintro e w2 ⟨rfl, hr2, hf2⟩
    obtain ⟨d0, d1, d2, dz⟩ := hr2.cells
    clear d0 d1 dz
    have HR2 := hide hr2
    have HF12 := hide ((unhide HF1).trans hf2 (fun x e => by cases e))
    clear hr2 hf2
    go_wp2_with fail
    refine (unhide HO _ (unhide HR2)).mono ?_
    rintro e w4 ⟨B, d, rfl, hh, hr4, hf4⟩
    obtain ⟨d0, d1, d2, dz⟩ := hr4.cells
    have HR4 := hide hr4
    have HF14 := hide ((unhide HF12).trans hf4 (fun x e => by cases e))
    have HH := hide hh
    clear hr4 hf4 hh d0
    have HRM := hide ((unhide HR4).moved at_)
    have HFM := hide ((unhide HF14).setCell (⟨g, 1, none⟩ : Addr) (.int .i64 (at_ : Nat)) (.inl rfl))
    go_wp2
    go_ret
    exact ⟨rfl, unhide HRM, unhide HFM⟩
end
end Go.Proofs.Ytnbcehoddjcnoaa
