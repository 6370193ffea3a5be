/- The reference's reader of layer 17: Fail, back, Left, Octets, Bits. -/
import Derived.Test.YtnbcehoddjcnoaaRefRO
import Derived.Test.YtnbcehoddjcnoaaWhR
namespace Go.Proofs.Ytnbcehoddjcnoaa
open Go.ChangeShapes Go.WideShapes Go.ChangeAt Go.RowKit

section
variable {w : World} {g : Nat} {A : Option Addr} {c : Nat} {xs : List Int} {at_ : Nat} {f : Int}
theorem QV.cells (h : QV w g A c xs at_ f) : w.cell? ⟨g, 0, none⟩ = some (.slice A xs.length c) ∧ w.cell? ⟨g, 1, none⟩ = some (.int .i64 (at_ : Nat)) ∧ w.cell? ⟨g, 2, none⟩ = some (.int .i64 f) ∧ (∀ i, w.frozen? ⟨g, i, none⟩ = false) :=
  ⟨h.1.cell 0, h.1.cell 1, h.1.cell 2, h.1.frozen⟩
theorem xFail_any (e2 : Int) (hR : QV w g A c xs at_ f) :
    Calls Try.prog 36 #[.pointer (some ⟨g, 0, none⟩), .int .i64 e2] w fun e w' => e = .returned (.tuple #[]) ∧ QV w' g A c xs at_ (if f = 0 then e2 else f) ∧ Fr g none w w' := by
  obtain ⟨h0, h1, h2, hz⟩ := hR.cells
  have HF := hide (hR.fault e2)
  have HW := hide ((Fr.refl g none w).setCell (⟨g, 2, none⟩ : Addr) (.int .i64 e2) (.inl rfl))
  have HR := hide hR
  clear hR
  by_cases hf : f = 0
  · subst hf
    rw [if_pos rfl]
    go_enter Try.func36, Try.ntmps36
    go_wp2
    go_end0
    exact ⟨rfl, unhide HF, unhide HW⟩
  · rw [if_neg hf]
    have e1 : (f == 0) = false := beq_eq_false_iff_ne.2 hf
    clear hf
    go_enter Try.func36, Try.ntmps36
    go_wp2
    go_end0
    exact ⟨rfl, unhide HR, Fr.refl _ _ _⟩
theorem xBack_any (a2 : Nat) (e2 : Int) (hR : QV w g A c xs at_ f) :
    Calls Try.prog 67 #[.pointer (some ⟨g, 0, none⟩), .int .i64 (a2 : Nat), .int .i64 e2] w fun e w' => e = .returned (.tuple #[]) ∧ QV w' g A c xs a2 (if f = 0 then e2 else f) ∧ Fr g none w w' := by
  obtain ⟨h0, h1, h2, hz⟩ := hR.cells
  have HF := hide (xFail_any e2 (hR.moved a2))
  have HW := hide ((Fr.refl g none w).setCell (⟨g, 1, none⟩ : Addr) (.int .i64 (a2 : Nat)) (.inl rfl))
  clear hR
  generalize (if f = 0 then e2 else f) = f2 at *
  go_enter Try.func67, Try.ntmps67
  go_wp2_with fail
  refine (unhide HF).mono ?_
  rintro e w1 ⟨rfl, hr, hf⟩
  have HR := hide hr
  have HFF := hide hf
  clear hr hf
  go_wp2
  go_end0
  exact ⟨rfl, unhide HR, (unhide HW).trans (unhide HFF) (fun x e => by cases e)⟩
theorem xLeft_any (hR : QV w g A c xs at_ f) (hl : xs.length ≤ 10000000) (ha : at_ ≤ 8 * xs.length) :
    Calls Try.prog 40 #[.pointer (some ⟨g, 0, none⟩)] w fun e w' => e = .returned (.int .i64 ((8 * xs.length - at_ : Nat) : Int)) ∧ w' = w.drew := by
  have HL := hide (refLeftM_any hR hl ha)
  clear hR
  go_enter Try.func40, Try.ntmps40
  go_wp2_with fail
  with_reducible refine (unhide HL).mono ?_
  rintro e w1 ⟨rfl, rfl⟩
  go_wp2
  go_ret
  exact ⟨rfl, rfl⟩
theorem xOctetsR_any (n : Int) (a2 : Nat) (f2 : Int) (ys : List Int) (h : Calls Try.prog 65 #[.pointer (some ⟨g, 0, none⟩), .int .i64 n] w (GivesQ w g A c xs a2 f2 ys)) :
    Calls Try.prog 30 #[.pointer (some ⟨g, 0, none⟩), .int .i64 n] w (GivesQ w g A c xs a2 f2 ys) := by
  have H := hide h
  clear h
  go_enter Try.func30, Try.ntmps30
  go_wp2_with fail
  with_reducible refine (unhide H).mono ?_
  rintro e w1 ⟨B, d, rfl, hh, hq, hf⟩
  have HH := hide hh
  have HQ := hide hq
  have HF := hide hf
  clear hh hq hf
  go_wp2
  go_ret
  exact ⟨B, d, rfl, unhide HH, unhide HQ, unhide HF⟩

theorem or_low (a b : Int) (ha0 : 0 ≤ a) (ha : a ≤ 9223372036854775807) (hb0 : 0 ≤ b) (hb : b ≤ 1) : bits .or .u64 (a * 2) b = a * 2 + b := by
  obtain ⟨x, rfl⟩ := Int.eq_ofNat_of_zero_le ha0
  obtain ⟨y, rfl⟩ := Int.eq_ofNat_of_zero_le hb0
  have := u64_or_nat (x * 2) y (by omega) (by omega)
  have h2 : x * 2 ||| y = x * 2 + y := by
    have := Nat.two_pow_add_eq_or_of_lt (i := 1) (b := y) (by omega) x
    rw [Nat.pow_one, Nat.mul_comm] at this
    exact this.symm
  rw [h2] at this
  rw [show ((x : Int) * 2) = ((x * 2 : Nat) : Int) from by omega, this]
  omega
theorem rd_half (xs : List Int) (at_ j : Nat) (h : j ≤ 63) : 0 ≤ rd xs at_ j ∧ rd xs at_ j ≤ 9223372036854775807 := by
  have h1 := rd_range xs at_ j
  have h3 : (2 : Nat) ^ j ≤ 2 ^ 63 := Nat.pow_le_pow_right (by omega) h
  have h2 : (2 : Int) ^ j ≤ 2 ^ 63 := by exact_mod_cast h3
  rw [show (2 : Int) ^ 63 = 9223372036854775808 from by decide] at h2
  omega

set_option maxRecDepth 100000 in
set_option maxHeartbeats 1000000 in
theorem xBitsR_any (k : Int) (J : Nat) (hJ : max 0 (min k 64) = (J : Int)) (hR : QV w g A c xs at_ f) (hx : B8 xs) (hl : xs.length ≤ 10000000) (ha : at_ ≤ 8 * xs.length) :
    Calls Try.prog 38 #[.pointer (some ⟨g, 0, none⟩), .int .i64 k] w fun e w' => e = .returned (.int .u64 (rdVal xs at_ f J)) ∧ QV w' g A c xs (rdAt (8 * xs.length) at_ f J) (rdF (8 * xs.length) at_ f J) ∧ Fr g none w w' := by
  obtain ⟨h0, h1, h2, hz⟩ := hR.cells
  have hJ64 : J ≤ 64 := by omega
  by_cases hf : f = 0
  · subst hf
    have HL := hide (refLeftM_any (c := c) hR hl ha)
    by_cases hok : at_ + J ≤ 8 * xs.length
    · have HV := hide (show rdVal xs at_ 0 J = rd xs at_ J from if_pos ⟨rfl, hok⟩)
      have HA := hide (show rdAt (8 * xs.length) at_ 0 J = at_ + J from if_pos ⟨rfl, hok⟩)
      have HF := hide (show rdF (8 * xs.length) at_ 0 J = 0 from by unfold rdF; rw [if_pos rfl, if_pos hok])
      have HR := hide hR
      have HX := hide hx
      have HZ := hide (rd_zero xs at_)
      have hTJ : ¬ (((8 * xs.length - at_ : Nat) : Int) < (J : Int)) := by omega
      have HOK := hide hok
      clear hR hx ha hok h0 h1
      generalize ((8 * xs.length - at_ : Nat) : Int) = T at *
      go_enter Try.func38, Try.ntmps38
      go_wp2_with fail
      refine (unhide HL).mono ?_
      rintro e w1 ⟨rfl, hw1⟩
      rw [hw1]
      clear hw1
      go_wp2
      go_loopw [5, 6] (fun v i wr => ∃ j : Nat, j ≤ J ∧ i = .int .i64 j ∧ v = .int .u64 (rd xs at_ j) ∧ QV wr g A c xs (at_ + j) 0 ∧ Fr g none w wr) (fun _ i _ => J - (intOf i).toNat)
      case atStart => exact ⟨0, Nat.zero_le _, rfl, by rw [unhide HZ], (unhide HR).drew, (Fr.refl _ _ _).drew⟩
      case round =>
        obtain ⟨j, hj, rfl, rfl, hq, hfr⟩ := hrel
        obtain ⟨c0, c1, c2, cz⟩ := hq.cells
        clear c0 c1
        by_cases hlt : j < J
        · have hb := rd_range xs (at_ + j) 1
          rw [Int.pow_one] at hb
          obtain ⟨hb0, hb1⟩ := hb
          obtain ⟨hv0, hv1⟩ := rd_half xs at_ j (by omega)
          have hnext : at_ + j + 1 ≤ 8 * xs.length := by have := unhide HOK; omega
          have HC := hide (refBitR_any hq (unhide HX) hl (by omega))
          rw [show rdVal xs (at_ + j) 0 1 = rd xs (at_ + j) 1 from if_pos ⟨rfl, hnext⟩, show rdAt (8 * xs.length) (at_ + j) 0 1 = at_ + (j + 1) from if_pos ⟨rfl, hnext⟩, show rdF (8 * xs.length) (at_ + j) 0 1 = 0 from by unfold rdF; rw [if_pos rfl, if_pos hnext]] at HC
          have HN := hide (show rd xs at_ (j + 1) = rd xs at_ j * 2 + rd xs (at_ + j) 1 from by rw [rd_add xs at_ j 1 hnext, Int.pow_one])
          have hor := or_low (rd xs at_ j) (rd xs (at_ + j) 1) hv0 hv1 hb0 (by omega)
          have hwr : IntKind.u64.wrap (rd xs at_ j * 2) = rd xs at_ j * 2 := by rw [IntKind.wrap_u64]; omega
          have HFR := hide hfr
          clear hq hfr hnext
          generalize rd xs at_ j = v at *
          generalize rd xs (at_ + j) 1 = b at *
          go_wp2_with fail
          refine (unhide HC).mono ?_
          rintro e w2 ⟨rfl, hr2, hf2⟩
          have HR2 := hide hr2
          have HF2 := hide ((unhide HFR).trans hf2 (fun x e => by cases e))
          clear hr2 hf2
          go_wp2
          exact ⟨⟨j + 1, by omega, by go_num, by rw [unhide HN], unhide HR2, unhide HF2⟩, by simp [intOf]; omega⟩
        · obtain rfl : j = J := by omega
          have HQ := hide hq
          have HFR := hide hfr
          clear hq hfr
          go_wp2
          go_ret
          rw [unhide HV, unhide HA, unhide HF]
          exact ⟨rfl, unhide HQ, unhide HFR⟩
    · have HV := hide (show rdVal xs at_ 0 J = 0 from if_neg (fun h => hok h.2))
      have HA := hide (show rdAt (8 * xs.length) at_ 0 J = at_ from if_neg (fun h => hok h.2))
      have HF := hide (show rdF (8 * xs.length) at_ 0 J = 3 from by unfold rdF; rw [if_pos rfl, if_neg hok])
      have HQ := hide (hR.drew.fault 3)
      have HFR := hide ((Fr.refl g none w).drew.setCell (⟨g, 2, none⟩ : Addr) (.int .i64 3) (.inl rfl))
      have hTJ : ((8 * xs.length - at_ : Nat) : Int) < (J : Int) := by omega
      have hJ0 : (0 : Int) < J := by omega
      have hgl := hR.1.lt
      clear hR hx ha hok h0 h1
      generalize ((8 * xs.length - at_ : Nat) : Int) = T at *
      go_enter Try.func38, Try.ntmps38
      go_wp2_with fail
      refine (unhide HL).mono ?_
      rintro e w1 ⟨rfl, hw1⟩
      rw [hw1]
      clear hw1
      go_wp2
      go_loopw [5, 6] (fun v i wr => v = .int .u64 0 ∧ i = .int .i64 0 ∧ wr = w.drew.setCell ⟨g, 2, none⟩ (.int .i64 3)) (fun _ i _ => J - (intOf i).toNat)
      case atStart => exact ⟨rfl, rfl, rfl⟩
      case round =>
        obtain ⟨rfl, rfl, rfl⟩ := hrel
        have c2 : (w.drew.setCell ⟨g, 2, none⟩ (.int .i64 3)).cell? ⟨g, 2, none⟩ = some (.int .i64 3) := (unhide HQ).1.cell 2
        go_wp2
        go_ret
        rw [unhide HV, unhide HA, unhide HF]
        exact ⟨rfl, unhide HQ, unhide HFR⟩
  · have HV := hide (show rdVal xs at_ f J = 0 from if_neg (fun h => hf h.1))
    have HA := hide (show rdAt (8 * xs.length) at_ f J = at_ from if_neg (fun h => hf h.1))
    have HF := hide (show rdF (8 * xs.length) at_ f J = f from if_neg hf)
    have HR := hide hR
    have e1 : (f == 0) = false := beq_eq_false_iff_ne.2 hf
    clear hR hx ha hf h0 h1
    go_enter Try.func38, Try.ntmps38
    go_wp2
    go_loopw [5, 6] (fun v i wr => v = .int .u64 0 ∧ i = .int .i64 0 ∧ wr = w) (fun _ i _ => J - (intOf i).toNat)
    case atStart => exact ⟨rfl, rfl, rfl⟩
    case round =>
      obtain ⟨rfl, rfl, rfl⟩ := hrel
      by_cases hJ0 : 0 < J
      · go_wp2
        go_ret
        rw [unhide HV, unhide HA, unhide HF]
        exact ⟨rfl, unhide HR, Fr.refl _ _ _⟩
      · go_wp2
        go_ret
        rw [unhide HV, unhide HA, unhide HF]
        exact ⟨rfl, unhide HR, Fr.refl _ _ _⟩
end
end Go.Proofs.Ytnbcehoddjcnoaa
