/- The reference's Reader. -/
import Derived.Test.YtnbcehoddjcnoaaBitsRdE
import Derived.Test.YtnbcehoddjcnoaaRefW
namespace Go.Proofs.Ytnbcehoddjcnoaa
open Go.ChangeShapes Go.WideShapes Go.ChangeAt Go.RowKit

/-- The reference's reader at g: its octets xs lie at A, it stands at a place, and has a fault. -/
def QV (w : World) (g : Nat) (A : Option Addr) (c : Nat) (xs : List Int) (at_ : Nat) (f : Int) : Prop :=
  Blk w g 60 (srcCells A xs.length c at_ [.int .i64 f]) ∧ Holds w A xs ∧ (0 < xs.length → ∀ b, rowOf A = some b → b ≠ g)
theorem Holds.fr0 {w w' : World} {A : Option Addr} {xs : List Int} {g : Nat} {row : Option Nat} (h : Holds w A xs) (hf : Fr g row w w') (hA : 0 < xs.length → ∀ b, rowOf A = some b → b ≠ g ∧ row ≠ some b) : Holds w' A xs := by
  rcases Nat.eq_zero_or_pos xs.length with h0 | h0
  · exact ⟨by simp, fun hn => by omega⟩
  · exact h.fr hf (hA h0)
section
variable {w w' : World} {g : Nat} {A : Option Addr} {c : Nat} {xs : List Int} {at_ : Nat} {f : Int}
theorem QV.drew (h : QV w g A c xs at_ f) : QV w.drew g A c xs at_ f := ⟨h.1.drew, h.2.1.drew, h.2.2⟩
theorem QV.keeps (h : QV w g A c xs at_ f) (hk : Keeps w w') : QV w' g A c xs at_ f := ⟨h.1.keeps hk, h.2.1.keeps hk, h.2.2⟩
theorem QV.fr (h : QV w g A c xs at_ f) {g' : Nat} {row' : Option Nat} (hf : Fr g' row' w w') (hg : g ≠ g') (hr : row' ≠ some g) (hA : 0 < xs.length → ∀ b, rowOf A = some b → b ≠ g' ∧ row' ≠ some b) : QV w' g A c xs at_ f :=
  ⟨fr_blk hf h.1 hg hr, h.2.1.fr0 hf hA, h.2.2⟩
theorem QV.fault (h : QV w g A c xs at_ f) (f2 : Int) : QV (w.setCell ⟨g, 2, none⟩ (.int .i64 f2)) g A c xs at_ f2 := by
  refine ⟨by simpa [srcCells] using h.1.set_ 2 (.int .i64 f2), h.2.1.fr0 ((Fr.refl g none w).setCell _ _ (.inl rfl)) (fun hl b e => ⟨h.2.2 hl b e, fun e => by cases e⟩), h.2.2⟩
theorem QV.moved (h : QV w g A c xs at_ f) (at2 : Nat) : QV (w.setCell ⟨g, 1, none⟩ (.int .i64 (at2 : Nat))) g A c xs at2 f := by
  refine ⟨?_, h.2.1.fr0 ((Fr.refl g none w).setCell _ _ (.inl rfl)) (fun hl b e => ⟨h.2.2 hl b e, fun e => by cases e⟩), h.2.2⟩
  have := h.1.set_ 1 (.int .i64 (at2 : Nat))
  rwa [src_set] at this

set_option maxRecDepth 100000 in
set_option maxHeartbeats 1000000 in
theorem refLeft_any (hR : QV w g A c xs at_ f) (hl : xs.length ≤ 10000000) (ha : at_ ≤ 8 * xs.length) :
    Calls Try.prog 83 #[.pointer (some ⟨g, 0, none⟩)] w fun e w' => e = .returned (.int .i64 ((8 * xs.length - at_ : Nat) : Int)) ∧ w' = w.drew := by
  obtain ⟨hgc, hgf, hgl⟩ := hR.1.facts
  have hg0 : w.cell? ⟨g, 0, none⟩ = some (.slice A xs.length c) := hgc 0
  have hg1 : w.cell? ⟨g, 1, none⟩ = some (.int .i64 (at_ : Nat)) := hgc 1
  have HE := hide (show ((8 * xs.length - at_ : Nat) : Int) = 8 * (xs.length : Int) - at_ from by omega)
  clear hR hgc
  go_enter Try.func83, Try.ntmps83
  go_wp2
  go_region
  go_wp2
  go_ret
  exact ⟨ret_int (unhide HE).symm, rfl⟩
theorem refLeftM_any (hR : QV w g A c xs at_ f) (hl : xs.length ≤ 10000000) (ha : at_ ≤ 8 * xs.length) :
    Calls Try.prog 70 #[.pointer (some ⟨g, 0, none⟩)] w fun e w' => e = .returned (.int .i64 ((8 * xs.length - at_ : Nat) : Int)) ∧ w' = w.drew := by
  have HL := hide (refLeft_any hR hl ha)
  clear hR
  go_enter Try.func70, Try.ntmps70
  go_wp2_with fail
  with_reducible refine (unhide HL).mono ?_
  rintro e w1 ⟨rfl, rfl⟩
  go_wp2
  go_ret
  exact ⟨rfl, rfl⟩

theorem and_one8 (v : Int) (h0 : 0 ≤ v) (h1 : v ≤ 255) : bits .and .u8 v 1 = v % 2 := by
  obtain ⟨a, rfl⟩ := Int.eq_ofNat_of_zero_le h0
  have := u8_and_nat a 1 (by omega) (by omega)
  rw [show a &&& 1 = a % 2 from Nat.and_one_is_mod a] at this
  rw [show ((1 : Nat) : Int) = 1 from rfl] at this
  rw [this]
  omega

set_option maxRecDepth 100000 in
set_option maxHeartbeats 1000000 in
theorem refAt_any (i : Nat) (hR : QV w g A c xs at_ f) (hx : B8 xs) (hl : xs.length ≤ 10000000) (hi : i < 8 * xs.length) :
    Calls Try.prog 84 #[.pointer (some ⟨g, 0, none⟩), .int .i64 (i : Nat)] w fun e w' => e = .returned (.int .i64 (rd xs i 1)) ∧ w' = w := by
  obtain ⟨q, j, hq, hj⟩ : ∃ q j : Nat, q < 8 ∧ i = 8 * j + (8 - (q + 1)) := ⟨7 - i % 8, i / 8, by omega, by omega⟩
  have hjl : j < xs.length := by omega
  have hv := rd_byte xs hx j (q + 1) 1 hjl (by omega) (by omega)
  rw [← hj, Nat.add_sub_cancel, Int.pow_one] at hv
  obtain ⟨b, o, rfl, hc⟩ := hR.2.1.at_ hjl
  have hg0 : w.cell? ⟨g, 0, none⟩ = some (.slice (some ⟨b, o, none⟩) xs.length c) := hR.1.cell 0
  have hxr := getD_range xs hx j hjl
  have hy0 : 0 ≤ xs.getD j 0 / 2 ^ q := Int.ediv_nonneg hxr.1 (Int.le_of_lt (two_pos q))
  have hy1 : xs.getD j 0 / 2 ^ q ≤ 255 := by have := Int.ediv_le_self (2 ^ q) hxr.1; omega
  have hand := and_one8 _ hy0 hy1
  have e8 : (i : Int) % 8 = 7 - (q : Int) := by omega
  have e9 : (7 : Int) - (7 - (q : Int)) = q := by omega
  have eq8 : (i : Int) / 8 = (j : Nat) := by omega
  have eqn : i / 8 = j := by omega
  have hi2 : i ≤ 80000000 := by omega
  have HV := hide hv
  clear hR hv hj hx
  generalize hxx : xs.getD j 0 = x at *
  clear hxx
  have hm0 : 0 ≤ x / 2 ^ q % 2 := Int.emod_nonneg _ (by omega)
  have hm1 : x / 2 ^ q % 2 ≤ 1 := by have := Int.emod_lt_of_pos (x / 2 ^ q) (show (0 : Int) < 2 by omega); omega
  go_enter Try.func84, Try.ntmps84
  go_wp2
  go_ret
  exact ⟨ret_int (unhide HV).symm, rfl⟩
theorem rd_one (xs : List Int) (at_ k : Nat) (h : at_ + k + 1 ≤ 8 * xs.length) (h32 : k + 1 ≤ 32) :
    rd xs at_ k * 2 % 4294967296 = rd xs at_ k * 2 ∧ bits .or .u32 (rd xs at_ k * 2) (rd xs (at_ + k) 1) = rd xs at_ (k + 1) := by
  have := rd_round xs at_ k 1 h h32
  rwa [Int.pow_one] at this

set_option maxRecDepth 100000 in
set_option maxHeartbeats 2000000 in
theorem refBitsR_any (k : Int) (n : Nat) (hk : max 0 (min k 32) = (n : Int)) (hR : QV w g A c xs at_ f) (hx : B8 xs) (hl : xs.length ≤ 10000000) (ha : at_ ≤ 8 * xs.length) :
    Calls Try.prog 85 #[.pointer (some ⟨g, 0, none⟩), .int .i64 k] w fun e w' => e = .returned (.int .u32 (rdVal xs at_ f n)) ∧ QV w' g A c xs (rdAt (8 * xs.length) at_ f n) (rdF (8 * xs.length) at_ f n) ∧ Fr g none w w' := by
  have hgl := hR.1.lt
  have h32 : n ≤ 32 := by omega
  obtain ⟨hgc, hgf, _⟩ := hR.1.facts
  have hg2 : w.cell? ⟨g, 2, none⟩ = some (.int .i64 f) := hgc 2
  have HK := hide hk
  by_cases hf : f = 0
  · subst hf
    have HL := hide (refLeft_any hR hl ha)
    obtain ⟨T, hT⟩ : ∃ T : Nat, T = 8 * xs.length - at_ := ⟨_, rfl⟩
    rw [← hT] at HL
    have HR := hide hR
    have HX := hide hx
    by_cases hn : at_ + n ≤ 8 * xs.length
    · have HV := hide (show rdVal xs at_ 0 n = rd xs at_ n from if_pos ⟨rfl, hn⟩)
      have HA := hide (show rdAt (8 * xs.length) at_ 0 n = at_ + n from if_pos ⟨rfl, hn⟩)
      have HF := hide (show rdF (8 * xs.length) at_ 0 n = 0 from by unfold rdF; rw [if_pos rfl, if_pos hn])
      have HZ := hide (rd_zero xs at_)
      have hnt : (n : Int) ≤ T := by omega
      have HNN := hide hn
      have hTl : T ≤ 80000000 := by omega
      clear hk hR hx hn ha hT hgc
      go_enter Try.func85, Try.ntmps85
      go_wp2_with fail
      all_goals (have hkk := unhide HK)
      all_goals first
        | (exfalso; omega)
        | skip
      all_goals
        with_reducible refine (unhide HL).mono ?_
        rintro e w1 ⟨rfl, rfl⟩
        first
          | (have q1 : ¬ (T : Int) < k := by omega)
          | skip
        first
          | (have q2 : ¬ (T : Int) < 32 := by omega)
          | skip
        first
          | (have q2 : ¬ (T : Int) < 0 := by omega)
          | skip
        clear hkk
        go_wp2
        go_loopw [5, 6] (fun v i wr => ∃ j : Nat, j ≤ n ∧ i = .int .i64 j ∧ v = .int .u32 (rd xs at_ j) ∧ QV wr g A c xs (at_ + j) 0 ∧ Fr g none w wr) (fun _ i _ => n - (intOf i).toNat)
        case atStart => exact ⟨0, Nat.zero_le _, rfl, by rw [unhide HZ], (unhide HR).drew, (Fr.refl _ _ _).drew⟩
        case round =>
          obtain ⟨j, hj, rfl, rfl, hq, hfr⟩ := hrel
          have hkk := unhide HK
          by_cases hlt : j < n
          · first
            | (exfalso; omega)
            | (
              first
                | (have q3 : (j : Int) < k := by omega)
                | skip
              first
                | (have q4 : (j : Int) < 32 := by omega)
                | skip
              clear hkk
              obtain ⟨hqc, hqf, hql⟩ := hq.1.facts
              have hq1 : wr.cell? ⟨g, 1, none⟩ = some (.int .i64 (at_ + j : Nat)) := hqc 1
              obtain ⟨r1, r2⟩ := rd_one xs at_ j (by have := unhide HNN; omega) (by omega)
              have HC := hide (refAt_any (at_ + j) hq (unhide HX) hl (by have := unhide HNN; omega))
              have hv := rd_range xs at_ j
              have hb := rd_range xs (at_ + j) 1
              rw [Int.pow_one] at hb
              have hpl : at_ + j ≤ 80000000 := by have := unhide HNN; omega
              have HQ := hide hq
              have HFR := hide hfr
              have HR2 := hide r2
              have hv0 := hv.1
              have HP1 := hide (show at_ + (j + 1) = at_ + j + 1 from by omega)
              clear hq hfr hqc r2 hv
              generalize at_ + j = P at *
              generalize rd xs P 1 = b at *
              generalize rd xs at_ j = v at *
              go_wp2_with fail
              with_reducible refine (unhide HC).mono ?_
              rintro e w2 ⟨rfl, hw2⟩
              rw [hw2]
              clear hw2
              go_wp2
              rw [unhide HR2]
              refine ⟨⟨j + 1, by omega, by go_num, rfl, ?_, ?_⟩, by simp [intOf]; omega⟩
              · rw [unhide HP1]
                have := (unhide HQ).moved (P + 1)
                simpa using this
              · exact (unhide HFR).setCell _ _ (.inl rfl))
          · obtain rfl : j = n := by omega
            first
              | (have q3 : ¬ (j : Int) < k := by omega)
              | skip
            first
              | (have q4 : ¬ (j : Int) < 32 := by omega)
              | skip
            first
              | (have q5 : ¬ (j : Int) < 0 := by omega)
              | skip
            clear hkk
            have HQ := hide hq
            have HFR := hide hfr
            clear hq hfr
            go_wp2
            go_ret
            rw [unhide HV, unhide HA, unhide HF]
            exact ⟨rfl, unhide HQ, unhide HFR⟩
    · have HV := hide (show rdVal xs at_ 0 n = 0 from if_neg (fun h => hn h.2))
      have HA := hide (show rdAt (8 * xs.length) at_ 0 n = at_ from if_neg (fun h => hn h.2))
      have HF := hide (show rdF (8 * xs.length) at_ 0 n = 3 from by unfold rdF; rw [if_pos rfl, if_neg hn])
      have hnt : (T : Int) < n := by omega
      clear hk hR hx hn ha hT hgc
      go_enter Try.func85, Try.ntmps85
      go_wp2_with fail
      all_goals (have hkk := unhide HK)
      all_goals first
        | (exfalso; omega)
        | skip
      all_goals
        with_reducible refine (unhide HL).mono ?_
        rintro e w1 ⟨rfl, rfl⟩
        first
          | (have q1 : (T : Int) < k := by omega)
          | skip
        first
          | (have q2 : (T : Int) < 32 := by omega)
          | skip
        clear hkk
        go_wp2
        go_ret
        rw [unhide HV, unhide HA, unhide HF]
        exact ⟨rfl, (unhide HR).drew.fault 3, (Fr.refl g none w).drew.setCell _ _ (.inl rfl)⟩
  · have e1 : (f != 0) = true := by rw [bne_iff_ne]; exact hf
    have e2 : (f == 0) = false := beq_eq_false_iff_ne.2 hf
    have HV := hide (show rdVal xs at_ f n = 0 from if_neg (fun h => hf h.1))
    have HA := hide (show rdAt (8 * xs.length) at_ f n = at_ from if_neg (fun h => hf h.1))
    have HF := hide (show rdF (8 * xs.length) at_ f n = f from if_neg hf)
    have HR := hide hR
    clear hk hR hx ha hf hgc
    go_enter Try.func85, Try.ntmps85
    go_wp2
    all_goals
      go_ret
      rw [unhide HV, unhide HA, unhide HF]
      exact ⟨rfl, unhide HR, Fr.refl _ _ _⟩
theorem refBitR_any (hR : QV w g A c xs at_ f) (hx : B8 xs) (hl : xs.length ≤ 10000000) (ha : at_ ≤ 8 * xs.length) :
    Calls Try.prog 71 #[.pointer (some ⟨g, 0, none⟩)] w fun e w' => e = .returned (.int .i64 (rdVal xs at_ f 1)) ∧ QV w' g A c xs (rdAt (8 * xs.length) at_ f 1) (rdF (8 * xs.length) at_ f 1) ∧ Fr g none w w' := by
  have HB := hide (refBitsR_any 1 1 (by omega) hR hx hl ha)
  have hv : 0 ≤ rdVal xs at_ f 1 ∧ rdVal xs at_ f 1 ≤ 1 := by
    unfold rdVal
    split
    · have := rd_range xs at_ 1
      rw [Int.pow_one] at this
      omega
    · omega
  clear hR hx hl ha
  generalize rdVal xs at_ f 1 = v at *
  go_enter Try.func71, Try.ntmps71
  go_wp2_with fail
  with_reducible refine (unhide HB).mono ?_
  rintro e w1 ⟨rfl, h⟩
  have HP := hide h
  clear h
  go_wp2
  go_ret
  exact ⟨rfl, unhide HP⟩
end
end Go.Proofs.Ytnbcehoddjcnoaa
