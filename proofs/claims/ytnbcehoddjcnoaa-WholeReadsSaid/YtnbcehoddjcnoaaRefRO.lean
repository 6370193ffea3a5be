/- The reference's Reader: Octets and End. -/
import Derived.Test.YtnbcehoddjcnoaaRefR
import Derived.Test.YtnbcehoddjcnoaaBitsRdO
namespace Go.Proofs.Ytnbcehoddjcnoaa
open Go.ChangeShapes Go.WideShapes Go.ChangeAt Go.RowKit

def GivesQ (w : World) (g : Nat) (A : Option Addr) (c : Nat) (xs : List Int) (at_ : Nat) (f : Int) (ys : List Int) (e : Ending) (w' : World) : Prop :=
  ∃ B d, e = .returned (.slice B ys.length d) ∧ Holds w' B ys ∧ QV w' g A c xs at_ f ∧ Fr g none w w'
def RqRel (w : World) (g : Nat) (A : Option Addr) (c : Nat) (xs : List Int) (at_ k : Nat) (v : Value) (wr : World) : Prop :=
  wr.ownsRow w.heap.size 5 1 v k ((rdO xs at_ k).map (Value.int .u8)) ∧ QV wr g A c xs (at_ + 8 * k) 0 ∧ Fr g none w wr
theorem own_frq {w w' : World} {g : Nat} {base : Nat} {e : TypeId} {size : Nat} {v : Value} {n : Nat} {xs : List Value} (h : w.ownsRow base e size v n xs) (hf : Fr g none w w') (hg : g < base) : w'.ownsRow base e size v n xs :=
  own_kept h fun b hb => hf.2.2.2.2 b (h.lt b hb).2 (by have := (h.lt b hb).1; omega) (fun e => by cases e)
theorem rd_zero_more (xs : List Int) (at_ j T : Nat) (hj : j ≤ T) (h : at_ + T ≤ 8 * xs.length) (hz : rd xs at_ j ≠ 0) : rd xs at_ T ≠ 0 := by
  have e := rd_add xs at_ j (T - j) (by omega)
  rw [show j + (T - j) = T from by omega] at e
  have h1 := rd_range xs at_ j
  have h2 := rd_range xs (at_ + j) (T - j)
  have p := two_pos (T - j)
  have : 0 < rd xs at_ j * 2 ^ (T - j) := Int.mul_pos (by omega) p
  omega
section
variable {w : World} {g : Nat} {A : Option Addr} {c : Nat} {xs : List Int} {at_ : Nat} {f : Int}
set_option maxRecDepth 100000 in
set_option maxHeartbeats 2000000 in
theorem refOctetsNo_any (n : Int) (hR : QV w g A c xs at_ f) (hl : xs.length ≤ 10000000) (ha : at_ ≤ 8 * xs.length) (hno : f ≠ 0 ∨ ((8 * xs.length - at_) / 8 : Nat) < n) :
    Calls Try.prog 65 #[.pointer (some ⟨g, 0, none⟩), .int .i64 n] w (GivesQ w g A c xs at_ (if f = 0 then 3 else f) []) := by
  have hgl := hR.1.lt
  obtain ⟨hgc, hgf, _⟩ := hR.1.facts
  have hg2 : w.cell? ⟨g, 2, none⟩ = some (.int .i64 f) := hgc 2
  have HL := hide (refLeft_any hR hl ha)
  obtain ⟨T, hT⟩ : ∃ T : Nat, T = 8 * xs.length - at_ := ⟨_, rfl⟩
  rw [← hT] at HL hno
  have HR := hide hR
  by_cases hf : f = 0
  · subst hf
    rw [if_pos rfl]
    have hgt : (T : Int) / 8 < n := by rcases hno with h | h <;> omega
    have hn0 : 0 ≤ n := by omega
    have hn1 : ¬ (n < 0) := by omega
    have hTl : T ≤ 80000000 := by omega
    clear hR hno hT ha hgc
    go_enter Try.func65, Try.ntmps65
    go_wp2_with fail
    all_goals first
      | (exfalso; omega)
      | skip
    all_goals
      with_reducible refine (unhide HL).mono ?_
      rintro e w1 ⟨rfl, rfl⟩
      go_wp2
      go_ret
      exact ⟨none, 0, rfl, Holds.nil _, (unhide HR).drew.fault 3, (Fr.refl g none w).drew.setCell _ _ (.inl rfl)⟩
  · rw [if_neg hf]
    have e1 : (f != 0) = true := by rw [bne_iff_ne]; exact hf
    have e2 : (f == 0) = false := beq_eq_false_iff_ne.2 hf
    clear hR hno hf ha hgc hT
    go_enter Try.func65, Try.ntmps65
    go_wp2
    all_goals
      go_ret
      exact ⟨none, 0, rfl, Holds.nil _, unhide HR, Fr.refl _ _ _⟩

set_option maxRecDepth 100000 in
set_option maxHeartbeats 4000000 in
theorem refOctets_any (n : Int) (m : Nat) (hmx : max 0 n = (m : Int)) (hR : QV w g A c xs at_ 0) (hx : B8 xs) (hl : xs.length ≤ 10000000) (ha : at_ ≤ 8 * xs.length) (hyes : at_ + 8 * m ≤ 8 * xs.length) (hm6 : m ≤ 1000000) :
    Calls Try.prog 65 #[.pointer (some ⟨g, 0, none⟩), .int .i64 n] w (GivesQ w g A c xs (at_ + 8 * m) 0 (rdO xs at_ m)) := by
  obtain ⟨i0, hi0, hz0, hz1, hz2⟩ := info_parts u8_info
  have hgl := hR.1.lt
  obtain ⟨hgc, hgf, _⟩ := hR.1.facts
  have hg2 : w.cell? ⟨g, 2, none⟩ = some (.int .i64 0) := hgc 2
  have HL := hide (refLeft_any hR hl ha)
  obtain ⟨T, hT⟩ : ∃ T : Nat, T = 8 * xs.length - at_ := ⟨_, rfl⟩
  rw [← hT] at HL
  have HR := hide hR
  have HX := hide hx
  have HM := hide hmx
  have hTm : (m : Int) ≤ (T : Int) / 8 := by omega
  have hTl : T ≤ 80000000 := by omega
  have HYES := hide hyes
  clear hR hx hmx hT ha hgc hyes
  go_enter Try.func65, Try.ntmps65
  go_wp2_with fail
  all_goals (have hkk := unhide HM)
  all_goals first
    | (exfalso; omega)
    | skip
  all_goals
    with_reducible refine (unhide HL).mono ?_
    rintro e w1 ⟨rfl, rfl⟩
    first
      | (have q1 : ¬ (T : Int) / 8 < n := by omega)
      | skip
    first
      | (have q2 : ¬ (T : Int) / 8 < 0 := by omega)
      | skip
    clear hkk
    go_wp2
    go_loopw [5, 6] (fun v i wr => ∃ k : Nat, k ≤ m ∧ i = .int .i64 k ∧ RqRel w g A c xs at_ k v wr) (fun _ i _ => m - (intOf i).toNat)
    case atStart => exact ⟨0, Nat.zero_le _, rfl, by simpa [rdO] using World.ownsRow_nil _ _ _ _, (unhide HR).drew, (Fr.refl _ _ _).drew⟩
    case round =>
      obtain ⟨k, hk, rfl, hown, hq, hfr⟩ := hrel
      have hkk := unhide HM
      by_cases hlt : k < m
      · first
          | (exfalso; omega)
          | (
            have q3 : (k : Int) < n := by omega
            clear hkk
            obtain ⟨B, d, rfl, hd⟩ := own_form hown
            have e1 : rdVal xs (at_ + 8 * k) 0 8 = rd xs (at_ + 8 * k) 8 := if_pos ⟨rfl, by have := unhide HYES; omega⟩
            have e2 : rdAt (8 * xs.length) (at_ + 8 * k) 0 8 = at_ + 8 * (k + 1) := by unfold rdAt; rw [if_pos ⟨rfl, by have := unhide HYES; omega⟩]; omega
            have e3 : rdF (8 * xs.length) (at_ + 8 * k) 0 8 = 0 := by unfold rdF; rw [if_pos rfl, if_pos (by have := unhide HYES; omega)]
            have HC := hide (refBitsR_any 8 8 (by omega) hq (unhide HX) hl (by have := unhide HYES; omega))
            rw [e1, e2, e3] at HC
            have hrr := rd_range xs (at_ + 8 * k) 8
            rw [show (2 : Int) ^ 8 = 256 from by decide] at hrr
            have HS := hide (rdO_succ xs at_ k)
            have HOWN := hide hown
            have HFR := hide hfr
            clear hown hq hfr e1 e2 e3
            generalize rd xs (at_ + 8 * k) 8 = byte at *
            go_wp2_with fail
            with_reducible refine (unhide HC).mono ?_
            rintro e w2 ⟨rfl, hq2, hf2⟩
            have hown2 := (own_frq (unhide HOWN) hf2 hgl).alloc (.cells #[.int .u8 byte] 5)
            have hfr2 : Fr g none w w2 := (unhide HFR).trans hf2 (fun x e => by cases e)
            have hsz2 := hfr2.2.2.2.1
            have hnew : (w2.alloc (.cells #[.int .u8 byte] 5)).ownsRow w2.heap.size 5 1 (.slice (some ⟨w2.heap.size, 0, none⟩) 1 1) 1 [.int .u8 byte] := by
              simpa using World.ownsRow_lit (base := w2.heap.size) (e := 5) (size := 1) w2 #[.int .u8 byte] 1 (Nat.le_refl _) (by simp only [maxLen]; omega) (by simp)
            have HRD := hide (Reads.of_own hnew)
            have HOWN2 := hide hown2
            have HQ2 := hide hq2
            have HFR2 := hide hfr2
            have HLT := hide hown2.lt
            clear hown2 hnew hq2 hfr2 hf2
            go_wp2_with (at_builtin; refine wpList_append_any _ rfl (.tmp 27) (.tmp 31) _ rfl w.heap.size 5 i0 _ 1 1 Try.underlying23 hi0 hz0 hz1 hz2 rfl (by omega) _ k _ rfl (unhide HOWN2) _ _ 1 1 [.int .u8 byte] rfl (unhide HRD) (by intro u hu; simp at hu; subst hu; rfl) (by simp only [maxLen]; omega) (by omega) (by simp; omega) ?_; intro v' w3 hown3 hgr3 _hat3; have hkp3 : Keeps w2 w3 ∨ True := .inr trivial; have hfr3 := ((unhide HFR2).alloc (.cells #[.int .u8 byte] 5)).grown hgr3 (fun b e => .inr (unhide HLT b e).1); have hq3 : QV w3 g A c xs (at_ + 8 * (k + 1)) 0 := ⟨((unhide HQ2).1.alloc _).grown hgr3 (fun e => by have := (unhide HLT g e.symm).1; omega), (unhide HR).2.1.fr0 hfr3 (fun hl b e => ⟨(unhide HR).2.2 hl b e, fun h => by cases h⟩), (unhide HR).2.2⟩; have HOWN3 := hide hown3; have HFR3 := hide hfr3; have HQ3 := hide hq3; clear hown3 hgr3 _hat3 hfr3 hq3 hkp3)
            refine ⟨⟨k + 1, by omega, by go_num, ?_, unhide HQ3, unhide HFR3⟩, by simp [intOf]; omega⟩
            rw [unhide HS, List.map_append]
            exact unhide HOWN3)
      · obtain rfl : k = m := by omega
        first
          | (have q3 : ¬ (k : Int) < n := by omega)
          | skip
        first
          | (have q4 : ¬ (k : Int) < 0 := by omega)
          | skip
        clear hkk
        obtain ⟨B, d, rfl, hd⟩ := own_form hown
        have hh : Holds wr B (rdO xs at_ k) := by
          rcases hown.2 with ⟨e, hn⟩ | ⟨g2, cap, cur, e, _⟩
          · injection e with e1 e2 e3
            subst e1
            have : rdO xs at_ k = [] := List.eq_nil_of_length_eq_zero (by rw [rdO_length]; exact hn)
            rw [this]; exact Holds.nil _
          · injection e with e1 e2 e3
            subst e3
            have := Reads.of_own hown
            unfold Holds
            rw [rdO_length]
            exact this
        have HG := hide (show GivesQ w g A c xs (at_ + 8 * k) 0 (rdO xs at_ k) (.returned (.slice B k d)) wr from ⟨B, d, by rw [rdO_length], hh, hq, hfr⟩)
        clear hown hq hfr hh
        go_wp2
        go_ret
        exact unhide HG

set_option maxRecDepth 100000 in
set_option maxHeartbeats 1000000 in
theorem refEnd_any (hR : QV w g A c xs at_ f) (hx : B8 xs) (hl : xs.length ≤ 10000000) (ha : at_ ≤ 8 * xs.length) :
    Calls Try.prog 61 #[.pointer (some ⟨g, 0, none⟩)] w fun e w' => e = .returned (.int .i64 (endV xs at_ f)) ∧ Keeps w w' := by
  have hgl := hR.1.lt
  obtain ⟨hgc, hgf, _⟩ := hR.1.facts
  have hg2 : w.cell? ⟨g, 2, none⟩ = some (.int .i64 f) := hgc 2
  have hg1 : w.cell? ⟨g, 1, none⟩ = some (.int .i64 (at_ : Nat)) := hgc 1
  have hg0 : w.cell? ⟨g, 0, none⟩ = some (.slice A xs.length c) := hgc 0
  have HL := hide (refLeft_any hR hl ha)
  obtain ⟨T, hT⟩ : ∃ T : Nat, T = 8 * xs.length - at_ := ⟨_, rfl⟩
  rw [← hT] at HL
  have HR := hide hR
  by_cases hf : f = 0
  · subst hf
    have HV := hide (show endV xs at_ 0 = if 8 ≤ T then 4 else if rd xs at_ T ≠ 0 then 4 else 0 from by unfold endV; rw [if_neg (fun h => h rfl), hT])
    have hTl : T ≤ 80000000 := by omega
    have hat : at_ + T = 8 * xs.length := by omega
    have HAT := hide hat
    by_cases h8 : 8 ≤ T
    · rw [if_pos h8] at HV
      clear hR hT ha hat hgc
      go_enter Try.func61, Try.ntmps61
      go_wp2_with fail
      with_reducible refine (unhide HL).mono ?_
      rintro e w1 ⟨rfl, rfl⟩
      go_wp2
      go_ret
      rw [unhide HV]
      exact ⟨rfl, (Keeps.refl _).drew⟩
    · rw [if_neg h8] at HV
      have HX := hide hx
      clear hR hT ha hat hgc hx
      go_enter Try.func61, Try.ntmps61
      go_wp2_with fail
      with_reducible refine (unhide HL).mono ?_
      rintro e w1 ⟨rfl, rfl⟩
      go_wp2
      go_loopw [3] (fun i wr => ∃ j : Nat, j ≤ T ∧ i = .int .i64 (at_ + j : Nat) ∧ rd xs at_ j = 0 ∧ wr = w.drew) (fun i _ => 8 * xs.length - (intOf i).toNat)
      case atStart => exact ⟨0, Nat.zero_le _, rfl, rd_zero _ _, rfl⟩
      case round =>
        obtain ⟨j, hj, rfl, hz, rfl⟩ := hrel
        have HZ := hide hz
        clear hz
        by_cases hlt : j < T
        · have hP : at_ + j < 8 * xs.length := by have := unhide HAT; omega
          have HC := hide (refAt_any (at_ + j) (unhide HR).drew (unhide HX) hl hP)
          have hnext := rd_add xs at_ j 1 (by omega)
          rw [unhide HZ, Int.zero_mul, Int.zero_add] at hnext
          have HNX := hide hnext
          have HMO := hide (rd_zero_more xs at_ (j + 1) T (by omega) (by have := unhide HAT; omega))
          have HPP := hide (show at_ + (j + 1) = at_ + j + 1 from by omega)
          clear hnext
          generalize at_ + j = P at *
          by_cases hb : rd xs P 1 = 0
          · rw [hb] at HC HNX
            clear hb
            go_wp2_with fail
            with_reducible refine (unhide HC).mono ?_
            rintro e w2 ⟨rfl, hw2⟩
            rw [hw2]
            clear hw2
            go_wp2
            refine ⟨⟨j + 1, by omega, by rw [unhide HPP]; go_num, unhide HNX, trivial⟩, by simp [intOf]; omega⟩
          · have e1 : (rd xs P 1 != 0) = true := by rw [bne_iff_ne]; exact hb
            have e2 : (rd xs P 1 == 0) = false := beq_eq_false_iff_ne.2 hb
            have hne := unhide HMO (by rw [unhide HNX]; exact hb)
            rw [if_pos hne] at HV
            clear hb hne
            generalize rd xs P 1 = bit at *
            go_wp2_with fail
            with_reducible refine (unhide HC).mono ?_
            rintro e w2 ⟨rfl, hw2⟩
            rw [hw2]
            clear hw2
            go_wp2
            go_ret
            rw [unhide HV]
            exact ⟨rfl, (Keeps.refl _).drew⟩
        · obtain rfl : j = T := by omega
          rw [if_neg (fun h => h (unhide HZ))] at HV
          have hP : ¬ ((at_ + j : Nat) : Int) < 8 * (xs.length : Int) := by have := unhide HAT; omega
          generalize at_ + j = P at *
          go_wp2
          go_ret
          rw [unhide HV]
          exact ⟨rfl, (Keeps.refl _).drew⟩
  · have e1 : (f != 0) = true := by rw [bne_iff_ne]; exact hf
    have e2 : (f == 0) = false := beq_eq_false_iff_ne.2 hf
    have HV := hide (show endV xs at_ f = f from if_pos hf)
    clear hR hx ha hf hT hgc
    go_enter Try.func61, Try.ntmps61
    go_wp2
    go_ret
    rw [unhide HV]
    exact ⟨rfl, Keeps.refl _⟩
end
end Go.Proofs.Ytnbcehoddjcnoaa
