/- The reference's writer of layer 17. -/
import Derived.Test.YtnbcehoddjcnoaaWhS
import Derived.Test.YtnbcehoddjcnoaaRefW2
import Derived.Test.YtnbcehoddjcnoaaRefOct
namespace Go.Proofs.Ytnbcehoddjcnoaa
open Go.ChangeShapes Go.WideShapes Go.ChangeAt Go.RowKit

theorem and_one64 (v : Int) (q : Nat) (h0 : 0 ≤ v) (h1 : v ≤ 18446744073709551615) : bits .and .u64 (v / 2 ^ q) 1 = v / 2 ^ q % 2 := by
  have hq0 : 0 ≤ v / 2 ^ q := Int.ediv_nonneg h0 (Int.le_of_lt (two_pos q))
  have hq1 : v / 2 ^ q ≤ v := Int.ediv_le_self _ h0
  obtain ⟨x, hx⟩ := Int.eq_ofNat_of_zero_le hq0
  have := u64_and_nat x 1 (by omega) (by omega)
  rw [Nat.and_one_is_mod] at this
  rw [hx]
  simpa using this
theorem tot_bit (N b : Int) (h0 : 0 ≤ b) (h1 : b < 2) : tot N (if b = 0 then 0 else 1) 1 = N * 2 + b := by
  unfold tot
  rw [Int.pow_one]
  split <;> omega

theorem RSt.step {base : Nat} {w w1 w2 : World} {g : Nat} {A0 A1 : Option Addr} {N : Int} {n : Nat} (hf : Fr g (rowOf A0) w w1) (hm : Moved w A0 A1) (h : RSt base w1 g A1 N n w2) : RSt base w g A0 N n w2 := by
  obtain ⟨A, c, h1, h3, h4⟩ := h
  exact ⟨A, c, h1, hf.trans h3 hm.row, hm.trans hf.2.2.2.1 h4⟩
set_option maxRecDepth 100000 in
set_option maxHeartbeats 2000000 in
theorem xBits_st (v k : Int) (J : Nat) {base : Nat} {w wr0 : World} {g : Nat} {A0 : Option Addr} {N : Int} {n : Nat} (hS : RSt base w g A0 N n wr0) (hb : base ≤ w.heap.size) (hv0 : 0 ≤ v) (hv1 : v ≤ 18446744073709551615) (hJ : max 0 (min k 64) = (J : Int)) (hn : n ≤ 9000000) :
    Calls Try.prog 20 #[.pointer (some ⟨g, 0, none⟩), .int .u64 v, .int .i64 k] wr0 fun e w' => e = .returned (.tuple #[]) ∧ RSt base w g A0 (tot N v J) (n + J) w' := by
  have HS := hide (show RSt base w g A0 (tot N v J / 2 ^ J) (n + J - J) wr0 from by rw [tot_start, Nat.add_sub_cancel]; exact hS)
  have hJ64 : J ≤ 64 := by omega
  have HJ := hide hJ
  clear hS hJ
  go_enter Try.func20, Try.ntmps20
  go_wp2
  all_goals first
    | (exfalso; omega)
    | skip
  all_goals
    go_loopw [6] (fun i wr => ∃ (r : Nat) (z : Int), r ≤ J ∧ i = .int .i64 z ∧ Hid (z = (r : Int) - 1) ∧ RSt base w g A0 (tot N v J / 2 ^ r) (n + J - r) wr) (fun i _ => (intOf i + 1).toNat)
    case atStart => exact ⟨J, _, Nat.le_refl _, rfl, hide (by have := unhide HJ; omega), unhide HS⟩
    case round =>
      obtain ⟨r, z, hr, rfl, hz, hR⟩ := hrel
      by_cases h0 : 0 < r
      · obtain ⟨q, rfl⟩ : ∃ q, r = q + 1 := ⟨r - 1, by omega⟩
        obtain rfl : z = (q : Int) := by have := unhide hz; omega
        have hts := tot_step N v J (q + 1) 1 (by omega) hr
        rw [Nat.add_sub_cancel, show (2 : Int) ^ 1 = 2 from by decide] at hts
        have hb0 := Int.emod_nonneg (v / 2 ^ q) (show (2 : Int) ≠ 0 by omega)
        have hb1 := Int.emod_lt_of_pos (v / 2 ^ q) (show (0 : Int) < 2 by omega)
        have hand := and_one64 v q hv0 hv1
        have HB := hide (refBit_st (v / 2 ^ q % 2) hR hb (by omega))
        rw [tot_bit _ _ hb0 hb1, hts, show n + J - (q + 1) + 1 = n + J - q from by omega] at HB
        clear hR hts
        generalize v / 2 ^ q % 2 = b at *
        go_wp2_with fail
        with_reducible refine (unhide HB).mono ?_
        rintro e w3 ⟨rfl, hR⟩
        have HR := hide hR
        clear hR
        go_wp2
        exact ⟨⟨q, _, by omega, rfl, hide rfl, unhide HR⟩, by simp [intOf]⟩
      · have hzn : z < 0 := by have := unhide hz; omega
        obtain rfl : r = 0 := by omega
        have HR := hide hR
        clear hR h0 hr
        go_wp2
        go_end0
        have := unhide HR
        rw [Int.pow_zero, Int.ediv_one, Nat.sub_zero] at this
        exact ⟨rfl, this⟩
set_option maxHeartbeats 1000000 in
theorem xBetween_st (v s : Int) {base : Nat} {w wr : World} {g : Nat} {A0 : Option Addr} {N : Int} {n : Nat} (hS : RSt base w g A0 N n wr) (hb : base ≤ w.heap.size) (hv0 : 0 ≤ v) (hv1 : v ≤ 18446744073709551615) (hs0 : 0 ≤ s) (hs1 : s ≤ 18446744073709551615) (hn : n ≤ 9000000) :
    Calls Try.prog 16 #[.pointer (some ⟨g, 0, none⟩), .int .u64 v, .int .u64 s] wr fun e w' => e = .returned (.tuple #[]) ∧ RSt base w g A0 (tot N (min v s) (Lib.bitLen s.toNat)) (n + Lib.bitLen s.toNat) w' := by
  have h64 := bitLen_64 s.toNat (by omega)
  have H := hide fun (x : Int) (h0 : 0 ≤ x) (h1 : x ≤ 18446744073709551615) => xBits_st x (Lib.bitLen s.toNat : Nat) (Lib.bitLen s.toNat) hS hb h0 h1 (by omega) hn
  have HW := hide (fun w => refWidth_any s w hs0 hs1)
  clear hS
  generalize Lib.bitLen s.toNat = L at *
  go_enter Try.func16, Try.ntmps16
  go_wp2_with (go_at_call 42; refine (unhide HW _).mono ?_; rintro e w1 ⟨rfl, hw1⟩; rw [hw1]; clear hw1)
  all_goals
    refine (unhide H _ (by omega) (by omega)).mono ?_
    rintro e w1 ⟨rfl, hR⟩
    have HF := hide hR
    clear hR
    go_wp2
    go_end0
    refine ⟨rfl, ?_⟩
    exact unhide HF
theorem xLen_st {base : Nat} {wr : World} {g : Nat} {N : Int} {n : Nat} (h : RWS base wr g N n) :
    Calls Try.prog 22 #[.pointer (some ⟨g, 0, none⟩)] wr fun e w' => e = .returned (.int .i64 (n : Nat)) ∧ w' = wr := by
  obtain ⟨A, c, h1, h2⟩ := h
  have hg0 : wr.cell? ⟨g, 0, none⟩ = some (.slice A n c) := h1.cell 0
  clear h1 h2
  go_enter Try.func22, Try.ntmps22
  go_wp2
  go_ret
  exact ⟨rfl, rfl⟩
theorem own_base {w : World} {base base' : Nat} {e : TypeId} {size : Nat} {v : Value} {n : Nat} {xs : List Value} (h : w.ownsRow base e size v n xs) (hb : base' ≤ base) : w.ownsRow base' e size v n xs := by
  refine ⟨h.1, ?_⟩
  rcases h.2 with hn | ⟨g, cap, cur, rfl, hbb, rest⟩
  · exact .inl hn
  · exact .inr ⟨g, cap, cur, rfl, Nat.le_trans hb hbb, rest⟩
theorem xBytes_st {base : Nat} {wr : World} {g : Nat} {N : Int} {n : Nat} (h : RWS base wr g N n) (hn : n ≤ 10000000) :
    Calls Try.prog 23 #[.pointer (some ⟨g, 0, none⟩)] wr (GivesBytes 5 (octW N n) wr) := by
  have HB := hide (refBytes_st h hn)
  have hol := oct_length N n
  have HW0 := hide (show n = 0 → octW N n = [0] from fun e => by unfold octW; rw [if_pos e])
  have HW1 := hide (show n ≠ 0 → octW N n = oct N n from fun e => by unfold octW; rw [if_neg e])
  clear h
  go_enter Try.func23, Try.ntmps23
  go_wp2_with fail
  with_reducible refine (unhide HB).mono ?_
  rintro e w1 ⟨A, c, rfl, hc, hf⟩
  have HF := hide hf
  have HC := hide hc
  clear hf hc
  by_cases h0 : n = 0
  · subst h0
    have HO := hide (World.ownsRow_lit (base := w1.heap.size) (e := 5) (size := 1) w1 #[.int .u8 0] 1 (Nat.le_refl _) (by simp only [maxLen]; omega) (by simp))
    have HK := hide ((unhide HF).2.alloc (.cells #[.int .u8 0] 5))
    rw [show (0 + 7) / 8 = 0 from rfl] at hol
    have HOL := hide hol
    rw [hol]
    clear hol
    go_wp2
    go_ret
    rw [unhide HW0 trivial]
    refine gives_of rfl (by simp) ?_ (unhide HK)
    have := unhide HO
    exact own_base (by simpa using this) (unhide HF).2.size
  · have hl0 : (oct N n).length ≠ 0 := by omega
    have HW2 := hide (unhide HW1 h0)
    clear hol
    generalize hl : (oct N n).length = l at *
    have HL := hide hl
    clear hl
    go_wp2
    go_ret
    rw [unhide HW2]
    exact ⟨A, c, (by rw [unhide HL]; rfl), (by rw [unhide HL]; exact unhide HC), (by rw [unhide HL]; exact unhide HF)⟩
set_option maxHeartbeats 1000000 in
theorem xOctets_any (xa : Option Addr) (xc l : Nat) (xs : List Int) {base : Nat} {wr : World} {g : Nat} {N : Int} {n c : Nat} {A : Option Addr} (hW : RefV base wr g N n A c) (hb : base ≤ wr.heap.size) (hl : xs.length = l) (hx : B8 xs)
    (hst : ∀ w', Fr g (rowOf A) wr w' → Holds w' xa xs) (hn : n + 8 * l ≤ 10000000) :
    Calls Try.prog 13 #[.pointer (some ⟨g, 0, none⟩), .slice xa l xc] wr fun e w' => e = .returned (.tuple #[]) ∧ RSt base wr g A (appB N xs) (n + 8 * l) w' := by
  subst hl
  have HO := refOctets_st (some ⟨wr.heap.size, 0, none⟩) [(xa, xc, xs)] 1 1 (base := base) (w := wr.alloc (.cells #[.slice xa xs.length xc] 23)) (g := g) (A0 := A) (N := N) (n := n) rfl
    (RSt.start (⟨hW.1.alloc _, hW.2.alloc _⟩ : RefV base (wr.alloc (.cells #[.slice xa xs.length xc] 23)) g N n A c)) (by rw [World.size_alloc]; omega)
    (fun w' hf => by
      have hB : Blk w' wr.heap.size 23 #[.slice xa xs.length xc] := fr_blk hf (Blk.new _ _ _) (by have := hW.1.lt; omega) (fun e => by have := (hW.row_lt _ e).2; omega)
      refine .inr ⟨wr.heap.size, 0, rfl, hB.lt, ?_⟩
      intro i q hq
      match i with
      | 0 =>
        simp at hq
        subst hq
        exact ⟨hB.cell 0, hst w' (((Fr.refl g (rowOf A) wr).alloc _).trans hf (fun x e => .inl e)), hx⟩
      | j + 1 => simp at hq)
    (by simpa [flat] using hn) (by omega)
  have HK := hide ((Fr.refl g (rowOf A) wr).alloc (.cells #[.slice xa xs.length xc] 23))
  clear hW hst
  have hfl : flat [((xa, xc, xs) : Part)] = xs := by simp [flat]
  rw [hfl] at HO
  have HO2 := hide HO
  clear HO hfl
  generalize xs.length = l at *
  go_enter Try.func13, Try.ntmps13
  go_wp2_with fail
  refine (unhide HO2).mono ?_
  rintro e w1 ⟨rfl, hR⟩
  have HF := hide hR
  clear hR
  go_wp2
  go_end0
  exact ⟨rfl, RSt.step (unhide HK) (.inl rfl) (unhide HF)⟩
theorem RefV.keeps_ {base : Nat} {w w' : World} {g : Nat} {N : Int} {n : Nat} {A : Option Addr} {c : Nat} (h : RefV base w g N n A c) (hk : Keeps w w') : RefV base w' g N n A c := ⟨h.1.keeps hk, own_keeps_ h.2 hk⟩
set_option maxHeartbeats 1000000 in
theorem xSmall_st (x m : Int) (hm : max 0 x = m) {base : Nat} {w wr : World} {g : Nat} {A0 : Option Addr} {N : Int} {n : Nat} (hS : RSt base w g A0 N n wr) (hb : base ≤ w.heap.size) (h1 : m ≤ 9223372036854775807) (hn : n ≤ 8000000) :
    Calls Try.prog 18 #[.pointer (some ⟨g, 0, none⟩), .int .i64 x] wr fun e w' => e = .returned (.tuple #[]) ∧ RSt base w g A0 (smN N m) (n + smL m) w' := by
  have hbw := hS.fr.2.2.2.1
  by_cases hlt : m < 64
  · have hm0 : 0 ≤ m := by omega
    have H1 := hide (xBits_st m 7 7 hS hb hm0 (by omega) (by omega) (by omega))
    have hs : smN N m = tot N m 7 := by
      unfold smN
      rw [if_pos hlt]
      have h2 := tot_two N m 6 1
      have h3 : tot N (m / 2 ^ 6) 1 = tot N 0 1 := by rw [show m / 2 ^ 6 = 0 from Int.ediv_eq_zero_of_lt hm0 (by omega)]
      rw [h3] at h2
      exact h2
    have hl : smL m = 7 := by unfold smL; rw [if_pos hlt]
    rw [hs, hl]
    clear hS hs hl
    go_enter Try.func18, Try.ntmps18
    go_wp2_with fail
    refine (unhide H1).mono ?_
    rintro e w1 ⟨rfl, hR⟩
    have HF := hide hR
    clear hR
    go_wp2
    refine bodyPost_ret (results_none rfl _ _ _) rfl ?_
    exact ⟨rfl, unhide HF⟩
  · have hx0 : 0 ≤ m := by omega
    have hl8 := (uLen_le m).2
    obtain ⟨A, c, hW, hf, hmv⟩ := hS
    have HU := hide (refUnsigned_any m hx0 (by omega) wr)
    have HC : Hid (∀ (xa : Option Addr) (xc : Nat) (w1 : World), Fresh 5 wr w1 (.slice xa (uOct m).length xc) (uOct m) → ∀ w3 : World, RSt base w1 g A (tot (tot N 1 1) (uLen m) 8) (n + 1 + 8) w3 →
        Calls Try.prog 13 #[.pointer (some ⟨g, 0, none⟩), .slice xa (uLen m) xc] w3 fun e w' => e = .returned (.tuple #[]) ∧ RSt base w g A0 (appB (tot (tot N 1 1) (uLen m) 8) (uOct m)) (n + 1 + 8 + 8 * uLen m) w') := by
      intro xa xc w1 hF w3 h3
      obtain ⟨A3, c3, hW3, hf3, hm3⟩ := h3
      have hr1 : ∀ b, rowOf A = some b → b < wr.heap.size := fun b e => (hW.row_lt b e).2
      have hg1 : g < wr.heap.size := hW.1.lt
      have := xOctets_any xa xc (uLen m) (uOct m) hW3 (Nat.le_trans hb (Nat.le_trans hbw (Nat.le_trans hF.2.size hf3.2.2.2.1))) (uOct_length m) (uOct_bytes m)
        (fun w' hf4 => by
          have hfa := hf3.trans hf4 hm3.row
          exact Reads.of_own (own_fr hF.1 hfa hg1 hr1)) (by omega)
      refine this.mono ?_
      rintro e w4 ⟨rfl, h4⟩
      exact ⟨rfl, RSt.step (hf.keeps hF.2) hmv (RSt.step hf3 hm3 h4)⟩
    have HB := hide fun (w1 : World) (h : Keeps wr w1) => xBits_st 1 1 1 (RSt.start (hW.keeps_ h)) (Nat.le_trans hb (Nat.le_trans hbw h.size)) (by omega) (by omega) (by omega) (by omega)
    have HB2 := hide fun (w1 : World) (h : Keeps wr w1) (w2 : World) (h2 : RSt base w1 g A (tot N 1 1) (n + 1) w2) => xBits_st (uLen m : Nat) 8 8 h2 (Nat.le_trans hb (Nat.le_trans hbw h.size)) (by omega) (by omega) (by omega) (by omega)
    unfold smN smL
    rw [if_neg hlt, if_neg hlt, show n + (9 + 8 * uLen m) = n + 1 + 8 + 8 * uLen m from by omega]
    clear hW hf hmv
    go_enter Try.func18, Try.ntmps18
    go_wp2_with fail
    refine (unhide HU).mono ?_
    rintro e w1 ⟨xa, xc, rfl, hc, hf⟩
    have HB3 := hide (unhide HB _ hf.2)
    have HB4 := hide (unhide HB2 _ hf.2)
    have HC2 := hide (unhide HC xa xc _ hf)
    clear hc hf HB HB2 HC
    rw [uOct_length] at *
    generalize hL : uLen m = L at *
    have HL := hide hL
    clear hL
    go_wp2_with fail
    refine (unhide HB3).mono ?_
    rintro e w2 ⟨rfl, hR⟩
    have HB5 := hide (unhide HB4 _ hR)
    clear hR
    go_wp2_with fail
    refine (unhide HB5).mono ?_
    rintro e w3 ⟨rfl, hR⟩
    have HC3 := hide (unhide HC2 _ hR)
    clear hR
    go_wp2_with fail
    refine (unhide HC3).mono ?_
    rintro e w4 ⟨rfl, hR⟩
    have HF := hide hR
    clear hR
    go_wp2
    go_end0
    have := unhide HF
    rw [← unhide HL] at this
    exact ⟨rfl, this⟩
end Go.Proofs.Ytnbcehoddjcnoaa
