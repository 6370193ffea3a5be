/- The reference's writer of layer 17. -/
import Derived.Test.YtgaapigagglgbaaWhS
import Derived.Test.YtgaapigagglgbaaRefW2
import Derived.Test.YtgaapigagglgbaaRefOct
namespace Go.Proofs.Ytgaapigagglgbaa
open Go.ChangeShapes Go.WideShapes Go.ChangeAt Go.RowKit

theorem and_one64 (v : Int) (q : Nat) (h0 : 0 ≤ v) (h1 : v ≤ 18446744073709551615) : bits .and .u64 (v / 2 ^ q) 1 = v / 2 ^ q % 2 := by
  have hq0 : 0 ≤ v / 2 ^ q := Int.ediv_nonneg h0 (Int.le_of_lt (two_pos q))
  have hq1 : v / 2 ^ q ≤ v := Int.ediv_le_self _ h0
  obtain ⟨x, hx⟩ := Int.eq_ofNat_of_zero_le hq0
  have := u64_and_nat x 1 (by omega) (by omega)
  rw [Nat.and_one_is_mod] at this
  rw [hx]
  simpa using this
theorem tot_bit (N b : Int) (h0 : 0 ≤ b) (h1 : b < 2) : tot N (if b = 0 then 0 else 1) 1 = N * 2 + b := by
  unfold tot
  rw [Int.pow_one]
  split <;> omega

theorem RSt.step {base : Nat} {w w1 w2 : World} {g : Nat} {A0 A1 : Option Addr} {N : Int} {n : Nat} (hf : Fr g (rowOf A0) w w1) (hm : Moved w A0 A1) (h : RSt base w1 g A1 N n w2) : RSt base w g A0 N n w2 := by
  obtain ⟨A, c, h1, h3, h4⟩ := h
  exact ⟨A, c, h1, hf.trans h3 hm.row, hm.trans hf.2.2.2.1 h4⟩
set_option maxRecDepth 100000 in
set_option maxHeartbeats 2000000 in
theorem xBits_st (v k : Int) (J : Nat) {base : Nat} {w wr0 : World} {g : Nat} {A0 : Option Addr} {N : Int} {n : Nat} (hS : RSt base w g A0 N n wr0) (hb : base ≤ w.heap.size) (hv0 : 0 ≤ v) (hv1 : v ≤ 18446744073709551615) (hJ : max 0 (min k 64) = (J : Int)) (hn : n ≤ 9000000) :
    Calls Try.prog 12 #[.pointer (some ⟨g, 0, none⟩), .int .u64 v, .int .i64 k] wr0 fun e w' => e = .returned (.tuple #[]) ∧ RSt base w g A0 (tot N v J) (n + J) w' := by
  have HS := hide (show RSt base w g A0 (tot N v J / 2 ^ J) (n + J - J) wr0 from by rw [tot_start, Nat.add_sub_cancel]; exact hS)
  have hJ64 : J ≤ 64 := by omega
  have HJ := hide hJ
  clear hS hJ
  go_enter Try.func12, Try.ntmps12
  go_wp2
  all_goals first
    | (exfalso; omega)
    | skip
  all_goals
    go_loopw [6] (fun i wr => ∃ (r : Nat) (z : Int), r ≤ J ∧ i = .int .i64 z ∧ Hid (z = (r : Int) - 1) ∧ RSt base w g A0 (tot N v J / 2 ^ r) (n + J - r) wr) (fun i _ => (intOf i + 1).toNat)
    case atStart => exact ⟨J, _, Nat.le_refl _, rfl, hide (by have := unhide HJ; omega), unhide HS⟩
    case round =>
      obtain ⟨r, z, hr, rfl, hz, hR⟩ := hrel
      by_cases h0 : 0 < r
      · obtain ⟨q, rfl⟩ : ∃ q, r = q + 1 := ⟨r - 1, by omega⟩
        obtain rfl : z = (q : Int) := by have := unhide hz; omega
        have hts := tot_step N v J (q + 1) 1 (by omega) hr
        rw [Nat.add_sub_cancel, show (2 : Int) ^ 1 = 2 from by decide] at hts
        have hb0 := Int.emod_nonneg (v / 2 ^ q) (show (2 : Int) ≠ 0 by omega)
        have hb1 := Int.emod_lt_of_pos (v / 2 ^ q) (show (0 : Int) < 2 by omega)
        have hand := and_one64 v q hv0 hv1
        have HB := hide (refBit_st (v / 2 ^ q % 2) hR hb (by omega))
        rw [tot_bit _ _ hb0 hb1, hts, show n + J - (q + 1) + 1 = n + J - q from by omega] at HB
        clear hR hts
        generalize v / 2 ^ q % 2 = b at *
        go_wp2_with fail
        with_reducible refine (unhide HB).mono ?_
        rintro e w3 ⟨rfl, hR⟩
        have HR := hide hR
        clear hR
        go_wp2
        exact ⟨⟨q, _, by omega, rfl, hide rfl, unhide HR⟩, by simp [intOf]⟩
      · have hzn : z < 0 := by have := unhide hz; omega
        obtain rfl : r = 0 := by omega
        have HR := hide hR
        clear hR h0 hr
        go_wp2
        go_end0
        have := unhide HR
        rw [Int.pow_zero, Int.ediv_one, Nat.sub_zero] at this
        exact ⟨rfl, this⟩
theorem xLen_st {base : Nat} {wr : World} {g : Nat} {N : Int} {n : Nat} (h : RWS base wr g N n) :
    Calls Try.prog 16 #[.pointer (some ⟨g, 0, none⟩)] wr fun e w' => e = .returned (.int .i64 (n : Nat)) ∧ w' = wr := by
  obtain ⟨A, c, h1, h2⟩ := h
  have hg0 : wr.cell? ⟨g, 0, none⟩ = some (.slice A n c) := h1.cell 0
  clear h1 h2
  go_enter Try.func16, Try.ntmps16
  go_wp2
  go_ret
  exact ⟨rfl, rfl⟩
theorem own_base {w : World} {base base' : Nat} {e : TypeId} {size : Nat} {v : Value} {n : Nat} {xs : List Value} (h : w.ownsRow base e size v n xs) (hb : base' ≤ base) : w.ownsRow base' e size v n xs := by
  refine ⟨h.1, ?_⟩
  rcases h.2 with hn | ⟨g, cap, cur, rfl, hbb, rest⟩
  · exact .inl hn
  · exact .inr ⟨g, cap, cur, rfl, Nat.le_trans hb hbb, rest⟩
theorem xBytes_st {base : Nat} {wr : World} {g : Nat} {N : Int} {n : Nat} (h : RWS base wr g N n) (hn : n ≤ 10000000) :
    Calls Try.prog 19 #[.pointer (some ⟨g, 0, none⟩)] wr (GivesBytes 5 (octW N n) wr) := by
  have HB := hide (refBytes_st h hn)
  have hol := oct_length N n
  have HW0 := hide (show n = 0 → octW N n = [0] from fun e => by unfold octW; rw [if_pos e])
  have HW1 := hide (show n ≠ 0 → octW N n = oct N n from fun e => by unfold octW; rw [if_neg e])
  clear h
  go_enter Try.func19, Try.ntmps19
  go_wp2_with fail
  with_reducible refine (unhide HB).mono ?_
  rintro e w1 ⟨A, c, rfl, hc, hf⟩
  have HF := hide hf
  have HC := hide hc
  clear hf hc
  by_cases h0 : n = 0
  · subst h0
    have HO := hide (World.ownsRow_lit (base := w1.heap.size) (e := 5) (size := 1) w1 #[.int .u8 0] 1 (Nat.le_refl _) (by simp only [maxLen]; omega) (by simp))
    have HK := hide ((unhide HF).2.alloc (.cells #[.int .u8 0] 5))
    rw [show (0 + 7) / 8 = 0 from rfl] at hol
    have HOL := hide hol
    rw [hol]
    clear hol
    go_wp2
    go_ret
    rw [unhide HW0 trivial]
    refine gives_of rfl (by simp) ?_ (unhide HK)
    have := unhide HO
    exact own_base (by simpa using this) (unhide HF).2.size
  · have hl0 : (oct N n).length ≠ 0 := by omega
    have HW2 := hide (unhide HW1 h0)
    clear hol
    generalize hl : (oct N n).length = l at *
    have HL := hide hl
    clear hl
    go_wp2
    go_ret
    rw [unhide HW2]
    exact ⟨A, c, (by rw [unhide HL]; rfl), (by rw [unhide HL]; exact unhide HC), (by rw [unhide HL]; exact unhide HF)⟩
set_option maxHeartbeats 1000000 in
theorem xOctets_any (xa : Option Addr) (xc l : Nat) (xs : List Int) {base : Nat} {wr : World} {g : Nat} {N : Int} {n c : Nat} {A : Option Addr} (hW : RefV base wr g N n A c) (hb : base ≤ wr.heap.size) (hl : xs.length = l) (hx : B8 xs)
    (hst : ∀ w', Fr g (rowOf A) wr w' → Holds w' xa xs) (hn : n + 8 * l ≤ 10000000) :
    Calls Try.prog 40 #[.pointer (some ⟨g, 0, none⟩), .slice xa l xc] wr fun e w' => e = .returned (.tuple #[]) ∧ RSt base wr g A (appB N xs) (n + 8 * l) w' := by
  subst hl
  have HO := refOctets_st (some ⟨wr.heap.size, 0, none⟩) [(xa, xc, xs)] 1 1 (base := base) (w := wr.alloc (.cells #[.slice xa xs.length xc] 28)) (g := g) (A0 := A) (N := N) (n := n) rfl
    (RSt.start (⟨hW.1.alloc _, hW.2.alloc _⟩ : RefV base (wr.alloc (.cells #[.slice xa xs.length xc] 28)) g N n A c)) (by rw [World.size_alloc]; omega)
    (fun w' hf => by
      have hB : Blk w' wr.heap.size 28 #[.slice xa xs.length xc] := fr_blk hf (Blk.new _ _ _) (by have := hW.1.lt; omega) (fun e => by have := (hW.row_lt _ e).2; omega)
      refine .inr ⟨wr.heap.size, 0, rfl, hB.lt, ?_⟩
      intro i q hq
      match i with
      | 0 =>
        simp at hq
        subst hq
        exact ⟨hB.cell 0, hst w' (((Fr.refl g (rowOf A) wr).alloc _).trans hf (fun x e => .inl e)), hx⟩
      | j + 1 => simp at hq)
    (by simpa [flat] using hn) (by omega)
  have HK := hide ((Fr.refl g (rowOf A) wr).alloc (.cells #[.slice xa xs.length xc] 28))
  clear hW hst
  have hfl : flat [((xa, xc, xs) : Part)] = xs := by simp [flat]
  rw [hfl] at HO
  have HO2 := hide HO
  clear HO hfl
  generalize xs.length = l at *
  go_enter Try.func40, Try.ntmps40
  go_wp2_with fail
  refine (unhide HO2).mono ?_
  rintro e w1 ⟨rfl, hR⟩
  have HF := hide hR
  clear hR
  go_wp2
  go_end0
  exact ⟨rfl, RSt.step (unhide HK) (.inl rfl) (unhide HF)⟩
theorem RefV.keeps_ {base : Nat} {w w' : World} {g : Nat} {N : Int} {n : Nat} {A : Option Addr} {c : Nat} (h : RefV base w g N n A c) (hk : Keeps w w') : RefV base w' g N n A c := ⟨h.1.keeps hk, own_keeps_ h.2 hk⟩
end Go.Proofs.Ytgaapigagglgbaa
