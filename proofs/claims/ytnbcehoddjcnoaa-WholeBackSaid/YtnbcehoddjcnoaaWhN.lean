/- Numbers of package whole: bits of 64, widths; the contracts of Width and of its reference. -/
import Derived.Test.YtnbcehoddjcnoaaBitsSplitN
import Derived.Test.YtnbcehoddjcnoaaShelf
import Derived.Test.YtnbcehoddjcnoaaRows
namespace Go.Proofs.Ytnbcehoddjcnoaa
open Go.ChangeShapes Go.WideShapes Go.ChangeAt Go.RowKit

theorem tot_mod (N v : Int) (j k : Nat) (h : k ≤ j) : tot N (v % 2 ^ j) k = tot N v k := by
  unfold tot
  rw [Int.emod_emod_of_dvd v (by rw [pow2_split k j h]; exact Int.dvd_mul_right _ _)]
theorem tot_none (N v : Int) : tot N v 0 = N := by unfold tot; simp
theorem tot_up (N v : Int) (r j : Nat) : tot N (v / 2 ^ r) j = tot N v (r + j) / 2 ^ r := by
  have := tot_step N v (r + j) (r + j) j (by omega) (Nat.le_refl _)
  rw [tot_start, Nat.add_sub_cancel] at this
  exact this
theorem tot_two (N v : Int) (r j : Nat) : tot (tot N (v / 2 ^ r) j) v r = tot N v (r + j) := by
  rw [tot_up]
  have := tot_step N v (r + j) r r (Nat.le_refl _) (by omega)
  rw [Nat.sub_self, Int.pow_zero, Int.ediv_one, Int.ediv_one] at this
  exact this
/-- 64 bits are 32 and 32. -/
theorem tot_64 (N v : Int) (J : Nat) : tot (tot N (v / 4294967296) (J - 32)) (v % 4294967296) (min J 32) = tot N v J := by
  rw [show (4294967296 : Int) = 2 ^ 32 from by decide, tot_mod _ _ 32 _ (by omega)]
  rcases Nat.le_total J 32 with h | h
  · rw [show J - 32 = 0 from by omega, tot_none, Nat.min_eq_left h]
  · rw [Nat.min_eq_right h, tot_two]
    rw [show 32 + (J - 32) = J from by omega]
theorem tot_one (N v : Int) (k : Nat) : tot N v (k + 1) = tot (tot N (v / 2) k) v 1 := by
  have := tot_two N v 1 k
  rw [Int.pow_one, Nat.add_comm] at this
  exact this.symm

theorem bitLen_up (f : Nat) : ∀ n, n < 2 ^ f → n < 2 ^ (Lib.bitLenAux f n) := by
  induction f with
  | zero => intro n hn; simp at hn; subst hn; simp [Lib.bitLenAux]
  | succ f ih =>
    intro n hn
    unfold Lib.bitLenAux
    split
    · subst_vars; simp
    · have := ih (n / 2) (by rw [Nat.pow_succ] at hn; omega)
      rw [Nat.pow_add]; omega
theorem bitLen_hi (n : Nat) (h : n ≤ 18446744073709551615) : n < 2 ^ Lib.bitLen n := bitLen_up 64 n (by omega)
theorem bitLen_64 (n : Nat) (h : n ≤ 18446744073709551615) : Lib.bitLen n ≤ 64 := Lib.bitLen_le n 64 (Nat.le_refl _) (by omega)
theorem bitLen_next (n : Nat) (h0 : n ≠ 0) (h : n < 18446744073709551616) : Lib.bitLen n = 1 + Lib.bitLen (n / 2) := Lib.bitLen_half n h0 h
theorem bitLen_zero : Lib.bitLen 0 = 0 := rfl

theorem width_any (n : Int) (w : World) (h0 : 0 ≤ n) (h1 : n ≤ 18446744073709551615) :
    Calls Try.prog 47 #[.int .u64 n] w fun e w' => e = .returned (.int .i64 (Lib.bitLen n.toNat)) ∧ w' = w := by
  go_enter Try.func47, Try.ntmps47
  go_wp2_with (go_at_call 76; refine (Try.bits_Len64 _ _ h0 h1).mono ?_; rintro e w1 ⟨rfl, rfl⟩)
  go_ret
  exact ⟨rfl, rfl⟩

set_option maxHeartbeats 400000 in
theorem refWidth_any (n : Int) (w : World) (h0 : 0 ≤ n) (h1 : n ≤ 18446744073709551615) :
    Calls Try.prog 42 #[.int .u64 n] w fun e w' => e = .returned (.int .i64 (Lib.bitLen n.toNat)) ∧ w' = w := by
  obtain ⟨N, rfl⟩ := Int.eq_ofNat_of_zero_le h0
  have hB := Lib.bitLen_le N 64 (Nat.le_refl _) (by omega)
  go_enter Try.func42, Try.ntmps42
  go_wp2
  go_loop [0, 3] (fun x y => ∃ k m : Nat, k ≤ N ∧ x = .int .u64 k ∧ y = .int .i64 m ∧ m + Lib.bitLen k = Lib.bitLen N) (fun x _ => (intOf x).toNat)
  case atStart => exact ⟨N, 0, Nat.le_refl _, rfl, rfl, by omega⟩
  case round =>
    obtain ⟨k, m, hk, rfl, rfl, hm⟩ := hrel
    have HM := hide hm
    have hm2 : m ≤ 64 := by omega
    clear hm
    by_cases hz : 0 < k
    · go_wp2
      go_round
      case rel => exact ⟨k / 2, m + 1, by omega, congrArg (Value.int IntKind.u64) (by omega), by go_num, by have := bitLen_next k (by omega) (by omega); have := unhide HM; omega⟩
      case measure => simp [intOf]; omega
    · obtain rfl : k = 0 := by omega
      go_wp2
      go_ret
      exact ⟨ret_int (by have := unhide HM; rw [bitLen_zero] at this; omega), rfl⟩
end Go.Proofs.Ytnbcehoddjcnoaa
