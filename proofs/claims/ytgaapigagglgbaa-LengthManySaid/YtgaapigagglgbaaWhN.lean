/- Numbers of package whole: bits of 64, widths; the contracts of Width and of its reference. -/
import Derived.Test.YtgaapigagglgbaaBitsSplitN
import Derived.Test.YtgaapigagglgbaaRows
namespace Go.Proofs.Ytgaapigagglgbaa
open Go.ChangeShapes Go.WideShapes Go.ChangeAt Go.RowKit

theorem tot_mod (N v : Int) (j k : Nat) (h : k ≤ j) : tot N (v % 2 ^ j) k = tot N v k := by
  unfold tot
  rw [Int.emod_emod_of_dvd v (by rw [pow2_split k j h]; exact Int.dvd_mul_right _ _)]
theorem tot_none (N v : Int) : tot N v 0 = N := by unfold tot; simp
theorem tot_up (N v : Int) (r j : Nat) : tot N (v / 2 ^ r) j = tot N v (r + j) / 2 ^ r := by
  have := tot_step N v (r + j) (r + j) j (by omega) (Nat.le_refl _)
  rw [tot_start, Nat.add_sub_cancel] at this
  exact this
theorem tot_two (N v : Int) (r j : Nat) : tot (tot N (v / 2 ^ r) j) v r = tot N v (r + j) := by
  rw [tot_up]
  have := tot_step N v (r + j) r r (Nat.le_refl _) (by omega)
  rw [Nat.sub_self, Int.pow_zero, Int.ediv_one, Int.ediv_one] at this
  exact this
/-- 64 bits are 32 and 32. -/
theorem tot_64 (N v : Int) (J : Nat) : tot (tot N (v / 4294967296) (J - 32)) (v % 4294967296) (min J 32) = tot N v J := by
  rw [show (4294967296 : Int) = 2 ^ 32 from by decide, tot_mod _ _ 32 _ (by omega)]
  rcases Nat.le_total J 32 with h | h
  · rw [show J - 32 = 0 from by omega, tot_none, Nat.min_eq_left h]
  · rw [Nat.min_eq_right h, tot_two]
    rw [show 32 + (J - 32) = J from by omega]
theorem tot_one (N v : Int) (k : Nat) : tot N v (k + 1) = tot (tot N (v / 2) k) v 1 := by
  have := tot_two N v 1 k
  rw [Int.pow_one, Nat.add_comm] at this
  exact this.symm

end Go.Proofs.Ytgaapigagglgbaa
