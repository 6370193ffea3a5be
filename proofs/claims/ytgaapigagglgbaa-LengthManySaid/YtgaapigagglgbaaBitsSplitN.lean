/- Bits that are written and read: numbers alone. -/
import Derived.Test.YtgaapigagglgbaaBitsRd0
namespace Go.Proofs.Ytgaapigagglgbaa
open Go.ChangeShapes Go.WideShapes Go.ChangeAt Go.RowKit

theorem appB_lo_eq (m : Nat) : ∀ (N X : Int), appB N (lo m X) = N * 256 ^ m + X % 256 ^ m := by
  induction m with
  | zero => intro N X; simp [lo, appB]
  | succ m ih =>
    intro N X
    simp only [lo]
    rw [appB_snoc, ih, show (256 : Int) ^ (m + 1) = 256 * 256 ^ m from by rw [Int.pow_succ, Int.mul_comm], mod_split X 256 (256 ^ m) (by omega), Int.add_mul, Int.mul_assoc N, Int.mul_comm (256 ^ m) 256]
    omega
theorem bv_lo (m : Nat) (X : Int) (h0 : 0 ≤ X) (h1 : X < 256 ^ m) : bv (lo m X) = X := by
  unfold bv
  rw [appB_lo_eq, Int.zero_mul, Int.zero_add, Int.emod_eq_of_lt h0 h1]
theorem bv_oct (N : Int) (n : Nat) (h0 : 0 ≤ N) (h1 : N < 2 ^ n) : bv (oct N n) = N * 2 ^ (8 * ((n + 7) / 8) - n) := by
  unfold oct
  have p := two_pos (8 * ((n + 7) / 8) - n)
  refine bv_lo _ _ (Int.mul_nonneg h0 (Int.le_of_lt p)) ?_
  rw [pow256]
  have := Int.mul_lt_mul_of_pos_right h1 p
  rw [← Int.pow_add, show n + (8 * ((n + 7) / 8) - n) = 8 * ((n + 7) / 8) from by omega] at this
  exact this
/-- What was written is read. -/
theorem rd_oct (N : Int) (n at_ k : Nat) (h0 : 0 ≤ N) (h1 : N < 2 ^ n) (h : at_ + k ≤ n) : rd (oct N n) at_ k = N / 2 ^ (n - at_ - k) % 2 ^ k := by
  unfold rd
  rw [bv_oct N n h0 h1, oct_length]
  have p := two_pos (8 * ((n + 7) / 8) - n)
  rw [show 8 * ((n + 7) / 8) - at_ - k = (8 * ((n + 7) / 8) - n) + (n - at_ - k) from by omega, Int.pow_add, ← Int.ediv_ediv_of_nonneg (Int.le_of_lt p), Int.mul_ediv_cancel _ (Int.ne_of_gt p)]
theorem tot_range (N v : Int) (n k : Nat) (h0 : 0 ≤ N) (h1 : N < 2 ^ n) : 0 ≤ tot N v k ∧ tot N v k < 2 ^ (n + k) := by
  have a := Int.emod_nonneg v (Int.ne_of_gt (two_pos k))
  have b := Int.emod_lt_of_pos v (two_pos k)
  have p := two_pos k
  unfold tot
  refine ⟨Int.add_nonneg (Int.mul_nonneg h0 (Int.le_of_lt p)) a, ?_⟩
  rw [Int.pow_add]
  have : (N + 1) * 2 ^ k ≤ 2 ^ n * 2 ^ k := Int.mul_le_mul_of_nonneg_right (by omega) (Int.le_of_lt p)
  rw [Int.add_mul] at this
  omega
theorem tot_parts (v : Int) (n at_ : Nat) (h : at_ ≤ n) : tot (tot 0 (v / 2 ^ (n - at_)) at_) v (n - at_) = tot 0 v n := by
  have e1 : tot 0 (v / 2 ^ (n - at_)) at_ = tot 0 v n / 2 ^ (n - at_) := by
    have := tot_step 0 v n n at_ h (Nat.le_refl _)
    rw [tot_start] at this
    unfold tot at this ⊢
    exact this
  have := tot_step 0 v n (n - at_) (n - at_) (Nat.le_refl _) (by omega)
  rw [Nat.sub_self, Int.pow_zero, Int.ediv_one, Int.ediv_one] at this
  rw [e1]
  exact this
theorem join64 (xs : List Int) (n at_ : Nat) (h : at_ ≤ n) (h32 : n ≤ 32) (hn : n ≤ 8 * xs.length) :
    rd xs 0 at_ * 2 ^ (n - at_) % 18446744073709551616 = rd xs 0 at_ * 2 ^ (n - at_) ∧ bits .or .u64 (rd xs 0 at_ * 2 ^ (n - at_)) (rd xs at_ (n - at_)) = rd xs 0 n := by
  have he := rd_add xs 0 at_ (n - at_) (by omega)
  rw [Nat.zero_add, show at_ + (n - at_) = n from by omega] at he
  have h1 := rd_range xs 0 n
  obtain ⟨a0, a1⟩ := rd_range xs 0 at_
  obtain ⟨b0, b1⟩ := rd_range xs at_ (n - at_)
  have hp : (2 : Int) ^ n ≤ 4294967296 := by
    have := Nat.pow_le_pow_right (show 2 > 0 by omega) h32
    have h2 : ((2 ^ n : Nat) : Int) ≤ ((2 ^ 32 : Nat) : Int) := Int.ofNat_le.2 this
    rw [Int.natCast_pow] at h2
    exact h2
  have hm : 0 ≤ rd xs 0 at_ * 2 ^ (n - at_) := Int.mul_nonneg a0 (Int.le_of_lt (two_pos _))
  refine ⟨Int.emod_eq_of_lt hm (by omega), ?_⟩
  have hs : rd xs 0 at_ * 2 ^ (n - at_) + rd xs at_ (n - at_) < 4294967296 := by rw [← he]; omega
  rw [he]
  clear he h1 hp
  generalize rd xs 0 at_ = x at *
  generalize rd xs at_ (n - at_) = y at *
  obtain ⟨a, rfl⟩ := Int.eq_ofNat_of_zero_le a0
  obtain ⟨b, rfl⟩ := Int.eq_ofNat_of_zero_le b0
  have e1 : b < 2 ^ (n - at_) := by
    have : ((b : Nat) : Int) < ((2 ^ (n - at_) : Nat) : Int) := by rw [Int.natCast_pow]; exact b1
    omega
  have e2 : (a : Int) * 2 ^ (n - at_) = ((a * 2 ^ (n - at_) : Nat) : Int) := by rw [Int.natCast_mul, Int.natCast_pow]; rfl
  have hmod : a * 2 ^ (n - at_) % 2 ^ (n - at_) = 0 := by simp
  rw [e2] at hs hm ⊢
  clear e2
  generalize a * 2 ^ (n - at_) = c at hs hm hmod ⊢
  rw [u64_or_nat _ _ (by omega) (by omega), nat_join (n - at_) _ b hmod e1]
  omega
end Go.Proofs.Ytgaapigagglgbaa
