/- Bits that are read: numbers alone. -/
import Derived.Test.YtgaapigagglgbaaBitsSt
namespace Go.Proofs.Ytgaapigagglgbaa
open Go.ChangeShapes Go.WideShapes Go.ChangeAt Go.RowKit

/-- The number that octets are. -/
def bv (xs : List Int) : Int := appB 0 xs
theorem lo_bv (xs : List Int) (h : B8 xs) : lo xs.length (bv xs) = xs := by
  have := appB_lo xs 0 0 h
  simp only [Nat.zero_add, lo, List.nil_append] at this
  exact this.symm
theorem lo_getD (m : Nat) : ∀ (X : Int) (i : Nat), i < m → (lo m X).getD i 0 = X / 256 ^ (m - 1 - i) % 256 := by
  induction m with
  | zero => intro X i h; omega
  | succ m ih =>
    intro X i hi
    simp only [lo]
    rcases Nat.lt_or_ge i m with h | h
    · rw [List.getD_eq_getElem?_getD, List.getElem?_append_left (by rw [lo_length]; exact h), ← List.getD_eq_getElem?_getD, ih _ i h, Int.ediv_ediv_of_nonneg (by omega)]
      rw [show m + 1 - 1 - i = (m - 1 - i) + 1 from by omega, Int.pow_succ, Int.mul_comm]
    · obtain rfl : i = m := by omega
      simp [lo_length]
theorem bv_get (xs : List Int) (h : B8 xs) (i : Nat) (hi : i < xs.length) : bv xs / 256 ^ (xs.length - 1 - i) % 256 = xs.getD i 0 := by
  rw [← lo_getD xs.length (bv xs) i hi, lo_bv xs h]
/-- The number of the n bits from the place 'at' on. -/
def rd (xs : List Int) (at_ n : Nat) : Int := bv xs / 2 ^ (8 * xs.length - at_ - n) % 2 ^ n
theorem rd_zero (xs : List Int) (at_ : Nat) : rd xs at_ 0 = 0 := by unfold rd; rw [Int.pow_zero]; omega
theorem rd_range (xs : List Int) (at_ n : Nat) : 0 ≤ rd xs at_ n ∧ rd xs at_ n < 2 ^ n := ⟨Int.emod_nonneg _ (Int.ne_of_gt (two_pos n)), Int.emod_lt_of_pos _ (two_pos n)⟩
theorem mod_split (X a b : Int) (ha : 0 < a) : X % (a * b) = X / a % b * a + X % a := by
  rw [Int.emod_def X (a * b), Int.emod_def (X / a) b, Int.emod_def X a, ← Int.ediv_ediv_of_nonneg (Int.le_of_lt ha), Int.sub_mul, Int.mul_comm (X / a) a, Int.mul_assoc a b, Int.mul_comm (b * (X / a / b)) a]
  omega
theorem rd_add (xs : List Int) (at_ j k : Nat) (h : at_ + j + k ≤ 8 * xs.length) : rd xs at_ (j + k) = rd xs at_ j * 2 ^ k + rd xs (at_ + j) k := by
  unfold rd
  rw [show 8 * xs.length - at_ - (j + k) = 8 * xs.length - (at_ + j) - k from by omega, show 8 * xs.length - at_ - j = (8 * xs.length - (at_ + j) - k) + k from by omega]
  rw [Int.pow_add 2 (8 * xs.length - (at_ + j) - k) k, ← Int.ediv_ediv_of_nonneg (Int.le_of_lt (two_pos _))]
  generalize bv xs / 2 ^ (8 * xs.length - (at_ + j) - k) = X
  rw [Nat.add_comm j k, Int.pow_add]
  exact mod_split X _ _ (two_pos k)
theorem pow256 (j : Nat) : (256 : Int) ^ j = 2 ^ (8 * j) := by
  rw [show (256 : Int) = 2 ^ 8 from by decide, ← Int.pow_mul]
theorem low_piece (B : Int) (a k : Nat) (h : a + k ≤ 8) : B / 2 ^ a % 2 ^ k = B % 256 / 2 ^ a % 2 ^ k := by
  have e : (256 : Int) = 2 ^ a * (2 ^ k * 2 ^ (8 - a - k)) := by
    rw [← Int.pow_add, ← Int.pow_add, show a + (k + (8 - a - k)) = 8 from by omega]; decide
  have h1 : B = B % 256 + 2 ^ a * (2 ^ k * (2 ^ (8 - a - k) * (B / 256))) := by
    rw [← Int.mul_assoc (2 ^ k), ← Int.mul_assoc (2 ^ a), ← e]
    omega
  conv => lhs; rw [h1]
  rw [Int.add_mul_ediv_left _ _ (Int.ne_of_gt (two_pos a)), Int.add_mul_emod_self_left]
theorem rd_byte (xs : List Int) (h : B8 xs) (i room k : Nat) (hi : i < xs.length) (hr : room ≤ 8) (hk : k ≤ room) : rd xs (8 * i + (8 - room)) k = xs.getD i 0 / 2 ^ (room - k) % 2 ^ k := by
  unfold rd
  rw [show 8 * xs.length - (8 * i + (8 - room)) - k = 8 * (xs.length - 1 - i) + (room - k) from by omega, Int.pow_add, ← Int.ediv_ediv_of_nonneg (Int.le_of_lt (two_pos _)), ← pow256]
  rw [low_piece _ (room - k) k (by omega), bv_get xs h i hi]
theorem getD_range (xs : List Int) (h : B8 xs) (i : Nat) (hi : i < xs.length) : 0 ≤ xs.getD i 0 ∧ xs.getD i 0 ≤ 255 :=
  h _ (by rw [show xs.getD i 0 = xs[i] from by simp [hi]]; exact List.getElem_mem _)
theorem rd_octet (xs : List Int) (h : B8 xs) (i : Nat) (hi : i < xs.length) : rd xs (8 * i) 8 = xs.getD i 0 := by
  have := rd_byte xs h i 8 8 hi (by omega) (by omega)
  have h2 := getD_range xs h i hi
  rw [show 8 * i + (8 - 8) = 8 * i from by omega, Nat.sub_self, Int.pow_zero, Int.ediv_one, show (2 : Int) ^ 8 = 256 from by decide] at this
  omega
/-- n octets from the place 'at' on. -/
def rdO (xs : List Int) (at_ n : Nat) : List Int := (List.range n).map fun i => rd xs (at_ + 8 * i) 8
theorem rdO_length (xs : List Int) (at_ n : Nat) : (rdO xs at_ n).length = n := by simp [rdO]
theorem rdO_bytes (xs : List Int) (at_ n : Nat) : B8 (rdO xs at_ n) := by
  intro x hx
  simp only [rdO, List.mem_map] at hx
  obtain ⟨i, _, rfl⟩ := hx
  have := rd_range xs (at_ + 8 * i) 8
  rw [show (2 : Int) ^ 8 = 256 from by decide] at this
  omega
theorem rdO_succ (xs : List Int) (at_ n : Nat) : rdO xs at_ (n + 1) = rdO xs at_ n ++ [rd xs (at_ + 8 * n) 8] := by simp [rdO, List.range_succ]
theorem rdO_whole (xs : List Int) (h : B8 xs) (i n : Nat) (hi : i + n ≤ xs.length) : rdO xs (8 * i) n = (xs.drop i).take n := by
  induction n with
  | zero => simp [rdO]
  | succ n ih =>
    rw [rdO_succ, ih (by omega), show 8 * i + 8 * n = 8 * (i + n) from by omega, rd_octet xs h (i + n) (by omega)]
    rw [List.take_succ_eq_append_getElem (by simp; omega)]
    congr 1
    simp [show i + n < xs.length from by omega]
/-- One piece more: the numbers of the round. -/
theorem rd_round (xs : List Int) (at_ j k : Nat) (h : at_ + j + k ≤ 8 * xs.length) (h32 : j + k ≤ 32) :
    rd xs at_ j * 2 ^ k % 4294967296 = rd xs at_ j * 2 ^ k ∧ bits .or .u32 (rd xs at_ j * 2 ^ k) (rd xs (at_ + j) k) = rd xs at_ (j + k) := by
  have h1 := rd_range xs at_ (j + k)
  obtain ⟨a0, a1⟩ := rd_range xs at_ j
  obtain ⟨b0, b1⟩ := rd_range xs (at_ + j) k
  have he := rd_add xs at_ j k h
  have hp : (2 : Int) ^ (j + k) ≤ 4294967296 := by
    have := Nat.pow_le_pow_right (show 2 > 0 by omega) h32
    have h2 : ((2 ^ (j + k) : Nat) : Int) ≤ ((2 ^ 32 : Nat) : Int) := Int.ofNat_le.2 this
    rw [Int.natCast_pow] at h2
    exact h2
  have hm : 0 ≤ rd xs at_ j * 2 ^ k := Int.mul_nonneg a0 (Int.le_of_lt (two_pos k))
  refine ⟨Int.emod_eq_of_lt hm (by omega), ?_⟩
  have hs : rd xs at_ j * 2 ^ k + rd xs (at_ + j) k < 4294967296 := by rw [← he]; omega
  rw [he]
  clear he h1 hp
  generalize rd xs at_ j = x at *
  generalize rd xs (at_ + j) k = y at *
  obtain ⟨a, rfl⟩ := Int.eq_ofNat_of_zero_le a0
  obtain ⟨b, rfl⟩ := Int.eq_ofNat_of_zero_le b0
  have e1 : b < 2 ^ k := by
    have : ((b : Nat) : Int) < ((2 ^ k : Nat) : Int) := by rw [Int.natCast_pow]; exact b1
    omega
  have e2 : (a : Int) * 2 ^ k = ((a * 2 ^ k : Nat) : Int) := by rw [Int.natCast_mul, Int.natCast_pow]; rfl
  have hmod : a * 2 ^ k % 2 ^ k = 0 := by simp
  rw [e2] at hs hm ⊢
  clear e2
  generalize a * 2 ^ k = c at hs hm hmod ⊢
  rw [u32_or_nat _ _ (by omega) (by omega), nat_join k _ b hmod e1]
  omega
end Go.Proofs.Ytgaapigagglgbaa
