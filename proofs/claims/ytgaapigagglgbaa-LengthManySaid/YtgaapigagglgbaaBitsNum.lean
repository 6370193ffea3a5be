/- Bits that are appended: numbers alone. The writer's bits are a number N of n bits; its octets are lo m (N * 2 ^ room) with 8 * m = n + room. -/
import Derived.Test.YtgaapigagglgbaaLow
import Derived.Laws.BitsAllLaws
namespace Go.Proofs.Ytgaapigagglgbaa
open Go.ChangeShapes Go.WideShapes Go.ChangeAt Go.RowKit

theorem two_pos (k : Nat) : (0 : Int) < 2 ^ k := Int.pow_pos (by omega)
theorem pow2_le (k : Nat) (h : k ≤ 8) : (2 : Int) ^ k ≤ 256 := by
  have := (by decide +kernel : ∀ j : Fin 9, (2 : Int) ^ j.val ≤ 256) ⟨k, by omega⟩
  exact this
theorem pow2_split (j k : Nat) (h : j ≤ k) : (2 : Int) ^ k = 2 ^ j * 2 ^ (k - j) := by rw [← Int.pow_add, Nat.add_sub_cancel' h]
/-- The last octet, more added to it. -/
theorem lo_set_last (m : Nat) (hm : 0 < m) (X y : Int) (h0 : 0 ≤ y) (h1 : X % 256 + y < 256) : (lo m X).set (m - 1) (X % 256 + y) = lo m (X + y) := by
  cases m with
  | zero => omega
  | succ m =>
    have e1 : (X + y) / 256 = X / 256 := by omega
    have e2 : (X + y) % 256 = X % 256 + y := by omega
    simp only [lo, Nat.add_sub_cancel, e1, e2]
    rw [List.set_append, if_neg (by rw [lo_length]; omega), lo_length]
    simp
theorem lo_last (m : Nat) (hm : 0 < m) (X : Int) : (lo m X).getD (m - 1) 0 = X % 256 := by
  cases m with
  | zero => omega
  | succ m => simp [lo, lo_length]
theorem lo_zero_more (m : Nat) (X : Int) : lo m X ++ [0] = lo (m + 1) (X * 256) := by
  simp only [lo]
  rw [show X * 256 / 256 = X from by omega, show X * 256 % 256 = 0 from by omega]
/-- What stands below room bits is free. -/
theorem room_free (N p : Int) (room k : Nat) (hr : room ≤ 8) (hk : k ≤ room) (h0 : 0 ≤ p) (h1 : p < 2 ^ k) :
    0 ≤ p * 2 ^ (room - k) ∧ p * 2 ^ (room - k) < 2 ^ room ∧ (N * 2 ^ room) % 256 + p * 2 ^ (room - k) < 256 ∧ (N * 2 ^ room) % 256 % 2 ^ room = 0 ∧ N * 2 ^ room + p * 2 ^ (room - k) = (N * 2 ^ k + p) * 2 ^ (room - k) := by
  have e1 := pow2_split k room hk
  have p1 := two_pos k
  have p2 := two_pos (room - k)
  have hlt : p * 2 ^ (room - k) < 2 ^ room := by
    rw [e1]; exact Int.mul_lt_mul_of_pos_right h1 p2
  have e2 : (256 : Int) = 2 ^ room * 2 ^ (8 - room) := by
    have := pow2_split room 8 hr
    omega
  have p3 := two_pos room
  have p4 := two_pos (8 - room)
  have hm : (N * 2 ^ room) % 256 = 2 ^ room * (N % 2 ^ (8 - room)) := by
    rw [e2, Int.mul_comm N, Int.mul_emod_mul_of_pos _ _ p3]
  have hb := Int.emod_lt_of_pos N p4
  have hb0 := Int.emod_nonneg N (Int.ne_of_gt p4)
  refine ⟨Int.mul_nonneg h0 (Int.le_of_lt p2), hlt, ?_, ?_, ?_⟩
  · rw [hm]
    have : 2 ^ room * (N % 2 ^ (8 - room)) ≤ 2 ^ room * (2 ^ (8 - room) - 1) := Int.mul_le_mul_of_nonneg_left (by omega) (Int.le_of_lt p3)
    rw [Int.mul_sub, ← e2] at this
    omega
  · rw [hm]; exact Int.mul_emod_right _ _
  · rw [e1, Int.add_mul, Int.mul_assoc]

/-- All bits: those that were there, and the K lowest of v. -/
def tot (N0 v : Int) (K : Nat) : Int := N0 * 2 ^ K + v % 2 ^ K
theorem tot_start (N0 v : Int) (K : Nat) : tot N0 v K / 2 ^ K = N0 := by
  have p := two_pos K
  have h0 := Int.emod_nonneg v (Int.ne_of_gt p)
  have h1 := Int.emod_lt_of_pos v p
  unfold tot
  rw [Int.add_comm, Int.add_mul_ediv_right _ _ (Int.ne_of_gt p), Int.ediv_eq_zero_of_lt h0 h1, Int.zero_add]
theorem tot_step (N0 v : Int) (K r k : Nat) (hk : k ≤ r) (hr : r ≤ K) : tot N0 v K / 2 ^ r * 2 ^ k + v / 2 ^ (r - k) % 2 ^ k = tot N0 v K / 2 ^ (r - k) := by
  have pj := two_pos (r - k)
  have e1 : tot N0 v K / 2 ^ r = tot N0 v K / 2 ^ (r - k) / 2 ^ k := by
    rw [Int.ediv_ediv_of_nonneg (Int.le_of_lt pj), ← Int.pow_add, Nat.sub_add_cancel hk]
  have e2 : tot N0 v K = v + 2 ^ (r - k) * (2 ^ (K - (r - k)) * (N0 - v / 2 ^ K)) := by
    rw [← Int.mul_assoc, ← pow2_split (r - k) K (by omega)]
    unfold tot
    rw [Int.emod_def, Int.mul_sub, Int.mul_comm N0]
    omega
  have e3 : tot N0 v K / 2 ^ (r - k) = v / 2 ^ (r - k) + 2 ^ (K - (r - k)) * (N0 - v / 2 ^ K) := by
    rw [e2, Int.add_mul_ediv_left _ _ (Int.ne_of_gt pj)]
  have e4 : tot N0 v K / 2 ^ (r - k) % 2 ^ k = v / 2 ^ (r - k) % 2 ^ k := by
    rw [e3, pow2_split k (K - (r - k)) (by omega), Int.mul_assoc]
    exact Int.add_mul_emod_self_left _ _ _
  rw [← e4, e1, Int.mul_comm]
  exact Int.mul_ediv_add_emod _ _

end Go.Proofs.Ytgaapigagglgbaa
