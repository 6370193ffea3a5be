/- Plain facts: of two numbers the lesser one has no more octets, and of as many is the lesser text. -/
import Derived.Test.YtpogpjnbgdbpfaaCmp
import Derived.Test.YtpogpjnbgdbpfaaNum
namespace Go.Proofs.Ytpogpjnbgdbpfaa

def cmpZ (a b : Int) : Int := if a < b then -1 else if b < a then 1 else 0
theorem cmp_snoc : ∀ (xs ys : List Int) (x y : Int), xs.length = ys.length → cmpI (xs ++ [x]) (ys ++ [y]) = if cmpI xs ys = 0 then cmpZ x y else cmpI xs ys
  | [], [], x, y, _ => by simp [cmpI, cmpZ]
  | [], _ :: _, _, _, h => by simp at h
  | _ :: _, [], _, _, h => by simp at h
  | a :: xs, b :: ys, x, y, h => by
    simp only [List.cons_append, cmpI]
    rw [cmp_snoc xs ys x y (by simpa using h)]
    by_cases h1 : a < b
    · simp [h1]
    · by_cases h2 : b < a
      · simp [h1, h2]
      · simp [h1, h2]
theorem lo_cmp (k : Nat) : ∀ a b : Int, 0 ≤ a → 0 ≤ b → a < 256 ^ k → b < 256 ^ k → cmpI (lo k a) (lo k b) = cmpZ a b := by
  induction k with
  | zero =>
    intro a b h1 h2 h3 h4
    have : (256 : Int) ^ 0 = 1 := rfl
    obtain rfl : a = 0 := by omega
    obtain rfl : b = 0 := by omega
    rfl
  | succ k ih =>
    intro a b h1 h2 h3 h4
    rw [Int.pow_succ] at h3 h4
    rw [lo, lo, cmp_snoc _ _ _ _ (by rw [lo_length, lo_length]), ih (a / 256) (b / 256) (by omega) (by omega) (by omega) (by omega)]
    unfold cmpZ
    by_cases c1 : a / 256 < b / 256
    · rw [if_pos c1, if_neg (by omega), if_pos (by omega)]
    · by_cases c2 : b / 256 < a / 256
      · rw [if_neg c1, if_pos c2, if_neg (by omega), if_neg (by omega), if_pos (by omega)]
      · rw [if_neg c1, if_neg c2, if_pos rfl]
        by_cases c3 : a % 256 < b % 256
        · rw [if_pos c3, if_pos (by omega)]
        · by_cases c4 : b % 256 < a % 256
          · rw [if_neg c3, if_pos c4, if_neg (by omega), if_pos (by omega)]
          · rw [if_neg c3, if_neg c4, if_neg (by omega), if_neg (by omega)]
theorem grp_cmp (k : Nat) : ∀ a b : Int, 0 ≤ a → 0 ≤ b → a < 128 ^ k → b < 128 ^ k → cmpI (grp k a) (grp k b) = cmpZ a b := by
  induction k with
  | zero =>
    intro a b h1 h2 h3 h4
    have : (128 : Int) ^ 0 = 1 := rfl
    obtain rfl : a = 0 := by omega
    obtain rfl : b = 0 := by omega
    rfl
  | succ k ih =>
    intro a b h1 h2 h3 h4
    rw [Int.pow_succ] at h3 h4
    rw [grp, grp, cmp_snoc _ _ _ _ (by rw [grp_length, grp_length]), ih (a / 128) (b / 128) (by omega) (by omega) (by omega) (by omega)]
    unfold cmpZ
    by_cases c1 : a / 128 < b / 128
    · rw [if_pos c1, if_neg (by omega), if_pos (by omega)]
    · by_cases c2 : b / 128 < a / 128
      · rw [if_neg c1, if_pos c2, if_neg (by omega), if_neg (by omega), if_pos (by omega)]
      · rw [if_neg c1, if_neg c2, if_pos rfl]
        by_cases c3 : a % 128 < b % 128
        · rw [if_pos (by omega), if_pos (by omega)]
        · by_cases c4 : b % 128 < a % 128
          · rw [if_neg (by omega), if_pos (by omega), if_neg (by omega), if_pos (by omega)]
          · rw [if_neg (by omega), if_neg (by omega), if_neg (by omega), if_neg (by omega)]
theorem uAux_fits (b : Int) (hb : 2 ≤ b) (f : Nat) : ∀ r : Int, 0 ≤ r → r < b ^ f → r < b ^ (uAux b f r - 1) := by
  induction f with
  | zero => intro r h1 h2; simpa [uAux] using h2
  | succ f ih =>
    intro r h1 h2
    simp only [uAux]
    by_cases h0 : r = 0
    · rw [if_pos h0, h0]; simp
    · rw [if_neg h0]
      have hq : r / b < b ^ f := by
        rw [Int.pow_succ, Int.mul_comm] at h2
        exact Int.ediv_lt_of_lt_mul (by omega) (by rw [Int.mul_comm]; exact h2)
      have h3 := ih (r / b) (Int.ediv_nonneg h1 (by omega)) hq
      have hp := uAux_pos b f (r / b)
      rw [show 1 + uAux b f (r / b) - 1 = (uAux b f (r / b) - 1) + 1 from by omega, Int.pow_succ]
      have h4 : r < (r / b + 1) * b := by
        have := Int.lt_ediv_add_one_mul_self r (show 0 < b by omega)
        exact this
      have h5 : (r / b + 1) * b ≤ b ^ (uAux b f (r / b) - 1) * b := Int.mul_le_mul_of_nonneg_right (by omega) (by omega)
      omega
theorem uAux_mono (b : Int) (hb : 2 ≤ b) (f : Nat) : ∀ r s : Int, 0 ≤ r → r ≤ s → uAux b f r ≤ uAux b f s := by
  induction f with
  | zero => intro r s _ _; exact Nat.le_refl _
  | succ f ih =>
    intro r s h1 h2
    simp only [uAux]
    by_cases h0 : r = 0
    · rw [if_pos h0]; split <;> omega
    · rw [if_neg h0, if_neg (by omega)]
      have := ih (r / b) (s / b) (Int.ediv_nonneg h1 (by omega)) (Int.ediv_le_ediv (by omega) h2)
      omega
theorem uOct_cmp (a b : Int) (h0 : 0 ≤ a) (h1 : a ≤ b) (h2 : b ≤ 18446744073709551615) : uLen a ≤ uLen b ∧ (uLen a = uLen b → cmpI (uOct a) (uOct b) = cmpZ a b) := by
  refine ⟨uAux_mono 256 (by omega) 7 _ _ (by omega) (by omega), fun e => ?_⟩
  have f1 := uAux_fits 256 (by omega) 7 (a / 256) (by omega) (by omega)
  have f2 := uAux_fits 256 (by omega) 7 (b / 256) (by omega) (by omega)
  have p1 := uAux_pos 256 7 (a / 256)
  have p2 := uAux_pos 256 7 (b / 256)
  unfold uOct
  rw [← e]
  have e1 : uLen a = (uLen a - 1) + 1 := by unfold uLen; omega
  have g1 : a < 256 ^ uLen a := by
    rw [e1, Int.pow_succ]
    change a / 256 < 256 ^ (uLen a - 1) at f1
    omega
  have g2 : b < 256 ^ uLen a := by
    rw [e1, Int.pow_succ]
    change b / 256 < 256 ^ (uLen b - 1) at f2
    rw [← e] at f2
    omega
  exact lo_cmp _ _ _ h0 (by omega) g1 g2
theorem gOct_cmp (a b : Int) (h0 : 0 ≤ a) (h1 : a ≤ b) (h2 : b ≤ 18446744073709551615) : gLen a ≤ gLen b ∧ (gLen a = gLen b → cmpI (gOct a) (gOct b) = cmpZ a b) := by
  refine ⟨uAux_mono 128 (by omega) 9 _ _ (by omega) (by omega), fun e => ?_⟩
  have f1 := uAux_fits 128 (by omega) 9 (a / 128) (by omega) (by omega)
  have f2 := uAux_fits 128 (by omega) 9 (b / 128) (by omega) (by omega)
  change a / 128 < 128 ^ (gLen a - 1) at f1
  change b / 128 < 128 ^ (gLen b - 1) at f2
  unfold gOct
  rw [← e] at f2 ⊢
  rw [cmp_snoc _ _ _ _ (by rw [grp_length, grp_length]), grp_cmp _ _ _ (by omega) (by omega) f1 f2]
  unfold cmpZ
  by_cases c1 : a / 128 < b / 128
  · rw [if_pos c1, if_neg (by omega), if_pos (by omega)]
  · by_cases c2 : b / 128 < a / 128
    · omega
    · rw [if_neg c1, if_neg c2, if_pos rfl]
      by_cases c3 : a % 128 < b % 128
      · rw [if_pos c3, if_pos (by omega)]
      · by_cases c4 : b % 128 < a % 128
        · omega
        · rw [if_neg c3, if_neg c4, if_neg (by omega), if_neg (by omega)]

end Go.Proofs.Ytpogpjnbgdbpfaa
