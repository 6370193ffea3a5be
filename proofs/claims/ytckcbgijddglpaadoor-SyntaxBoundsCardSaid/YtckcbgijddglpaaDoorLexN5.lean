/- Numbers of digits: how great they are. -/
import Derived.Test.YtckcbgijddglpaaDoorLexN3
namespace Go.Proofs.YtckcbgijddglpaaDoor
open Go.PlainAid
set_option linter.unusedVariables false

theorem dig_range {c : Int} (h : isDig c = true) : 48 ≤ c ∧ c ≤ 57 := by simpa [isDig] using h
theorem dval_lt (s : ByteArray) (a : Nat) : ∀ n, (∀ k, a ≤ k → k < a + n → dgP s k = true) → dval s a n < 10 ^ n
  | 0, h => by simp [dval]
  | n + 1, h => by
    have ih := dval_lt s a n fun k h1 h2 => h k h1 (by omega)
    have hd := dig_range (h (a + n) (by omega) (by omega))
    show 10 * dval s a n + (bt s (a + n) - 48).toNat < 10 ^ (n + 1)
    rw [Nat.pow_succ]
    omega
theorem dval_ge (s : ByteArray) (a : Nat) (h0 : 49 ≤ bt s a) : ∀ n, 10 ^ n ≤ dval s a (n + 1)
  | 0 => by show 1 ≤ 10 * 0 + (bt s (a + 0) - 48).toNat; simp; omega
  | n + 1 => by
    have ih := dval_ge s a h0 n
    show 10 ^ (n + 1) ≤ 10 * dval s a (n + 1) + _
    rw [Nat.pow_succ]; omega
theorem dval_mono (s : ByteArray) (a : Nat) : ∀ n m, dval s a n ≤ dval s a (n + m)
  | n, 0 => Nat.le_refl _
  | n, m + 1 => by
    have := dval_mono s a n m
    show dval s a n ≤ 10 * dval s a (n + m) + _
    omega
theorem dval_19 {s : ByteArray} {a n : Nat} (h : ∀ k, a ≤ k → k < a + n → dgP s k = true) (hn : n ≤ 18) : dval s a n < 1000000000000000000 := by
  have h1 := dval_lt s a n h
  have h2 : 10 ^ n ≤ 10 ^ 18 := Nat.pow_le_pow_right (by omega) hn
  omega
theorem numOk_iff (s : ByteArray) (i : Nat) : numOk s i = (decide (numFrom s i < numEnd s i) && !isLet (bt s (numEnd s i)) && !(decide (bt s (numFrom s i) = 48) && !decide (numEnd s i = i + 1)) && numIn s i) := rfl
/-- The reference's test, case by case. f: the first digit, e: behind the last one, n: how many. -/
theorem num_no {s : ByteArray} {i f e : Nat} (hf : numFrom s i = f) (he : numEnd s i = e) (hlt : f < e) (hd : dgP s f = true) (hr : IsRun (dgP s) f e)
    (h : 19 < e - f ∨ (1 < e - f ∧ bt s f = 48) ∨ (bt s i = 45 ∧ bt s f = 48) ∨ isLet (bt s e) = true ∨ 9223372036854775808 < dval s f (min (e - f) 19) ∨ (bt s i ≠ 45 ∧ dval s f (min (e - f) 19) = 9223372036854775808)) : numOk s i = false := by
  have hfi : (bt s i = 45 ∧ f = i + 1) ∨ (bt s i ≠ 45 ∧ f = i) := by
    rw [← hf, numFrom]
    by_cases q : bt s i = 45
    · rw [if_pos q]; exact .inl ⟨q, rfl⟩
    · rw [if_neg q]; exact .inr ⟨q, rfl⟩
  have zero : bt s f = 48 → e ≠ i + 1 → numOk s i = false := by
    intro h1 h2
    rw [numOk_iff, hf, he, decide_eq_true h1, decide_eq_false h2]; simp
  have big : (bt s i = 45 ∧ 9223372036854775808 < numVal s i) ∨ 9223372036854775808 < numVal s i ∨ (bt s i ≠ 45 ∧ 9223372036854775808 ≤ numVal s i) → numOk s i = false := by
    intro h
    rw [numOk_iff, show numIn s i = false by rw [numIn, decide_eq_false_iff_not]; omega]; simp
  have hnv : numVal s i = dval s f (e - f) := by rw [numVal, hf, he]
  rcases h with h | ⟨h1, h2⟩ | ⟨h1, h2⟩ | h | h | ⟨h1, h2⟩
  · by_cases q : bt s f = 48
    · exact zero q (by omega)
    · have h49 : 49 ≤ bt s f := by have := dig_range hd; omega
      have := dval_ge s f h49 (e - f - 1)
      have h2 : 10 ^ 19 ≤ 10 ^ (e - f - 1) := Nat.pow_le_pow_right (by omega) (by omega)
      rw [show e - f - 1 + 1 = e - f by omega] at this
      exact big (.inr (.inl (by rw [hnv]; omega)))
  · exact zero h2 (by omega)
  · exact zero h2 (by omega)
  · rw [numOk_iff, he, h]; simp
  · have := dval_mono s f (min (e - f) 19) (e - f - min (e - f) 19)
    rw [show min (e - f) 19 + (e - f - min (e - f) 19) = e - f by omega] at this
    exact big (.inr (.inl (by rw [hnv]; omega)))
  · have := dval_mono s f (min (e - f) 19) (e - f - min (e - f) 19)
    rw [show min (e - f) 19 + (e - f - min (e - f) 19) = e - f by omega] at this
    exact big (.inr (.inr ⟨h1, by rw [hnv]; omega⟩))
theorem num_yes {s : ByteArray} {i f e : Nat} (hf : numFrom s i = f) (he : numEnd s i = e) (hlt : f < e) (h1 : e - f ≤ 19) (h2 : bt s f ≠ 48 ∨ (e - f ≤ 1 ∧ bt s i ≠ 45)) (h3 : isLet (bt s e) = false)
    (h4 : dval s f (min (e - f) 19) ≤ 9223372036854775808) (h5 : bt s i = 45 ∨ dval s f (min (e - f) 19) ≠ 9223372036854775808) : numOk s i = true := by
  have hfi : (bt s i = 45 ∧ f = i + 1) ∨ (bt s i ≠ 45 ∧ f = i) := by
    rw [← hf, numFrom]
    by_cases q : bt s i = 45
    · rw [if_pos q]; exact .inl ⟨q, rfl⟩
    · rw [if_neg q]; exact .inr ⟨q, rfl⟩
  rw [show min (e - f) 19 = e - f by omega] at h4 h5
  have hnv : numVal s i = dval s f (e - f) := by rw [numVal, hf, he]
  have hin : numIn s i = true := by rw [numIn, decide_eq_true_iff, hnv]; omega
  rw [numOk_iff, hf, he, h3, hin, decide_eq_true hlt]
  rcases h2 with h | ⟨h, h'⟩
  · simp [h]
  · rw [decide_eq_true (show e = i + 1 by omega)]; simp
end Go.Proofs.YtckcbgijddglpaaDoor
