/- A head, or an element, that is cut is too short: numbers alone. -/
import Derived.Test.YtpogpjnbgdbpfaaTlvTake
namespace Go.Proofs.Ytpogpjnbgdbpfaa
open Go.ChangeShapes Go.WideShapes Go.ChangeAt Go.RowKit

theorem takeG_gk_cut (u : Int) (h0 : 0 ≤ u) (h1 : u ≤ 18446744073709551615) : ∀ (k i j : Nat), j < k + 1 → (i = 0 → k = 0 ∨ u / 128 ^ k % 128 ≠ 0) →
    takeG i (u / 128 ^ (k + 1)) ((gk k u).take j) = (0, 0, 3) := by
  intro k
  induction k with
  | zero =>
    intro i j hj _
    obtain rfl : j = 0 := by omega
    rw [List.take_zero, takeG_nil]
  | succ k ih =>
    intro i j hj hi
    cases j with
    | zero => rw [List.take_zero, takeG_nil]
    | succ j =>
      have hge : 0 ≤ u / 128 ^ (k + 1 + 1) := grpV_nonneg u _ h0
      have hq : u / 128 ^ (k + 1 + 1) ≤ u / 128 := by
        rw [Int.pow_succ, Int.mul_comm, ← Int.ediv_ediv_of_nonneg (by omega)]
        exact Int.ediv_le_self _ (by omega)
      have hsplit : u / 128 ^ (k + 1 + 1) = u / 128 ^ (k + 1) / 128 := (pow_div u 128 (by omega) (k + 1)).symm
      rw [gk_head, List.take_succ_cons, takeG_more _ _ _ _ (by
        intro h
        rcases h with ⟨hi0, hx⟩ | hb
        · rcases hi hi0 with h' | h'
          · omega
          · apply h'; omega
        · omega) (by omega)]
      have hv : u / 128 ^ (k + 1 + 1) * 128 + (u / 128 ^ (k + 1) % 128 + 128) % 128 = u / 128 ^ (k + 1) := by
        rw [hsplit]; omega
      rw [hv, ih (i + 1) j (by omega) (by omega)]
theorem takeG_cut (u : Int) (h0 : 0 ≤ u) (h1 : u ≤ 18446744073709551615) (j : Nat) (hj : j < gLen u) : takeG 0 0 ((gOct u).take j) = (0, 0, 3) := by
  have hp := gLen_le u
  have hz : u / 128 ^ gLen u = 0 := Int.ediv_eq_zero_of_lt h0 (gLen_fits u h0 h1)
  have := takeG_gk_cut u h0 h1 (gLen u - 1) 0 j (by omega) (fun _ => by
    by_cases h : gLen u - 1 = 0
    · exact .inl h
    · right
      have ht := gLen_top u h0 (by omega)
      have hlt : u / 128 ^ (gLen u - 1) < 128 := by
        apply Int.ediv_lt_of_lt_mul (Int.pow_pos (by omega))
        have := gLen_fits u h0 h1
        rw [show gLen u = (gLen u - 1) + 1 from by omega, Int.pow_succ] at this
        rw [Int.mul_comm]
        exact this
      have hnn := grpV_nonneg u (gLen u - 1) h0
      rw [Int.emod_eq_of_lt hnn hlt]
      exact ht)
  rw [show gLen u - 1 + 1 = gLen u from by omega, hz] at this
  rw [show gOct u = gk (gLen u - 1) u from rfl, this]

theorem takeTagF_cut (cls num : Int) (made : Bool) (h0 : 0 ≤ num) (h1 : num ≤ 268435456) (k : Nat) (hk : k < (tOct cls num made).length) :
    takeTagF ((tOct cls num made).take k) = ((0, 0), 0, 3) := by
  obtain ⟨f0, f1, f2⟩ := fB_facts cls made
  cases k with
  | zero => rw [List.take_zero]; rfl
  | succ k =>
    unfold tOct at hk ⊢
    by_cases hs : num < 31
    · rw [if_pos hs] at hk
      simp at hk
    · rw [if_neg hs] at hk ⊢
      rw [List.length_cons, gOct_length] at hk
      rw [List.take_succ_cons, takeTagF_pos (by simp)]
      simp only [List.getD_cons_zero, List.drop_succ_cons, List.drop_zero]
      rw [takeG_cut num h0 (by omega) k (by omega), if_neg (by omega), if_pos (by simp)]
theorem takeLenF_cut (l : Int) (k : Nat) (hk : k < (lOct l).length) : takeLenF ((lOct l).take k) = (0, 0, 3) := by
  have hL := uLen_le l
  cases k with
  | zero => rw [List.take_zero]; rfl
  | succ k =>
    unfold lOct at hk ⊢
    by_cases hs : l < 128
    · rw [if_pos hs] at hk
      simp at hk
    · rw [if_neg hs] at hk ⊢
      rw [List.length_cons, uOct_length] at hk
      rw [List.take_succ_cons, takeLenF_pos (by simp)]
      simp only [List.getD_cons_zero, List.length_cons, List.length_take, uOct_length]
      rw [if_neg (by omega), if_neg (by omega), if_pos (by omega)]
theorem takeHeadF_cut (cls num l : Int) (made : Bool) (h0 : 0 ≤ num) (h1 : num ≤ 268435456) (k : Nat) (hk : k < (hOct cls num made l).length) :
    takeHeadF ((hOct cls num made l).take k) = ((0, 0), false, 0, 0, 3) := by
  unfold hOct at hk ⊢
  rw [List.length_append] at hk
  unfold takeHeadF
  by_cases hc : k < (tOct cls num made).length
  · rw [List.take_append_of_le_length (by omega), takeTagF_cut cls num made h0 h1 k hc, if_pos (by simp)]
  · rw [List.take_append, List.take_of_length_le (by omega), takeTagF_back cls num made h0 h1 _, if_neg (by simp)]
    simp only [Int.toNat_natCast, List.drop_left]
    rw [takeLenF_cut l _ (by omega), if_pos (by simp)]
theorem takeF_cut (cls num : Int) (made : Bool) (xs : List Int) (h0 : 0 ≤ num) (h1 : num ≤ 268435456) (h2 : xs.length ≤ 2147483647) (k : Nat) (hk : k < (eOct cls num made xs).length) :
    takeF ((eOct cls num made xs).take k) = ((0, 0), false, [], 0, 3) := by
  unfold eOct at hk ⊢
  rw [List.length_append] at hk
  have hm : max num 0 = num := by omega
  rw [hm] at hk ⊢
  by_cases hc : k < (hOct cls num made xs.length).length
  · have := takeHeadF_cut cls num xs.length made h0 h1 k hc
    rw [List.take_append_of_le_length (by omega)]
    unfold takeF
    rw [this, if_pos (by simp)]
  · rw [List.take_append, List.take_of_length_le (by omega)]
    have hb := takeHeadF_back cls num xs.length made h0 h1 (by omega) (by omega) (xs.take (k - (hOct cls num made xs.length).length))
    unfold takeF
    rw [hb, if_neg (by simp)]
    simp only [List.length_append, List.length_take]
    rw [if_pos (by omega)]
theorem takeF_back (cls num : Int) (made : Bool) (xs rest : List Int) (h0 : 0 ≤ num) (h1 : num ≤ 268435456) (h2 : xs.length ≤ 2147483647) :
    takeF (eOct cls num made xs ++ rest) = ((cls % 4, num), made, xs, ((eOct cls num made xs).length : Int), 0) := by
  have hm : max num 0 = num := by omega
  unfold eOct
  rw [hm]
  have hb := takeHeadF_back cls num xs.length made h0 h1 (by omega) (by omega) (xs ++ rest)
  rw [List.append_assoc]
  unfold takeF
  rw [hb, if_neg (by simp)]
  simp only [List.length_append, Int.toNat_natCast, List.drop_left, List.take_left]
  rw [if_neg (by omega)]
  simp
end Go.Proofs.Ytpogpjnbgdbpfaa
