/- A head that is taken, written again, is the same octets: numbers alone. -/
import Derived.Test.YtpogpjnbgdbpfaaTlvCutNum
namespace Go.Proofs.Ytpogpjnbgdbpfaa
open Go.ChangeShapes Go.WideShapes Go.ChangeAt Go.RowKit

theorem take_one_add (xs : List Int) (h : 0 < xs.length) (m : Nat) : xs.take (1 + m) = xs.getD 0 0 :: (xs.drop 1).take m := by
  cases xs with
  | nil => simp at h
  | cons x xs => rw [Nat.add_comm, List.take_succ_cons]; simp
theorem fB_first (x : Int) (h0 : 0 ≤ x) (h1 : x ≤ 255) : fB (x / 64) (x / 32 % 2 * 32 != 0) = x / 64 * 64 + x / 32 % 2 * 32 := by
  unfold fB
  by_cases h : x / 32 % 2 = 0
  · rw [h]; simp; omega
  · have h2 : x / 32 % 2 = 1 := by omega
    rw [h2]; simp; omega
theorem takeTagF_is {xs : List Int} (hx : Bytes8 xs) (h : (takeTagF xs).2.2 = 0) : ∃ m : Nat, (takeTagF xs).2.1 = m ∧ 1 ≤ m ∧ m ≤ xs.length ∧ 0 < xs.length ∧
    tOct (takeTagF xs).1.1 (takeTagF xs).1.2 (xs.getD 0 0 / 32 % 2 * 32 != 0) = xs.take m ∧ 0 ≤ (takeTagF xs).1.2 ∧ (takeTagF xs).1.2 ≤ 268435456 := by
  by_cases h0 : xs.length = 0
  · unfold takeTagF at h
    rw [if_pos h0] at h
    simp at h
  · have hb := bytes8_getD hx 0
    have hf := fB_first _ hb.1 hb.2
    rw [takeTagF_pos h0] at h ⊢
    split at h
    · rename_i h1
      rw [if_pos h1]
      refine ⟨1, rfl, by omega, by omega, by omega, ?_, by simp only; omega, by simp only; omega⟩
      have := take_one_add xs (by omega) 0
      rw [this]
      unfold tOct
      rw [if_pos (by simp only; omega), hf]
      simp only [List.take_zero, List.cons.injEq, and_true]
      omega
    · rename_i h1
      rw [if_neg h1]
      split at h
      · rename_i h2
        exact absurd h h2
      · rename_i h2
        rw [if_neg h2]
        split at h
        · simp at h
        · rename_i h3
          rw [if_neg h3]
          obtain ⟨m, hm, hm1, hm2, hm3, _⟩ := takeG_is (fun x m => hx x (List.mem_of_mem_drop m)) (Decidable.not_not.1 h2)
          rw [List.length_drop] at hm2
          refine ⟨1 + m, ?_, by omega, by omega, by omega, ?_, by simp only; omega, by simp only; omega⟩
          · show 1 + (takeG 0 0 (xs.drop 1)).2.1 = _
            rw [hm]; simp
          · rw [take_one_add xs (by omega) m]
            unfold tOct
            rw [if_neg (by simp only; omega), hf, hm3]
            simp only [List.cons.injEq, and_true]
            omega
theorem takeLenF_is {xs : List Int} (hx : Bytes8 xs) (h : (takeLenF xs).2.2 = 0) : ∃ m : Nat, (takeLenF xs).2.1 = m ∧ 1 ≤ m ∧ m ≤ xs.length ∧ lOct (takeLenF xs).1 = xs.take m ∧ 0 ≤ (takeLenF xs).1 ∧ (takeLenF xs).1 ≤ 2147483647 := by
  by_cases h0 : xs.length = 0
  · unfold takeLenF at h
    rw [if_pos h0] at h
    simp at h
  · have hq := bytes8_getD hx 0
    rw [takeLenF_pos h0] at h ⊢
    split at h
    · rename_i h1
      rw [if_pos h1]
      refine ⟨1, rfl, by omega, by omega, ?_, hq.1, by show xs.getD 0 0 ≤ _; omega⟩
      rw [take_one_add xs (by omega) 0]
      unfold lOct
      rw [if_pos (by simp only; omega)]
      simp
    · rename_i h1
      rw [if_neg h1]
      split at h
      · simp at h
      · rename_i h2
        rw [if_neg h2]
        split at h
        · simp at h
        · rename_i h3
          rw [if_neg h3]
          split at h
          · simp at h
          · rename_i h4
            rw [if_neg h4]
            have hu := takeU_is (xs := (xs.drop 1).take (xs.getD 0 0 - 128).toNat) (fun x h => hx x (List.mem_of_mem_drop (List.mem_of_mem_take h))) (by omega)
            obtain ⟨hu1, hu2, hu3⟩ := hu
            have hlen := congrArg List.length hu1
            rw [uOct_length, List.length_take, List.length_drop] at hlen
            refine ⟨1 + (xs.getD 0 0 - 128).toNat, ?_, by omega, by omega, ?_, ?_, ?_⟩
            · show 1 + (xs.getD 0 0 - 128) = _
              omega
            · rw [take_one_add xs (by omega)]
              unfold lOct
              rw [if_neg (by simp only; omega), hu1]
              simp only [List.cons.injEq, and_true]
              omega
            · show 0 ≤ (takeU ((xs.drop 1).take (xs.getD 0 0 - 128).toNat)).1
              omega
            · show (takeU ((xs.drop 1).take (xs.getD 0 0 - 128).toNat)).1 ≤ _
              omega
theorem takeHeadF_is {xs : List Int} (hx : Bytes8 xs) (h : (takeHeadF xs).2.2.2.2 = 0) : ∃ m k : Nat, (takeHeadF xs).2.2.2.1 = m ∧ (takeHeadF xs).2.2.1 = k ∧ 2 ≤ m ∧ m ≤ xs.length ∧ k ≤ 2147483647 ∧
    0 ≤ (takeHeadF xs).1.2 ∧ (takeHeadF xs).1.2 ≤ 268435456 ∧ hOct (takeHeadF xs).1.1 (takeHeadF xs).1.2 (takeHeadF xs).2.1 k = xs.take m := by
  unfold takeHeadF at h ⊢
  split at h
  · rename_i h1; exact absurd h h1
  · rename_i h1
    rw [if_neg h1]
    obtain ⟨m, hm, hm1, hm2, hm3, hm4, hm5, hm6⟩ := takeTagF_is hx (Decidable.not_not.1 h1)
    split at h
    · rename_i h2; exact absurd h h2
    · rename_i h2
      rw [if_neg h2]
      obtain ⟨k, hk, hk1, hk2, hk3, hk4, hk5⟩ := takeLenF_is (fun x m => hx x (List.mem_of_mem_drop m)) (Decidable.not_not.1 h2)
      rw [hm, Int.toNat_natCast] at hk hk2 hk3 hk4 hk5
      rw [List.length_drop] at hk2
      refine ⟨m + k, (takeLenF (xs.drop m)).1.toNat, ?_, ?_, by omega, by omega, by omega, hm5, hm6, ?_⟩
      · show (takeTagF xs).2.1 + (takeLenF (xs.drop (takeTagF xs).2.1.toNat)).2.1 = _
        rw [hm, Int.toNat_natCast, hk]; simp
      · show (takeLenF (xs.drop (takeTagF xs).2.1.toNat)).1 = _
        rw [hm, Int.toNat_natCast]; omega
      · show hOct (takeTagF xs).1.1 (takeTagF xs).1.2 (xs.getD 0 0 / 32 % 2 * 32 != 0) _ = _
        rw [show (((takeLenF (xs.drop m)).1.toNat : Nat) : Int) = (takeLenF (xs.drop m)).1 from by omega]
        unfold hOct
        rw [hm4, hk3, List.take_add]

end Go.Proofs.Ytpogpjnbgdbpfaa
