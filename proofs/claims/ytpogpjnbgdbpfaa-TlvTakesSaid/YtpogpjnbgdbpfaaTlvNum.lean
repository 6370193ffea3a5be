/- What a head says is taken again: numbers alone. -/
import Derived.Test.YtpogpjnbgdbpfaaTlvTakeH
namespace Go.Proofs.Ytpogpjnbgdbpfaa
open Go.ChangeShapes Go.WideShapes Go.ChangeAt Go.RowKit

theorem takeTagF_back (cls num : Int) (made : Bool) (h0 : 0 ≤ num) (h1 : num ≤ 268435456) (rest : List Int) :
    takeTagF (tOct cls num made ++ rest) = ((cls % 4, num), ((tOct cls num made).length : Int), 0) := by
  obtain ⟨f0, f1, f2⟩ := fB_facts cls made
  have f3 : fB cls made / 64 = cls % 4 := by unfold fB; cases made <;> simp <;> omega
  unfold tOct
  by_cases hs : num < 31
  · rw [if_pos hs, takeTagF_pos (by simp)]
    simp only [List.cons_append, List.nil_append, List.getD_cons_zero, List.length_cons, List.length_nil]
    rw [if_pos (by omega)]
    have e1 : (fB cls made + num) / 64 = cls % 4 := by omega
    have e2 : (fB cls made + num) % 32 = num := by omega
    rw [e1, e2]; rfl
  · rw [if_neg hs, takeTagF_pos (by simp)]
    simp only [List.cons_append, List.getD_cons_zero, List.drop_succ_cons, List.drop_zero, List.length_cons]
    rw [takeG_back num h0 (by omega) rest, if_neg (by omega), if_neg (by simp), if_neg (by simp only; omega)]
    have e1 : (fB cls made + 31) / 64 = cls % 4 := by omega
    simp only [e1, gOct_length]
    rw [show (1 : Int) + (gLen num : Int) = ((gLen num + 1 : Nat) : Int) from by omega]
theorem takeLenF_back (l : Int) (h0 : 0 ≤ l) (h1 : l ≤ 2147483647) (rest : List Int) : takeLenF (lOct l ++ rest) = (l, ((lOct l).length : Int), 0) := by
  have hL := uLen_le l
  unfold lOct
  by_cases hs : l < 128
  · rw [if_pos hs, takeLenF_pos (by simp)]
    simp only [List.cons_append, List.nil_append, List.getD_cons_zero, List.length_cons, List.length_nil]
    rw [if_pos hs]; rfl
  · rw [if_neg hs, takeLenF_pos (by simp)]
    simp only [List.cons_append, List.getD_cons_zero, List.drop_succ_cons, List.drop_zero, List.length_cons]
    have e2 : (128 + (uLen l : Int) - 128).toNat = uLen l := by omega
    have e3 : (uOct l ++ rest).take (uLen l) = uOct l := by rw [← uOct_length l, List.take_left]
    have e4 := takeU_back l h0 (by omega)
    rw [if_neg (by omega), if_neg (by omega), if_neg (by rw [List.length_append, uOct_length]; omega), e2, e3, e4, if_neg (by simp only; omega)]
    simp only [uOct_length]
    rw [show (1 : Int) + (128 + (uLen l : Int) - 128) = ((uLen l + 1 : Nat) : Int) from by omega]
theorem tOct_ne (cls num : Int) (made : Bool) : 0 < (tOct cls num made).length := by unfold tOct; split <;> simp
theorem tOct_first (cls num : Int) (made : Bool) (h0 : 0 ≤ num) (rest : List Int) : ((tOct cls num made ++ rest).getD 0 0 / 32 % 2 * 32 != 0) = made := by
  have hq0 : 0 ≤ cls % 4 := by omega
  have hq1 : cls % 4 ≤ 3 := by omega
  unfold tOct fB
  by_cases hs : num < 31
  · rw [if_pos hs]
    simp only [List.cons_append, List.getD_cons_zero]
    cases made
    · rw [bne_eq_false_iff_eq]; simp; omega
    · rw [bne_iff_ne]; simp; omega
  · rw [if_neg hs]
    simp only [List.cons_append, List.getD_cons_zero]
    cases made
    · rw [bne_eq_false_iff_eq]; simp; omega
    · rw [bne_iff_ne]; simp; omega
theorem takeHeadF_back (cls num l : Int) (made : Bool) (h0 : 0 ≤ num) (h1 : num ≤ 268435456) (h2 : 0 ≤ l) (h3 : l ≤ 2147483647) (rest : List Int) :
    takeHeadF (hOct cls num made l ++ rest) = ((cls % 4, num), made, l, ((hOct cls num made l).length : Int), 0) := by
  have e1 := takeTagF_back cls num made h0 h1 (lOct l ++ rest)
  have e2 := takeLenF_back l h2 h3 rest
  have e3 := tOct_first cls num made h0 (lOct l ++ rest)
  unfold takeHeadF hOct
  rw [List.append_assoc, e1, if_neg (by simp)]
  simp only [Int.toNat_natCast, List.drop_left]
  rw [e2, if_neg (by simp), e3]
  simp only [List.length_append]
  rw [show ((tOct cls num made).length : Int) + ((lOct l).length : Int) = (((tOct cls num made).length + (lOct l).length : Nat) : Int) from by omega]
theorem hOct_bytes (cls num l : Int) (made : Bool) (h0 : 0 ≤ num) (h2 : 0 ≤ l) : B8 (hOct cls num made l) := by
  obtain ⟨f0, f1, f2⟩ := fB_facts cls made
  intro x hx
  unfold hOct tOct at hx
  rcases List.mem_append.1 hx with h | h
  · split at h
    · simp at h; omega
    · rcases List.mem_cons.1 h with rfl | h
      · omega
      · exact gOct_bytes8 num x h
  · exact lOct_bytes l h2 x h
theorem hOct_len (cls num l : Int) (made : Bool) : 2 ≤ (hOct cls num made l).length ∧ (hOct cls num made l).length ≤ 20 := by
  have h1 := lOct_len l
  have h2 := gOct_len num
  have h3 : 1 ≤ (lOct l).length := by unfold lOct; split <;> simp
  unfold hOct tOct
  rw [List.length_append]
  split <;> simp <;> omega

/-- awake of layer 3. -/
theorem awake03_any (w : World) : Calls Try.prog 38 #[] w fun e w' => e = .returned (.bool true) ∧ Keeps w w' := by
  have HH : Hid (∀ w, Calls Try.prog 39 #[.agg #[.int .i64 0, .int .i64 16], .bool true, .int .i64 5] w (GivesH [48, 5] w)) := fun w => by
    have := head_any 0 16 5 true (by omega) (by omega) w
    rwa [show hOct 0 (max 16 0) true (max 5 0) = [48, 5] from by decide] at this
  go_enter Try.func38, Try.ntmps38
  go_wp2_with fail
  refine (unhide HH _).mono ?_
  rintro e w1 ⟨A, c, rfl, hc, hh, hk⟩
  obtain ⟨b, o, rfl, hcs⟩ := hh.cells (by simp)
  have k0 := hcs 0 (by simp)
  have k1 := hcs 1 (by simp)
  simp only [List.getD_cons_zero, List.getD_cons_succ, Nat.add_zero] at k0 k1
  clear hcs hh
  have HK := hide hk
  clear hk
  simp only [List.length_cons, List.length_nil] at hc ⊢
  go_wp2
  go_ret
  exact ⟨rfl, unhide HK⟩

end Go.Proofs.Ytpogpjnbgdbpfaa
