/- The contract of the reference's TakeGroups. -/
import Derived.Test.YtpogpjnbgdbpfaaTakeG
namespace Go.Proofs.Ytpogpjnbgdbpfaa
open Go.ChangeShapes Go.WideShapes Go.ChangeAt Go.RowKit

set_option maxHeartbeats 4000000 in
theorem refTakeGroups_any (A : Option Addr) (xs : List Int) (c : Nat) (hx : Bytes8 xs) (hl : xs.length ≤ maxLen) (w : World) (hh : Holds w A xs) :
    Calls Try.prog 34 #[.slice A xs.length c] w fun e w' => e = .returned (.tuple #[.int .u64 (takeG 0 0 xs).1, .int .i64 (takeG 0 0 xs).2.1, .int .i64 (takeG 0 0 xs).2.2]) ∧ w = w' := by
  unfold maxLen at hl
  have HH := hide hh
  have HX := hide hx
  clear hh hx
  generalize hn : xs.length = n at *
  have HN := hide hn
  clear hn
  go_enter Try.func34, Try.ntmps34
  go_wp2
  go_loop [5, 6] (fun v i => ∃ (k : Nat) (q : Int), k ≤ n ∧ i = .int .i64 k ∧ v = .int .u64 q ∧ 0 ≤ q ∧ q ≤ 18446744073709551615 ∧ takeG k q (xs.drop k) = takeG 0 0 xs) (fun _ i => n - (intOf i).toNat)
  case atStart => exact ⟨0, 0, by omega, rfl, rfl, by omega, by omega, rfl⟩
  case round =>
    obtain ⟨k, q, hk, rfl, rfl, hq0, hq1, ht⟩ := hrel
    by_cases hlt : k < n
    · have hkx : k < xs.length := by rw [unhide HN]; exact hlt
      obtain ⟨b, o, rfl, hcs⟩ := (unhide HH).cells (by omega)
      have hc := hcs k hkx
      obtain ⟨hx1, hx2⟩ := bytes8_getD (unhide HX) k
      rw [drop_cons xs k hkx] at ht
      clear hcs hkx
      generalize xs.getD k 0 = x at *
      by_cases hbig : 144115188075855872 ≤ q
      · have HT := hide (ht.symm.trans (takeG_bad k q x _ (.inr hbig)))
        clear ht
        by_cases hk0 : k = 0
        · subst hk0
          rw [Nat.add_zero] at hc
          go_wp2
          all_goals
            go_ret3
            exact ⟨ret_iii (by rw [unhide HT]) (by rw [unhide HT]) (by rw [unhide HT]), rfl⟩
        · have e2 : ((k : Int) == 0) = false := beq_eq_false_iff_ne.2 (by omega)
          go_wp2
          all_goals
            go_ret3
            exact ⟨ret_iii (by rw [unhide HT]) (by rw [unhide HT]) (by rw [unhide HT]), rfl⟩
      · by_cases hz : k = 0 ∧ x = 128
        · have HT := hide (ht.symm.trans (takeG_bad k q x _ (.inl hz)))
          obtain ⟨rfl, rfl⟩ := hz
          rw [Nat.add_zero] at hc
          clear ht
          go_wp2
          all_goals
            go_ret3
            exact ⟨ret_iii (by rw [unhide HT]) (by rw [unhide HT]) (by rw [unhide HT]), rfl⟩
        · have hno : ¬ ((k = 0 ∧ x = 128) ∨ 144115188075855872 ≤ q) := by omega
          have e1 : q < 144115188075855872 := by omega
          have e3 := u8_and127' x hx1 hx2
          have e4 := u64_or_join7 (q * 128) (x % 128) (by omega) (by omega) (by omega) (by omega) (by omega)
          have e5 : 0 ≤ x % 128 := by omega
          have e6 : x % 128 ≤ 127 := by omega
          by_cases hk0 : k = 0
          · subst hk0
            rw [Nat.add_zero] at hc
            have e2 : (x == 128) = false := beq_eq_false_iff_ne.2 (fun h => hz ⟨rfl, h⟩)
            by_cases hx : x < 128
            · have HT := hide (ht.symm.trans (takeG_end 0 q x _ hno hx))
              clear ht hz hno
              go_wp2
              go_ret3
              exact ⟨ret_iii (by rw [unhide HT]; show q * 128 + x % 128 = q * 128 + x; omega) (by rw [unhide HT]; rfl) (by rw [unhide HT]), rfl⟩
            · have HT := hide ((takeG_more 0 q x _ hno hx).symm.trans ht)
              clear ht hz hno
              go_wp2
              exact ⟨⟨0 + 1, q * 128 + x % 128, by omega, rfl, rfl, by omega, by omega, unhide HT⟩, by simp [intOf]; omega⟩
          · have e2 : ((k : Int) == 0) = false := beq_eq_false_iff_ne.2 (by omega)
            by_cases hx : x < 128
            · have HT := hide (ht.symm.trans (takeG_end k q x _ hno hx))
              clear ht hz hno
              go_wp2
              go_ret3
              exact ⟨ret_iii (by rw [unhide HT]; show q * 128 + x % 128 = q * 128 + x; omega) (by rw [unhide HT]) (by rw [unhide HT]), rfl⟩
            · have HT := hide ((takeG_more k q x _ hno hx).symm.trans ht)
              clear ht hz hno
              go_wp2
              exact ⟨⟨k + 1, q * 128 + x % 128, by omega, by go_num, rfl, by omega, by omega, unhide HT⟩, by simp [intOf]; omega⟩
    · have HT : Hid (takeG 0 0 xs = (0, 0, 3)) := by
        rw [List.drop_of_length_le (by rw [unhide HN]; omega)] at ht
        exact ht.symm
      clear ht
      go_wp2
      go_ret3
      exact ⟨ret_iii (by rw [unhide HT]) (by rw [unhide HT]) (by rw [unhide HT]), rfl⟩

end Go.Proofs.Ytpogpjnbgdbpfaa
