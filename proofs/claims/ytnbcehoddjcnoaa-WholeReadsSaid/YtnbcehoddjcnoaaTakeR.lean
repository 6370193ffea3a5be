/- The contract of the reference's TakeUnsigned; TakeGroups and its reference. -/
import Derived.Test.YtnbcehoddjcnoaaTakeU
namespace Go.Proofs.Ytnbcehoddjcnoaa
open Go.ChangeShapes Go.WideShapes Go.ChangeAt Go.RowKit

set_option maxHeartbeats 2000000 in
theorem refTakeUnsigned_any (A : Option Addr) (xs : List Int) (c : Nat) (hx : Bytes8 xs) (hl : xs.length ≤ maxLen) (w : World) (hh : Holds w A xs) :
    Calls Try.prog 69 #[.slice A xs.length c] w fun e w' => e = .returned (.tuple #[.int .u64 (takeU xs).1, .int .i64 (takeU xs).2]) ∧ Keeps w w' := by
  unfold maxLen at hl
  by_cases h0 : xs.length = 0
  · have hz : takeU xs = (0, 3) := by simp [takeU, h0]
    rw [hz, h0]
    go_enter Try.func69, Try.ntmps69
    go_wp2
    go_ret2
    exact ⟨rfl, Keeps.refl _⟩
  · by_cases h8 : 8 < xs.length
    · have hz : takeU xs = (0, 4) := by simp [takeU, h0, h8]
      rw [hz]
      have e0 : ((xs.length : Int) == 0) = false := beq_eq_false_iff_ne.2 (by omega)
      have e1 : 0 < xs.length := by omega
      clear h0
      go_enter Try.func69, Try.ntmps69
      go_wp2
      go_ret2
      exact ⟨rfl, Keeps.refl _⟩
    · have e0 : ((xs.length : Int) == 0) = false := beq_eq_false_iff_ne.2 (by omega)
      have e1 : 0 < xs.length := by omega
      have e2 : xs.length ≤ 8 := by omega
      have hz : takeU xs = if uLen (beU xs) = xs.length then (beU xs, 0) else (0, 4) := by simp [takeU, h0, h8]
      have HZ := hide hz
      clear h0 h8 hz
      have hh0 := hh
      obtain ⟨b, o, rfl, hcs⟩ := hh.cells e1
      have HC := hide hcs
      have HX := hide hx
      have HH := hide hh0
      clear hcs hh hx hh0
      generalize hn : xs.length = n at *
      have HN := hide hn
      clear hn
      go_enter Try.func69, Try.ntmps69
      go_wp2
      go_loop [4, 5] (fun v i => ∃ k : Nat, k ≤ n ∧ i = .int .i64 k ∧ v = .int .u64 (beU (xs.take k))) (fun _ i => n - (intOf i).toNat)
      case atStart => exact ⟨0, by omega, rfl, rfl⟩
      case round =>
        obtain ⟨k, hk, rfl, rfl⟩ := hrel
        have hb := beU_range k xs (unhide HX) (by rw [unhide HN]; exact hk)
        obtain ⟨hb1, hb2⟩ := hb
        by_cases hlt : k < n
        · have hsn : beU (xs.take (k + 1)) = beU (xs.take k) * 256 + xs.getD k 0 := by rw [take_snoc xs k (by rw [unhide HN]; exact hlt), beU_snoc]
          have HS := hide hsn
          have hc := unhide HC k hlt
          obtain ⟨hx1, hx2⟩ := bytes8_getD (unhide HX) k
          have hv : beU (xs.take k) ≤ 72057594037927935 := by
            have := pow256u k (by omega)
            omega
          clear hsn hb2
          generalize beU (xs.take k) = v at *
          generalize xs.getD k 0 = x at *
          have hj := u64_or_join (v * 256) x (by omega) (by omega) (by omega) hx1 hx2
          go_wp2
          exact ⟨⟨k + 1, by omega, by go_num, by rw [unhide HS]⟩, by simp [intOf]; omega⟩
        · obtain rfl : k = n := by omega
          rw [List.take_of_length_le (by rw [unhide HN]; exact Nat.le_refl _)] at hb1 hb2 ⊢
          have hv : beU xs ≤ 18446744073709551615 := by
            have := (by decide +kernel : ∀ k : Fin 9, (256 : Int) ^ k.val ≤ 18446744073709551616) ⟨k, by omega⟩
            simp only at this
            omega
          clear hb2
          have hB : Bytes8 (uOct (beU xs)) := lo_range _ _
          by_cases hu : uLen (beU xs) = k
          · have HT : Hid (takeU xs = (beU xs, 0)) := by have := unhide HZ; rw [if_pos hu] at this; exact this
            have HD : Hid (decide (uOct (beU xs) = xs) = true) := decide_eq_true ((uOct_iff xs (unhide HX)).2 (by rw [unhide HN]; exact hu))
            clear hu
            go_wp2_with fail
            refine (refUnsigned_any _ hb1 hv _).mono ?_
            rintro e w1 ⟨A1, c1, rfl, hc1, hf1⟩
            go_wp2_with fail
            rw [← unhide HN]
            refine (sameBytes_any _ _ _ _ _ _ _ hf1.holds ((unhide HH).keeps hf1.2) hB (unhide HX)).mono ?_
            rintro e w2 ⟨rfl, rfl⟩
            rw [unhide HD]
            go_wp2
            go_ret2
            exact ⟨ret_ii (by rw [unhide HT]) (by rw [unhide HT]), hf1.2⟩
          · have HT : Hid (takeU xs = (0, 4)) := by have := unhide HZ; rw [if_neg hu] at this; exact this
            have HD : Hid (decide (uOct (beU xs) = xs) = false) := decide_eq_false (fun e => hu (by rw [← unhide HN]; exact (uOct_iff xs (unhide HX)).1 e))
            clear hu
            go_wp2_with fail
            refine (refUnsigned_any _ hb1 hv _).mono ?_
            rintro e w1 ⟨A1, c1, rfl, hc1, hf1⟩
            go_wp2_with fail
            rw [← unhide HN]
            refine (sameBytes_any _ _ _ _ _ _ _ hf1.holds ((unhide HH).keeps hf1.2) hB (unhide HX)).mono ?_
            rintro e w2 ⟨rfl, rfl⟩
            rw [unhide HD]
            go_wp2
            go_ret2
            exact ⟨ret_ii (by rw [unhide HT]) (by rw [unhide HT]), hf1.2⟩

/-- What TakeGroups answers, from octet i on, with v read so far. -/
def takeG : Nat → Int → List Int → Int × Int × Int
  | _, _, [] => (0, 0, 3)
  | i, v, x :: xs => if (i = 0 ∧ x = 128) ∨ 144115188075855872 ≤ v then (0, 0, 4) else if x < 128 then (v * 128 + x, (i : Int) + 1, 0) else takeG (i + 1) (v * 128 + x % 128) xs
theorem drop_cons (xs : List Int) (k : Nat) (h : k < xs.length) : xs.drop k = xs.getD k 0 :: xs.drop (k + 1) := by
  rw [List.drop_eq_getElem_cons h]; simp [h]
theorem u64_or_join7 (a o : Int) (ha : 0 ≤ a) (ha2 : a ≤ 18446744073709551615) (hm : a % 128 = 0) (ho : 0 ≤ o) (ho2 : o ≤ 127) : bits .or .u64 a o = a + o := by
  obtain ⟨x, rfl⟩ := Int.eq_ofNat_of_zero_le ha
  obtain ⟨y, rfl⟩ := Int.eq_ofNat_of_zero_le ho
  rw [u64_or_nat x y (by omega) (by omega), nat_join 7 x y (by omega) (by omega)]
  omega
theorem u8_and127' (x : Int) (h : 0 ≤ x) (h2 : x ≤ 255) : bits .and .u8 x 127 = x % 128 := by
  obtain ⟨a, rfl⟩ := Int.eq_ofNat_of_zero_le h
  have := u8_and_nat a 127 (by omega) (by omega)
  rw [nat_mask7] at this
  simpa using this
theorem ret_iii {k1 k2 k3 : IntKind} {a b c d f g : Int} (h : a = b) (h2 : c = d) (h3 : f = g) : Ending.returned (.tuple #[.int k1 a, .int k2 c, .int k3 f]) = .returned (.tuple #[.int k1 b, .int k2 d, .int k3 g]) := by rw [h, h2, h3]

end Go.Proofs.Ytnbcehoddjcnoaa
