/- Plain facts: what is written is read, and what is read is written. -/
import Derived.Test.YtpogpjnbgdbpfaaTakeS
import Derived.Test.YtpogpjnbgdbpfaaTakeG
import Derived.Test.YtpogpjnbgdbpfaaSizes
namespace Go.Proofs.Ytpogpjnbgdbpfaa
open Go.ChangeShapes Go.WideShapes Go.ChangeAt Go.RowKit

/-! ### signed -/
def dS : List Int → Int
  | [] => 0
  | x0 :: ys => sx x0 ys
theorem dS_snoc (xs : List Int) (y : Int) (h : 0 < xs.length) : dS (xs ++ [y]) = dS xs * 256 + y := by
  cases xs with
  | nil => simp at h
  | cons x0 ys => exact sx_snoc x0 ys y
theorem dS_lo : ∀ (n : Nat) (v : Int), -128 * 256 ^ n ≤ v → v < 128 * 256 ^ n → dS (lo (n + 1) v) = v := by
  intro n
  induction n with
  | zero => intro v h1 h2; simp at h1 h2; simp [lo, dS, sx, s8]; omega
  | succ n ih =>
    intro v h1 h2
    rw [Int.pow_succ] at h1 h2
    rw [lo, dS_snoc _ _ (by rw [lo_length]; omega), ih (v / 256) (by omega) (by omega)]
    omega
theorem sLen_fits (v : Int) (h1 : -9223372036854775808 ≤ v) (h2 : v ≤ 9223372036854775807) : -128 * 256 ^ (sLen v - 1) ≤ v ∧ v < 128 * 256 ^ (sLen v - 1) := by
  have he := sAux_end 7 (v / 128) (by omega) (by omega)
  change v / 128 / 256 ^ (sLen v - 1) = 0 ∨ v / 128 / 256 ^ (sLen v - 1) = -1 at he
  have hpos : (0 : Int) < 256 ^ (sLen v - 1) := Int.pow_pos (by omega)
  generalize (256 : Int) ^ (sLen v - 1) = p at *
  have e1 := Int.mul_ediv_add_emod (v / 128) p
  have e2 := Int.emod_nonneg (v / 128) (by omega : p ≠ 0)
  have e3 := Int.emod_lt_of_pos (v / 128) hpos
  rcases he with he | he
  · rw [he] at e1; omega
  · rw [he] at e1; omega
theorem takeS_back (v : Int) (h1 : -9223372036854775808 ≤ v) (h2 : v ≤ 9223372036854775807) : takeS (sOct v) = (v, 0) := by
  have hp := sLen_le v
  have hf := sLen_fits v h1 h2
  have hd := dS_lo (sLen v - 1) v hf.1 hf.2
  rw [show sLen v - 1 + 1 = sLen v from by omega] at hd
  have hl := sOct_length v
  change dS (sOct v) = v at hd
  generalize sOct v = xs at *
  cases xs with
  | nil => simp at hl; omega
  | cons x0 ys =>
    change sx x0 ys = v at hd
    simp only [List.length_cons] at hl
    rw [takeS, if_neg (by omega), hd, if_pos hl.symm]
theorem takeS_is {xs : List Int} (hx : Bytes8 xs) (h : (takeS xs).2 = 0) : sOct (takeS xs).1 = xs ∧ -9223372036854775808 ≤ (takeS xs).1 ∧ (takeS xs).1 ≤ 9223372036854775807 := by
  cases xs with
  | nil => simp [takeS] at h
  | cons x0 ys =>
    by_cases h8 : 8 < ys.length + 1
    · rw [takeS, if_pos h8] at h; simp at h
    · by_cases hs : sLen (sx x0 ys) = ys.length + 1
      · have e : takeS (x0 :: ys) = (sx x0 ys, 0) := by rw [takeS, if_neg h8, if_pos hs]
        rw [e]
        have hys : Bytes8 ys := fun x m => hx x (by simp [m])
        have hr := sx_range x0 ys.length ys hys (Nat.le_refl _)
        rw [List.take_of_length_le (Nat.le_refl _)] at hr
        have hp := (by decide +kernel : ∀ k : Fin 8, (256 : Int) ^ k.val ≤ 72057594037927936) ⟨ys.length, by omega⟩
        simp only at hp
        exact ⟨(sOct_iff x0 ys (hx x0 (by simp)) hys).2 hs, by simp only; omega, by simp only; omega⟩
      · rw [takeS, if_neg h8, if_neg hs] at h; simp at h

/-! ### unsigned -/
theorem beU_lo : ∀ (n : Nat) (v : Int), 0 ≤ v → v < 256 ^ n → beU (lo n v) = v := by
  intro n
  induction n with
  | zero => intro v h1 h2; simp at h2; simp [lo, beU]; omega
  | succ n ih =>
    intro v h1 h2
    rw [Int.pow_succ] at h2
    rw [lo, beU_snoc, ih (v / 256) (by omega) (by omega)]
    omega
theorem uAux_end (b : Int) (hb : 1 < b) (f : Nat) : ∀ r : Int, 0 ≤ r → r < b ^ f → r / b ^ (uAux b f r - 1) = 0 := by
  induction f with
  | zero => intro r h1 h2; simp [uAux]; simp at h2; omega
  | succ f ih =>
    intro r h1 h2
    by_cases h : r = 0
    · subst h; simp
    · rw [uAux, if_neg h]
      rw [Int.pow_succ] at h2
      have := ih (r / b) (Int.ediv_nonneg h1 (by omega)) (Int.ediv_lt_of_lt_mul (by omega) h2)
      have hp := uAux_pos b f (r / b)
      rw [show 1 + uAux b f (r / b) - 1 = (uAux b f (r / b) - 1) + 1 from by omega, Int.pow_succ, Int.mul_comm, ← Int.ediv_ediv_of_nonneg (by omega)]
      exact this
theorem lt_of_ediv_zero {a p : Int} (hp : 0 < p) (h : a / p = 0) : a < p := by
  have e1 := Int.mul_ediv_add_emod a p
  have e3 := Int.emod_lt_of_pos a hp
  rw [h] at e1; omega
theorem uLen_fits (v : Int) (h1 : 0 ≤ v) (h2 : v ≤ 18446744073709551615) : v < 256 ^ uLen v := by
  have he := uAux_end 256 (by omega) 7 (v / 256) (by omega) (by omega)
  have hp := (uLen_le v).1
  change v / 256 / 256 ^ (uLen v - 1) = 0 at he
  have hpos : (0 : Int) < 256 ^ (uLen v - 1) := Int.pow_pos (by omega)
  have := lt_of_ediv_zero hpos he
  rw [show uLen v = (uLen v - 1) + 1 from by omega, Int.pow_succ]
  omega
theorem takeU_back (v : Int) (h1 : 0 ≤ v) (h2 : v ≤ 18446744073709551615) : takeU (uOct v) = (v, 0) := by
  have hp := uLen_le v
  have hd : beU (uOct v) = v := beU_lo (uLen v) v h1 (uLen_fits v h1 h2)
  unfold takeU
  rw [uOct_length, if_neg (by omega), if_neg (by omega), hd, if_pos rfl]
theorem takeU_is {xs : List Int} (hx : Bytes8 xs) (h : (takeU xs).2 = 0) : uOct (takeU xs).1 = xs ∧ 0 ≤ (takeU xs).1 ∧ (takeU xs).1 ≤ 18446744073709551615 := by
  by_cases h0 : xs.length = 0
  · simp [takeU, h0] at h
  · by_cases h8 : 8 < xs.length
    · simp [takeU, h0, h8] at h
    · have e : takeU xs = if uLen (beU xs) = xs.length then (beU xs, 0) else (0, 4) := by simp [takeU, h0, h8]
      rw [e] at h ⊢
      by_cases hu : uLen (beU xs) = xs.length
      · rw [if_pos hu]
        have hr := beU_range xs.length xs hx (Nat.le_refl _)
        rw [List.take_of_length_le (Nat.le_refl _)] at hr
        have hp := (by decide +kernel : ∀ k : Fin 9, (256 : Int) ^ k.val ≤ 18446744073709551616) ⟨xs.length, by omega⟩
        simp only at hp
        exact ⟨(uOct_iff xs hx).2 hu, hr.1, by simp only; omega⟩
      · rw [if_neg hu] at h; simp at h

/-! ### groups -/
theorem uAux_min (b : Int) (hb : 1 < b) (f : Nat) : ∀ r : Int, 0 ≤ r → 1 < uAux b f r → r / b ^ (uAux b f r - 2) ≠ 0 := by
  induction f with
  | zero => intro r _ h; simp [uAux] at h
  | succ f ih =>
    intro r h1 h
    by_cases hr : r = 0
    · subst hr; simp [uAux] at h
    · rw [uAux, if_neg hr] at h ⊢
      by_cases h2 : 1 < uAux b f (r / b)
      · have := ih (r / b) (Int.ediv_nonneg h1 (by omega)) h2
        rw [show 1 + uAux b f (r / b) - 2 = (uAux b f (r / b) - 2) + 1 from by omega, Int.pow_succ, Int.mul_comm, ← Int.ediv_ediv_of_nonneg (by omega)]
        exact this
      · have hp := uAux_pos b f (r / b)
        rw [show 1 + uAux b f (r / b) - 2 = 0 from by omega]
        simpa using hr
theorem gLen_fits (v : Int) (h1 : 0 ≤ v) (h2 : v ≤ 18446744073709551615) : v < 128 ^ gLen v := by
  have he := uAux_end 128 (by omega) 9 (v / 128) (by omega) (by omega)
  have hp := (gLen_le v).1
  change v / 128 / 128 ^ (gLen v - 1) = 0 at he
  have hpos : (0 : Int) < 128 ^ (gLen v - 1) := Int.pow_pos (by omega)
  have := lt_of_ediv_zero hpos he
  rw [show gLen v = (gLen v - 1) + 1 from by omega, Int.pow_succ]
  omega
theorem gLen_top (v : Int) (h1 : 0 ≤ v) (h : 1 < gLen v) : v / 128 ^ (gLen v - 1) ≠ 0 := by
  have := uAux_min 128 (by omega) 9 (v / 128) (by omega) h
  change v / 128 / 128 ^ (gLen v - 2) ≠ 0 at this
  rw [show gLen v - 1 = (gLen v - 2) + 1 from by omega, Int.pow_succ, Int.mul_comm, ← Int.ediv_ediv_of_nonneg (by omega)]
  exact this
theorem takeG_gk (rest : List Int) (u : Int) (h0 : 0 ≤ u) (h1 : u ≤ 18446744073709551615) : ∀ (k i : Nat), (i = 0 → k = 0 ∨ u / 128 ^ k % 128 ≠ 0) →
    takeG i (u / 128 ^ (k + 1)) (gk k u ++ rest) = (u, (i : Int) + k + 1, 0) := by
  intro k
  induction k with
  | zero =>
    intro i _
    have e : gk 0 u ++ rest = u % 128 :: rest := by simp [gk, grp]
    rw [e, takeG_end _ _ _ _ (by simp; omega) (by omega)]
    simp; omega
  | succ k ih =>
    intro i hi
    have hge : 0 ≤ u / 128 ^ (k + 1 + 1) := grpV_nonneg u _ h0
    have hq : u / 128 ^ (k + 1 + 1) ≤ u / 128 := by
      rw [Int.pow_succ, Int.mul_comm, ← Int.ediv_ediv_of_nonneg (by omega)]
      exact Int.ediv_le_self _ (by omega)
    have hsplit : u / 128 ^ (k + 1 + 1) = u / 128 ^ (k + 1) / 128 := (pow_div u 128 (by omega) (k + 1)).symm
    rw [gk_head, List.cons_append, takeG_more _ _ _ _ (by
      intro h
      rcases h with ⟨hi0, hx⟩ | hb
      · rcases hi hi0 with h' | h'
        · omega
        · apply h'; omega
      · omega) (by omega)]
    have hv : u / 128 ^ (k + 1 + 1) * 128 + (u / 128 ^ (k + 1) % 128 + 128) % 128 = u / 128 ^ (k + 1) := by
      rw [hsplit]; omega
    rw [hv, ih (i + 1) (by omega)]
    simp; omega
theorem takeG_back (u : Int) (h0 : 0 ≤ u) (h1 : u ≤ 18446744073709551615) (rest : List Int) : takeG 0 0 (gOct u ++ rest) = (u, (gLen u : Int), 0) := by
  have hp := gLen_le u
  have hz : u / 128 ^ gLen u = 0 := Int.ediv_eq_zero_of_lt h0 (gLen_fits u h0 h1)
  have := takeG_gk rest u h0 h1 (gLen u - 1) 0 (fun _ => by
    by_cases h : gLen u - 1 = 0
    · exact .inl h
    · right
      have ht := gLen_top u h0 (by omega)
      have hlt : u / 128 ^ (gLen u - 1) < 128 := by
        apply Int.ediv_lt_of_lt_mul (Int.pow_pos (by omega))
        have := gLen_fits u h0 h1
        rw [show gLen u = (gLen u - 1) + 1 from by omega, Int.pow_succ] at this
        rw [Int.mul_comm]
        exact this
      have hnn := grpV_nonneg u (gLen u - 1) h0
      rw [Int.emod_eq_of_lt hnn hlt]
      exact ht)
  rw [show gLen u - 1 + 1 = gLen u from by omega, hz] at this
  rw [show gOct u = gk (gLen u - 1) u from rfl, this]
  congr 2
  simp; omega

theorem takeG_read : ∀ (xs : List Int) (i : Nat) (v : Int), Bytes8 xs → 0 ≤ v → (takeG i v xs).2.2 = 0 →
    ∃ k : Nat, (takeG i v xs).2.1 = (i : Int) + k + 1 ∧ k + 1 ≤ xs.length ∧ gk k (takeG i v xs).1 = xs.take (k + 1) ∧ (takeG i v xs).1 / 128 ^ (k + 1) = v ∧ 0 ≤ (takeG i v xs).1 ∧ (takeG i v xs).1 ≤ 18446744073709551615 ∧
      (i = 0 → v = 0 → k = 0 ∨ (takeG i v xs).1 / 128 ^ k ≠ 0)
  | [], _, _, _, _, h => by simp [takeG] at h
  | x :: xs, i, v, hx, hv, h => by
    obtain ⟨hx1, hx2⟩ := hx x (by simp)
    by_cases hb : (i = 0 ∧ x = 128) ∨ 144115188075855872 ≤ v
    · rw [takeG_bad _ _ _ _ hb] at h; simp at h
    · by_cases hlt : x < 128
      · rw [takeG_end _ _ _ _ hb hlt]
        refine ⟨0, by simp, by simp, ?_, ?_, by simp only; omega, by simp only; omega, fun _ _ => .inl rfl⟩
        · simp [gk, grp]; omega
        · simp; omega
      · rw [takeG_more _ _ _ _ hb hlt] at h ⊢
        obtain ⟨k, h1, h2, h3, h4, h5, h6, h7⟩ := takeG_read xs (i + 1) (v * 128 + x % 128) (fun y m => hx y (by simp [m])) (by omega) h
        generalize takeG (i + 1) (v * 128 + x % 128) xs = t at *
        refine ⟨k + 1, by rw [h1]; omega, by simp; omega, ?_, ?_, h5, h6, ?_⟩
        · rw [gk_head, h3, h4, List.take_succ_cons]
          congr 1
          omega
        · rw [← pow_div _ 128 (by omega) (k + 1), h4]; omega
        · intro hi hv0
          right
          rw [h4, hv0]
          intro h0
          apply hb
          exact .inl ⟨hi, by omega⟩
theorem pow_zero_of_le {r : Int} {a b : Nat} (hab : a ≤ b) (h : r / 128 ^ a = 0) : r / 128 ^ b = 0 := by
  obtain ⟨c, rfl⟩ : ∃ c, b = a + c := ⟨b - a, by omega⟩
  rw [Int.pow_add, ← Int.ediv_ediv_of_nonneg (Int.le_of_lt (Int.pow_pos (by omega))), h]
  simp
theorem gLen_unique {r : Int} {k : Nat} (h0 : 0 ≤ r) (h1 : r ≤ 18446744073709551615) (hz : r / 128 ^ (k + 1) = 0) (ht : k = 0 ∨ r / 128 ^ k ≠ 0) : gLen r = k + 1 := by
  have hg := gLen_le r
  have hf : r / 128 ^ gLen r = 0 := Int.ediv_eq_zero_of_lt h0 (gLen_fits r h0 h1)
  rcases Nat.lt_trichotomy (gLen r) (k + 1) with h | h | h
  · exfalso
    rcases ht with ht | ht
    · omega
    · exact ht (pow_zero_of_le (by omega) hf)
  · exact h
  · exfalso
    exact gLen_top r h0 (by omega) (pow_zero_of_le (by omega) hz)
theorem takeG_is {xs : List Int} (hx : Bytes8 xs) (h : (takeG 0 0 xs).2.2 = 0) :
    ∃ m : Nat, (takeG 0 0 xs).2.1 = (m : Int) ∧ 1 ≤ m ∧ m ≤ xs.length ∧ gOct (takeG 0 0 xs).1 = xs.take m ∧ 0 ≤ (takeG 0 0 xs).1 ∧ (takeG 0 0 xs).1 ≤ 18446744073709551615 := by
  obtain ⟨k, h1, h2, h3, h4, h5, h6, h7⟩ := takeG_read xs 0 0 hx (by omega) h
  have hg := gLen_unique h5 h6 h4 (h7 rfl rfl)
  refine ⟨k + 1, by rw [h1]; omega, by omega, h2, ?_, h5, h6⟩
  rw [← h3]
  unfold gOct gk
  rw [hg]; rfl

end Go.Proofs.Ytpogpjnbgdbpfaa
