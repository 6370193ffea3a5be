/- The contract of TakeSigned. -/
import Derived.Test.YtpogpjnbgdbpfaaTakeR
namespace Go.Proofs.Ytpogpjnbgdbpfaa
open Go.ChangeShapes Go.WideShapes Go.ChangeAt Go.RowKit

def s8 (x : Int) : Int := (x + 128) % 256 - 128
/-- The number whose octets these are, signed: the first one, and those behind it. -/
def sx (x0 : Int) (ys : List Int) : Int := ys.foldl (fun v o => v * 256 + o) (s8 x0)
theorem sx_snoc (x0 : Int) (ys : List Int) (y : Int) : sx x0 (ys ++ [y]) = sx x0 ys * 256 + y := by simp [sx]
theorem sx_range (x0 : Int) : ∀ (k : Nat) (ys : List Int), Bytes8 ys → k ≤ ys.length → -128 * 256 ^ k ≤ sx x0 (ys.take k) ∧ sx x0 (ys.take k) < 128 * 256 ^ k := by
  intro k
  induction k with
  | zero => intro ys _ _; simp [sx, s8]; omega
  | succ k ih =>
    intro ys hx hk
    obtain ⟨h1, h2⟩ := ih ys hx (by omega)
    have hb := hx (ys.getD k 0) (getD_mem (by omega))
    rw [take_snoc ys k (by omega), sx_snoc, Int.pow_succ]
    omega
theorem lo_sx (x0 : Int) (h0 : 0 ≤ x0 ∧ x0 ≤ 255) : ∀ (n : Nat) (ys : List Int), Bytes8 ys → ys.length = n → lo (n + 1) (sx x0 ys) = x0 :: ys := by
  intro n
  induction n with
  | zero =>
    intro ys _ h
    have := List.eq_nil_of_length_eq_zero h
    subst this
    simp [lo, sx, s8]; omega
  | succ n ih =>
    intro ys hx h
    have ht := take_snoc ys n (by omega)
    rw [List.take_of_length_le (by omega)] at ht
    have hb := hx (ys.getD n 0) (getD_mem (by omega))
    have hi := ih (ys.take n) (fun x m => hx x (List.mem_of_mem_take m)) (by simp; omega)
    have e : sx x0 ys = sx x0 (ys.take n) * 256 + ys.getD n 0 := by rw [← sx_snoc, ← ht]
    rw [e, lo]
    rw [show (sx x0 (ys.take n) * 256 + ys.getD n 0) / 256 = sx x0 (ys.take n) from by omega, show (sx x0 (ys.take n) * 256 + ys.getD n 0) % 256 = ys.getD n 0 from by omega, hi, List.cons_append, ← ht]

/-- What TakeSigned answers. -/
def takeS : List Int → Int × Int
  | [] => (0, 3)
  | x0 :: ys => if 8 < ys.length + 1 then (0, 4) else if sLen (sx x0 ys) = ys.length + 1 then (sx x0 ys, 0) else (0, 4)
theorem sOct_iff (x0 : Int) (ys : List Int) (h0 : 0 ≤ x0 ∧ x0 ≤ 255) (hx : Bytes8 ys) : sOct (sx x0 ys) = x0 :: ys ↔ sLen (sx x0 ys) = ys.length + 1 := by
  constructor
  · intro h
    have := congrArg List.length h
    rw [sOct_length] at this
    simpa using this
  · intro h
    unfold sOct
    rw [h]
    exact lo_sx x0 h0 _ ys hx rfl
theorem i64_or_join (a o : Int) (ha : -9223372036854775808 ≤ a) (ha2 : a ≤ 9223372036854775807) (hm : a % 256 = 0) (ho : 0 ≤ o) (ho2 : o ≤ 255) : bits .or .i64 a o = a + o := by
  show IntKind.i64.wrap ((BitVec.ofInt 64 a ||| BitVec.ofInt 64 o).toNat : Int) = _
  rw [BitVec.toNat_or, BitVec.toNat_ofInt, BitVec.toNat_ofInt, nat_join 8 _ _ (by omega) (by omega), IntKind.wrap_i64]
  omega

theorem pow256' (k : Nat) (h : k ≤ 6) : (256 : Int) ^ k ≤ 281474976710656 := by
  have := (by decide +kernel : ∀ k : Fin 7, (256 : Int) ^ k.val ≤ 281474976710656) ⟨k, by omega⟩
  exact this
theorem s8_conv (x : Int) : wrap64 (IntKind.i8.wrap x) = s8 x := by
  rw [show IntKind.i8.wrap x = s8 x from by simp [IntKind.wrap, IntKind.bits, IntKind.signed, s8]; split <;> omega]
  unfold wrap64 s8; omega

set_option maxHeartbeats 4000000 in
theorem takeSigned_cons (b o : Nat) (x0 : Int) (ys : List Int) (c : Nat) (h0 : 0 ≤ x0 ∧ x0 ≤ 255) (hx : Bytes8 ys) (hl : ys.length + 1 ≤ 8) (hcap : ys.length + 1 ≤ c) (w : World)
    (hc0 : w.cell? ⟨b, o, none⟩ = some (.int .u8 x0)) (hcs : ∀ k, k < ys.length → w.cell? ⟨b, o + 1 + k, none⟩ = some (.int .u8 (ys.getD k 0))) :
    Calls Try.prog 29 #[.slice (some ⟨b, o, none⟩) (ys.length + 1) c] w fun e w' => e = .returned (.tuple #[.int .i64 (takeS (x0 :: ys)).1, .int .i64 (takeS (x0 :: ys)).2]) ∧ Keeps w w' := by
  obtain ⟨h01, h02⟩ := h0
  have HC := hide hcs
  have HX := hide hx
  clear hcs hx
  generalize hn : ys.length = n at *
  have HN := hide hn
  clear hn
  have e0 : ((n : Int) + 1 == 0) = false := beq_eq_false_iff_ne.2 (by omega)
  by_cases hc1 : c = 1
  · have hn0 : n = 0 := by omega
    have hys : ys = [] := List.eq_nil_of_length_eq_zero (by rw [unhide HN]; exact hn0)
    subst hc1
    subst hn0
    subst hys
    have hs1 : sLen (s8 x0) = 1 := by unfold sLen; exact sAux_last 7 _ (by unfold s8; omega)
    have HT : Hid (takeS [x0] = (s8 x0, 0)) := by
      show takeS [x0] = (s8 x0, 0)
      rw [takeS, if_neg (by simp), if_pos (by simpa [sx] using hs1)]; rfl
    have hv1 : -9223372036854775808 ≤ s8 x0 := by unfold s8; omega
    have hv2 : s8 x0 ≤ 9223372036854775807 := by unfold s8; omega
    have HS1 := hide hs1
    clear hs1
    go_enter Try.func29, Try.ntmps29
    go_wp2
    rw [s8_conv]
    go_loop [4, 21] (fun v i => i = .int .i64 0 ∧ v = .int .i64 (s8 x0)) (fun _ _ => 0)
    case atStart => exact ⟨rfl, rfl⟩
    case round =>
      obtain ⟨rfl, rfl⟩ := hrel
      go_wp2_with fail
      refine (signed_any _ hv1 hv2 _).mono ?_
      rintro e w1 ⟨A1, c1, rfl, hc1, hf1⟩
      rw [sOct_length, unhide HS1]
      go_wp2
      go_ret2
      exact ⟨ret_ii (by rw [unhide HT]) (by rw [unhide HT]), hf1.2⟩
  · have hcc : 1 < c := by omega
    go_enter Try.func29, Try.ntmps29
    go_wp2
    rw [s8_conv]
    go_loop [4, 21] (fun v i => ∃ k : Nat, k ≤ n ∧ i = .int .i64 k ∧ v = .int .i64 (sx x0 (ys.take k))) (fun _ i => n + 2 - (intOf i).toNat)
    case atStart => exact ⟨0, by omega, rfl, by simp [sx]⟩
    case round =>
      obtain ⟨k, hk, rfl, rfl⟩ := hrel
      have hb := sx_range x0 k ys (unhide HX) (by rw [unhide HN]; exact hk)
      obtain ⟨hb1, hb2⟩ := hb
      by_cases hlt : k < n
      · have hsn : sx x0 (ys.take (k + 1)) = sx x0 (ys.take k) * 256 + ys.getD k 0 := by rw [take_snoc ys k (by rw [unhide HN]; exact hlt), sx_snoc]
        have HS := hide hsn
        have hc := unhide HC k hlt
        obtain ⟨hx1, hx2⟩ := bytes8_getD (unhide HX) k
        have hp := pow256' k (by omega)
        have hv1 : -36028797018963968 ≤ sx x0 (ys.take k) := by omega
        have hv2 : sx x0 (ys.take k) < 36028797018963968 := by omega
        clear hsn hb1 hb2 hp
        generalize sx x0 (ys.take k) = v at *
        generalize ys.getD k 0 = x at *
        have hj := i64_or_join (v * 256) x (by omega) (by omega) (by omega) hx1 hx2
        go_wp2
        exact ⟨⟨k + 1, by omega, by go_num, by rw [unhide HS]⟩, by simp [intOf]; omega⟩
      · obtain rfl : k = n := by omega
        rw [List.take_of_length_le (by rw [unhide HN]; exact Nat.le_refl _)] at hb1 hb2 ⊢
        have hp := (by decide +kernel : ∀ k : Fin 8, (256 : Int) ^ k.val ≤ 72057594037927936) ⟨k, by omega⟩
        simp only at hp
        have hv1 : -9223372036854775808 ≤ sx x0 ys := by omega
        have hv2 : sx x0 ys ≤ 9223372036854775807 := by omega
        clear hb1 hb2 hp
        by_cases hu : sLen (sx x0 ys) = k + 1
        · have HT : Hid (takeS (x0 :: ys) = (sx x0 ys, 0)) := by
            show takeS (x0 :: ys) = (sx x0 ys, 0)
            rw [takeS, unhide HN, if_neg (by omega), if_pos hu]
          have HU := hide hu
          clear hu
          go_wp2_with fail
          refine (signed_any _ hv1 hv2 _).mono ?_
          rintro e w1 ⟨A1, c1, rfl, hc1, hf1⟩
          rw [sOct_length, unhide HU]
          go_wp2
          go_ret2
          exact ⟨ret_ii (by rw [unhide HT]) (by rw [unhide HT]), hf1.2⟩
        · have HT : Hid (takeS (x0 :: ys) = (0, 4)) := by
            show takeS (x0 :: ys) = (0, 4)
            rw [takeS, unhide HN, if_neg (by omega), if_neg hu]
          have hne : ((sLen (sx x0 ys) : Int) != (k : Int) + 1) = true := by rw [bne_iff_ne]; omega
          have hne2 : ((sLen (sx x0 ys) : Int) == (k : Int) + 1) = false := by rw [beq_eq_false_iff_ne]; omega
          clear hu
          go_wp2_with fail
          refine (signed_any _ hv1 hv2 _).mono ?_
          rintro e w1 ⟨A1, c1, rfl, hc1, hf1⟩
          rw [sOct_length]
          go_wp2
          go_ret2
          exact ⟨ret_ii (by rw [unhide HT]) (by rw [unhide HT]), hf1.2⟩

theorem takeSigned_any (A : Option Addr) (xs : List Int) (c : Nat) (hx : Bytes8 xs) (hl : xs.length ≤ maxLen) (hcap : xs.length ≤ c) (w : World) (hh : Holds w A xs) :
    Calls Try.prog 29 #[.slice A xs.length c] w fun e w' => e = .returned (.tuple #[.int .i64 (takeS xs).1, .int .i64 (takeS xs).2]) ∧ Keeps w w' := by
  unfold maxLen at hl
  cases xs with
  | nil =>
    go_enter Try.func29, Try.ntmps29
    go_wp2
    go_ret2
    exact ⟨rfl, Keeps.refl _⟩
  | cons x0 ys =>
    simp only [List.length_cons] at hl hcap ⊢
    by_cases h8 : 8 < ys.length + 1
    · have hz : takeS (x0 :: ys) = (0, 4) := by rw [takeS, if_pos h8]
      rw [hz]
      have e0 : ((ys.length : Int) + 1 == 0) = false := beq_eq_false_iff_ne.2 (by omega)
      have e1 : (8 : Int) < (ys.length : Int) + 1 := by omega
      clear hz
      go_enter Try.func29, Try.ntmps29
      go_wp2
      go_ret2
      exact ⟨rfl, Keeps.refl _⟩
    · obtain ⟨b, o, rfl, hcs⟩ := hh.cells (by simp)
      have h0 := hcs 0 (by simp)
      rw [Nat.add_zero] at h0
      exact takeSigned_cons b o x0 ys c (hx x0 (by simp)) (fun x m => hx x (by simp [m])) (by omega) hcap w h0 (fun k hk => by
        have := hcs (k + 1) (by simp; omega)
        rw [show o + 1 + k = o + (k + 1) from by omega]
        simpa using this)

end Go.Proofs.Ytpogpjnbgdbpfaa
