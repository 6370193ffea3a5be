/- The contracts of TakeUnsigned and of its reference. -/
import Derived.Test.YtnbcehoddjcnoaaRefOct
namespace Go.Proofs.Ytnbcehoddjcnoaa
open Go.ChangeShapes Go.WideShapes Go.ChangeAt Go.RowKit

/-- The number whose octets these are, unsigned, the most significant one first. -/
def beU (xs : List Int) : Int := xs.foldl (fun v o => v * 256 + o) 0
theorem Holds.cells {w : World} {A : Option Addr} {xs : List Int} (h : Holds w A xs) (h0 : 0 < xs.length) : ∃ b o, A = some ⟨b, o, none⟩ ∧ ∀ k, k < xs.length → w.cell? ⟨b, o + k, none⟩ = some (.int .u8 (xs.getD k 0)) := by
  obtain ⟨b, o, rfl, _⟩ := h.at_ h0
  refine ⟨b, o, rfl, fun k hk => ?_⟩
  obtain ⟨b', o', e', hc⟩ := h.at_ hk
  injection e' with e'; injection e' with e1 e2 e3
  subst e1; subst e2
  exact hc
theorem beU_snoc (xs : List Int) (x : Int) : beU (xs ++ [x]) = beU xs * 256 + x := by simp [beU]
theorem take_snoc (xs : List Int) (k : Nat) (h : k < xs.length) : xs.take (k + 1) = xs.take k ++ [xs.getD k 0] := by
  rw [List.take_succ_eq_append_getElem h]; simp [h]
theorem getD_mem {xs : List Int} {k : Nat} (h : k < xs.length) : xs.getD k 0 ∈ xs := by
  rw [List.getD, List.getElem?_eq_getElem h]; exact List.getElem_mem h
theorem pow256u (k : Nat) (h : k ≤ 7) : (256 : Int) ^ k ≤ 72057594037927936 := by
  have := (by decide +kernel : ∀ k : Fin 8, (256 : Int) ^ k.val ≤ 72057594037927936) ⟨k, by omega⟩
  exact this
theorem beU_range : ∀ (k : Nat) (xs : List Int), Bytes8 xs → k ≤ xs.length → 0 ≤ beU (xs.take k) ∧ beU (xs.take k) < 256 ^ k := by
  intro k
  induction k with
  | zero => intro xs _ _; simp [beU]
  | succ k ih =>
    intro xs hx hk
    obtain ⟨h1, h2⟩ := ih xs hx (by omega)
    have hb := hx (xs.getD k 0) (getD_mem (by omega))
    rw [take_snoc xs k (by omega), beU_snoc, Int.pow_succ]
    omega
theorem lo_beU : ∀ (n : Nat) (xs : List Int), Bytes8 xs → xs.length = n → lo n (beU xs) = xs := by
  intro n
  induction n with
  | zero => intro xs _ h; have := List.eq_nil_of_length_eq_zero h; subst this; rfl
  | succ n ih =>
    intro xs hx h
    have ht := take_snoc xs n (by omega)
    rw [List.take_of_length_le (by omega)] at ht
    have hb := hx (xs.getD n 0) (getD_mem (by omega))
    have hi := ih (xs.take n) (fun x m => hx x (List.mem_of_mem_take m)) (by simp; omega)
    have e : beU xs = beU (xs.take n) * 256 + xs.getD n 0 := by rw [← beU_snoc, ← ht]
    rw [e]
    simp only [lo]
    rw [show (beU (xs.take n) * 256 + xs.getD n 0) / 256 = beU (xs.take n) from by omega, show (beU (xs.take n) * 256 + xs.getD n 0) % 256 = xs.getD n 0 from by omega, hi, ← ht]

/-- What TakeUnsigned answers. -/
def takeU (xs : List Int) : Int × Int :=
  if xs.length = 0 then (0, 3) else if 8 < xs.length then (0, 4) else if uLen (beU xs) = xs.length then (beU xs, 0) else (0, 4)
theorem uOct_iff (xs : List Int) (hx : Bytes8 xs) : uOct (beU xs) = xs ↔ uLen (beU xs) = xs.length := by
  constructor
  · intro h
    have := congrArg List.length h
    rwa [uOct_length] at this
  · intro h
    unfold uOct
    rw [h]
    exact lo_beU _ xs hx rfl
theorem u64_or_join (a o : Int) (ha : 0 ≤ a) (ha2 : a ≤ 18446744073709551615) (hm : a % 256 = 0) (ho : 0 ≤ o) (ho2 : o ≤ 255) : bits .or .u64 a o = a + o := by
  obtain ⟨x, rfl⟩ := Int.eq_ofNat_of_zero_le ha
  obtain ⟨y, rfl⟩ := Int.eq_ofNat_of_zero_le ho
  rw [u64_or_nat x y (by omega) (by omega), nat_join 8 x y (by omega) (by omega)]
  omega

theorem bytes8_getD {xs : List Int} (hx : Bytes8 xs) (k : Nat) : 0 ≤ xs.getD k 0 ∧ xs.getD k 0 ≤ 255 := by
  by_cases h : k < xs.length
  · exact hx _ (getD_mem h)
  · rw [List.getD, List.getElem?_eq_none (by omega)]; simp

theorem ret_ii {k1 k2 : IntKind} {a b c d : Int} (h : a = b) (h2 : c = d) : Ending.returned (.tuple #[.int k1 a, .int k2 c]) = .returned (.tuple #[.int k1 b, .int k2 d]) := by rw [h, h2]

set_option maxHeartbeats 2000000 in
theorem takeUnsigned_any (A : Option Addr) (xs : List Int) (c : Nat) (hx : Bytes8 xs) (hl : xs.length ≤ maxLen) (w : World) (hh : Holds w A xs) :
    Calls Try.prog 87 #[.slice A xs.length c] w fun e w' => e = .returned (.tuple #[.int .u64 (takeU xs).1, .int .i64 (takeU xs).2]) ∧ Keeps w w' := by
  unfold maxLen at hl
  by_cases h0 : xs.length = 0
  · have hz : takeU xs = (0, 3) := by simp [takeU, h0]
    rw [hz, h0]
    go_enter Try.func87, Try.ntmps87
    go_wp2
    go_ret2
    exact ⟨rfl, Keeps.refl _⟩
  · by_cases h8 : 8 < xs.length
    · have hz : takeU xs = (0, 4) := by simp [takeU, h0, h8]
      rw [hz]
      have e0 : ((xs.length : Int) == 0) = false := beq_eq_false_iff_ne.2 (by omega)
      have e1 : 0 < xs.length := by omega
      clear h0
      go_enter Try.func87, Try.ntmps87
      go_wp2
      go_ret2
      exact ⟨rfl, Keeps.refl _⟩
    · have e0 : ((xs.length : Int) == 0) = false := beq_eq_false_iff_ne.2 (by omega)
      have e1 : 0 < xs.length := by omega
      have e2 : xs.length ≤ 8 := by omega
      have hz : takeU xs = if uLen (beU xs) = xs.length then (beU xs, 0) else (0, 4) := by simp [takeU, h0, h8]
      have HZ := hide hz
      clear h0 h8 hz
      obtain ⟨b, o, rfl, hcs⟩ := hh.cells e1
      have HC := hide hcs
      have HX := hide hx
      clear hcs hh hx
      generalize hn : xs.length = n at *
      have HN := hide hn
      clear hn
      go_enter Try.func87, Try.ntmps87
      go_wp2
      go_loop [4, 15] (fun v i => ∃ k : Nat, k ≤ n ∧ i = .int .i64 k ∧ v = .int .u64 (beU (xs.take k))) (fun _ i => n - (intOf i).toNat)
      case atStart => exact ⟨0, by omega, rfl, rfl⟩
      case round =>
        obtain ⟨k, hk, rfl, rfl⟩ := hrel
        have hb := beU_range k xs (unhide HX) (by rw [unhide HN]; exact hk)
        obtain ⟨hb1, hb2⟩ := hb
        by_cases hlt : k < n
        · have hsn : beU (xs.take (k + 1)) = beU (xs.take k) * 256 + xs.getD k 0 := by rw [take_snoc xs k (by rw [unhide HN]; exact hlt), beU_snoc]
          have HS := hide hsn
          have hc := unhide HC k hlt
          obtain ⟨hx1, hx2⟩ := bytes8_getD (unhide HX) k
          have hv : beU (xs.take k) ≤ 72057594037927935 := by
            have := pow256u k (by omega)
            omega
          clear hsn hb2
          generalize beU (xs.take k) = v at *
          generalize xs.getD k 0 = x at *
          have hj := u64_or_join (v * 256) x (by omega) (by omega) (by omega) hx1 hx2
          go_wp2
          exact ⟨⟨k + 1, by omega, by go_num, by rw [unhide HS]⟩, by simp [intOf]; omega⟩
        · obtain rfl : k = n := by omega
          rw [List.take_of_length_le (by rw [unhide HN]; exact Nat.le_refl _)] at hb1 hb2 ⊢
          have hv : beU xs ≤ 18446744073709551615 := by
            have := (by decide +kernel : ∀ k : Fin 9, (256 : Int) ^ k.val ≤ 18446744073709551616) ⟨k, by omega⟩
            simp only at this
            omega
          clear hb2
          by_cases hu : uLen (beU xs) = k
          · have HT : Hid (takeU xs = (beU xs, 0)) := by have := unhide HZ; rw [if_pos hu] at this; exact this
            have HU := hide hu
            clear hu
            go_wp2_with fail
            refine (unsigned_any _ hb1 hv _).mono ?_
            rintro e w1 ⟨A1, c1, rfl, hc1, hf1⟩
            rw [uOct_length, unhide HU]
            go_wp2
            go_ret2
            exact ⟨ret_ii (by rw [unhide HT]) (by rw [unhide HT]), hf1.2⟩
          · have HT : Hid (takeU xs = (0, 4)) := by have := unhide HZ; rw [if_neg hu] at this; exact this
            have hne : ((uLen (beU xs) : Int) != (k : Int)) = true := by rw [bne_iff_ne]; omega
            have hne2 : ((uLen (beU xs) : Int) == (k : Int)) = false := by rw [beq_eq_false_iff_ne]; omega
            clear hu
            go_wp2_with fail
            refine (unsigned_any _ hb1 hv _).mono ?_
            rintro e w1 ⟨A1, c1, rfl, hc1, hf1⟩
            rw [uOct_length]
            go_wp2
            go_ret2
            exact ⟨ret_ii (by rw [unhide HT]) (by rw [unhide HT]), hf1.2⟩

end Go.Proofs.Ytnbcehoddjcnoaa
