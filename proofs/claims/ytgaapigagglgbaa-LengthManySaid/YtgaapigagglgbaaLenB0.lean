/- What Put has written, read again: numbers; the contract of a taker's determinant. -/
import Derived.Test.YtgaapigagglgbaaLenP
import Derived.Test.YtgaapigagglgbaaWhR4
namespace Go.Proofs.Ytgaapigagglgbaa
open Go.ChangeShapes Go.WideShapes Go.ChangeAt Go.RowKit
set_option linter.unusedVariables false

theorem appB_div (xs : List Int) (h : B8 xs) : ∀ N : Int, appB N xs / 2 ^ (8 * xs.length) = N := by
  induction xs with
  | nil => intro N; simp [appB]
  | cons x xs ih =>
    intro N
    have hx := h x (by simp)
    have e : appB N (x :: xs) = appB (N * 256 + x) xs := rfl
    rw [e, show 8 * (x :: xs).length = 8 * xs.length + 8 from by simp; omega, Int.pow_add, ← Int.ediv_ediv_of_nonneg (Int.le_of_lt (two_pos _)), ih (fun y hy => h y (by simp [hy])), show (2 : Int) ^ 8 = 256 from by decide]
    omega
theorem appB_range (xs : List Int) (h : B8 xs) : ∀ (N : Int) (n : Nat), 0 ≤ N → N < 2 ^ n → 0 ≤ appB N xs ∧ appB N xs < 2 ^ (n + 8 * xs.length) := by
  induction xs with
  | nil => intro N n h0 h1; exact ⟨h0, h1⟩
  | cons x xs ih =>
    intro N n h0 h1
    have hx := h x (by simp)
    have := ih (fun y hy => h y (by simp [hy])) (N * 256 + x) (n + 8) (by omega) (by
      rw [Int.pow_add, show (2 : Int) ^ 8 = 256 from by decide]; omega)
    rw [show n + 8 + 8 * xs.length = n + 8 * (x :: xs).length from by simp; omega] at this
    exact this
theorem rd_octW (N : Int) (n at_ k : Nat) (h0 : 0 ≤ N) (h1 : N < 2 ^ n) (h : at_ + k ≤ n) : rd (octW N n) at_ k = N / 2 ^ (n - at_ - k) % 2 ^ k := by
  unfold octW
  by_cases hn : n = 0
  · obtain rfl : k = 0 := by omega
    rw [if_pos hn, rd_zero, Int.pow_zero]; omega
  · rw [if_neg hn]; exact rd_oct N n at_ k h0 h1 h
theorem tot_low (N v : Int) (k : Nat) : tot N v k % 2 ^ k = v % 2 ^ k := by
  unfold tot
  rw [Int.add_comm, Int.add_mul_emod_self_right, Int.emod_emod_of_dvd _ (Int.dvd_refl _)]
theorem appB_own (xs : List Int) (h : B8 xs) (N : Int) (j : Nat) (hj : j < xs.length) : appB N xs / 2 ^ (8 * (xs.length - 1 - j)) % 2 ^ 8 = xs.getD j 0 := by
  have hlo : lo xs.length (appB N xs) = xs := by
    have := appB_lo xs 0 N h
    simp only [Nat.zero_add, lo, List.nil_append] at this
    exact this.symm
  have e2 := lo_getD xs.length (appB N xs) j hj
  rw [hlo] at e2
  rw [e2, pow256, show (2 : Int) ^ 8 = 256 from by decide]
theorem rdO_ext (ys xs : List Int) (at_ : Nat) (h : ∀ j, j < xs.length → rd ys (at_ + 8 * j) 8 = xs.getD j 0) : rdO ys at_ xs.length = xs := by
  apply List.ext_getElem
  · rw [rdO_length]
  · intro j hj1 hj2
    have e1 : (rdO ys at_ xs.length)[j] = rd ys (at_ + 8 * j) 8 := by simp [rdO]
    rw [e1, h j hj2]
    simp [hj2]
theorem end_octW (N : Int) (n : Nat) (h0 : 0 ≤ N) (h1 : N < 2 ^ n) : wendV (octW N n) n 0 = 0 := by
  unfold wendV
  rw [if_neg (fun h => h rfl)]
  by_cases hn : n = 0
  · subst hn
    rw [if_pos]
    refine ⟨rfl, rfl, ?_⟩
    rw [show octW N 0 = [0] from rfl]
    decide
  · split
    · rfl
    · have e : octW N n = oct N n := if_neg hn
      rw [e]
      have hl := oct_length N n
      unfold endV
      rw [if_neg (fun h => h rfl), if_neg (by omega), if_neg]
      unfold rd
      rw [bv_oct N n h0 h1, hl, Nat.sub_self, Int.pow_zero, Int.ediv_one]
      intro h
      exact h (Int.mul_emod_left _ _)

theorem detV_range (k : Nat) (h : k ≤ 65536) : 0 ≤ detV k ∧ detV k < 2 ^ detB k := by
  unfold detV detB
  split
  · exact ⟨by omega, by rw [show (2 : Int) ^ 8 = 256 from by decide]; omega⟩
  · split
    · exact ⟨by omega, by rw [show (2 : Int) ^ 16 = 65536 from by decide]; omega⟩
    · exact ⟨by omega, by rw [show (2 : Int) ^ 8 = 256 from by decide]; omega⟩
/-- One fragment: its range, what stands ahead of it, and how it is read. -/
def fragK (k : Nat) : Nat := detB k + 8 * k
theorem frag_range (N : Int) (n : Nat) (xs : List Int) (hx : B8 xs) (h0 : 0 ≤ N) (h1 : N < 2 ^ n) : 0 ≤ oneN N xs.length xs ∧ oneN N xs.length xs < 2 ^ (n + fragK xs.length) := by
  have a := tot_range N (detV xs.length) n (detB xs.length) h0 h1
  have b := appB_range xs hx _ _ a.1 a.2
  unfold fragK oneN
  rw [← Nat.add_assoc]
  exact b
theorem frag_div (N : Int) (xs : List Int) (hx : B8 xs) : oneN N xs.length xs / 2 ^ fragK xs.length = N := by
  unfold fragK oneN
  rw [Nat.add_comm, Int.pow_add, ← Int.ediv_ediv_of_nonneg (Int.le_of_lt (two_pos _)), appB_div xs hx, tot_start]
/-- The fragments of Put stand in ys from a place on. -/
def PutAt (ys : List Int) : Nat → Nat → List Int → Prop
  | 0, a, xs => rd ys a (detB xs.length) = detV xs.length ∧ rdO ys (a + detB xs.length) xs.length = xs
  | f + 1, a, xs => rd ys a (detB (cutI xs.length)) = detV (cutI xs.length) ∧ rdO ys (a + detB (cutI xs.length)) (cutI xs.length) = xs.take (cutI xs.length) ∧ (16384 ≤ xs.length → PutAt ys f (a + fragK (cutI xs.length)) (xs.drop (cutI xs.length)))
theorem PutAt.here {ys : List Int} {f a : Nat} {xs : List Int} (h : PutAt ys f a xs) (hf : xs.length < 16384 * (f + 1)) :
    rd ys a (detB (cutI xs.length)) = detV (cutI xs.length) ∧ rdO ys (a + detB (cutI xs.length)) (cutI xs.length) = xs.take (cutI xs.length) := by
  cases f with
  | zero =>
    rw [cutI_small (by omega), List.take_length]
    exact h
  | succ f => exact ⟨h.1, h.2.1⟩
theorem PutAt.next {ys : List Int} {f a : Nat} {xs : List Int} (h : PutAt ys f a xs) (hf : xs.length < 16384 * (f + 1)) (hm : 16384 ≤ xs.length) :
    ∃ f', PutAt ys f' (a + fragK (cutI xs.length)) (xs.drop (cutI xs.length)) ∧ (xs.drop (cutI xs.length)).length < 16384 * (f' + 1) := by
  have hb := cutI_big hm
  cases f with
  | zero => omega
  | succ f => exact ⟨f, h.2.2 hm, by rw [List.length_drop]; omega⟩
/-- The numbers of what is written. -/
theorem put_range (f : Nat) : ∀ (N : Int) (n : Nat) (xs : List Int), B8 xs → 0 ≤ N → N < 2 ^ n → xs.length < 16384 * (f + 1) → 0 ≤ putN f N xs ∧ putN f N xs < 2 ^ (n + putK f xs.length) := by
  induction f with
  | zero => intro N n xs hx h0 h1 _; exact frag_range N n xs hx h0 h1
  | succ f ih =>
    intro N n xs hx h0 h1 hf
    by_cases hm : xs.length < 16384
    · have e1 : putN (f + 1) N xs = oneN N xs.length xs := if_pos hm
      have e2 : putK (f + 1) xs.length = detB xs.length + 8 * xs.length := if_pos hm
      rw [e1, e2]
      exact frag_range N n xs hx h0 h1
    · have hb := cutI_big (n := xs.length) (by omega)
      have e1 : putN (f + 1) N xs = putN f (oneN N (cutI xs.length) (xs.take (cutI xs.length))) (xs.drop (cutI xs.length)) := if_neg hm
      have e2 : putK (f + 1) xs.length = detB (cutI xs.length) + 8 * cutI xs.length + putK f (xs.length - cutI xs.length) := if_neg hm
      have ht : (xs.take (cutI xs.length)).length = cutI xs.length := by rw [List.length_take]; omega
      have hr := frag_range N n (xs.take (cutI xs.length)) (fun x h => hx x (List.mem_of_mem_take h)) h0 h1
      rw [ht] at hr
      have := ih _ _ (xs.drop (cutI xs.length)) (fun x h => hx x (List.mem_of_mem_drop h)) hr.1 hr.2 (by rw [List.length_drop]; omega)
      rw [List.length_drop] at this
      rw [e1, e2]
      unfold fragK at this
      rw [show n + (detB (cutI xs.length) + 8 * cutI xs.length + putK f (xs.length - cutI xs.length)) = n + (detB (cutI xs.length) + 8 * cutI xs.length) + putK f (xs.length - cutI xs.length) from by omega]
      exact this
theorem put_div (f : Nat) : ∀ (N : Int) (xs : List Int), B8 xs → xs.length < 16384 * (f + 1) → putN f N xs / 2 ^ putK f xs.length = N := by
  induction f with
  | zero => intro N xs hx _; exact frag_div N xs hx
  | succ f ih =>
    intro N xs hx hf
    by_cases hm : xs.length < 16384
    · have e1 : putN (f + 1) N xs = oneN N xs.length xs := if_pos hm
      have e2 : putK (f + 1) xs.length = detB xs.length + 8 * xs.length := if_pos hm
      rw [e1, e2]
      exact frag_div N xs hx
    · have hb := cutI_big (n := xs.length) (by omega)
      have e1 : putN (f + 1) N xs = putN f (oneN N (cutI xs.length) (xs.take (cutI xs.length))) (xs.drop (cutI xs.length)) := if_neg hm
      have e2 : putK (f + 1) xs.length = detB (cutI xs.length) + 8 * cutI xs.length + putK f (xs.length - cutI xs.length) := if_neg hm
      have ht : (xs.take (cutI xs.length)).length = cutI xs.length := by rw [List.length_take]; omega
      have := ih (oneN N (cutI xs.length) (xs.take (cutI xs.length))) (xs.drop (cutI xs.length)) (fun x h => hx x (List.mem_of_mem_drop h)) (by rw [List.length_drop]; omega)
      rw [List.length_drop] at this
      rw [e1, e2, Nat.add_comm, Int.pow_add, ← Int.ediv_ediv_of_nonneg (Int.le_of_lt (two_pos _)), this]
      have h2 := frag_div N (xs.take (cutI xs.length)) (fun x h => hx x (List.mem_of_mem_take h))
      rw [ht] at h2
      exact h2
/-- A fragment that stands there is read. -/
theorem frag_at {ys : List Int} {NF : Int} {nF : Nat} (hrd : ∀ a k, a + k ≤ nF → rd ys a k = NF / 2 ^ (nF - a - k) % 2 ^ k) (N : Int) (n r : Nat) (xs : List Int) (hx : B8 xs) (hk : xs.length ≤ 65536) (hn : n + fragK xs.length + r = nF) (hd : NF / 2 ^ r = oneN N xs.length xs) :
    rd ys n (detB xs.length) = detV xs.length ∧ rdO ys (n + detB xs.length) xs.length = xs := by
  unfold fragK at hn
  have hv := detV_range xs.length hk
  refine ⟨?_, rdO_ext _ _ _ fun j hj => ?_⟩
  · rw [hrd _ _ (by omega), show nF - n - detB xs.length = r + 8 * xs.length from by omega, Int.pow_add, ← Int.ediv_ediv_of_nonneg (Int.le_of_lt (two_pos _)), hd]
    unfold oneN
    rw [appB_div xs hx, tot_low]
    exact Int.emod_eq_of_lt hv.1 hv.2
  · rw [hrd _ _ (by omega), show nF - (n + detB xs.length + 8 * j) - 8 = r + 8 * (xs.length - 1 - j) from by omega, Int.pow_add, ← Int.ediv_ediv_of_nonneg (Int.le_of_lt (two_pos _)), hd]
    exact appB_own xs hx _ j hj
theorem put_at {ys : List Int} {NF : Int} {nF : Nat} (hrd : ∀ a k, a + k ≤ nF → rd ys a k = NF / 2 ^ (nF - a - k) % 2 ^ k) (f : Nat) : ∀ (N : Int) (n : Nat) (xs : List Int), B8 xs → xs.length < 16384 * (f + 1) → putN f N xs = NF → n + putK f xs.length = nF → PutAt ys f n xs := by
  induction f with
  | zero =>
    intro N n xs hx hf hN hn
    exact frag_at hrd N n 0 xs hx (by omega) (by unfold fragK; simpa [putK] using hn) (by rw [Int.pow_zero, Int.ediv_one, ← hN]; rfl)
  | succ f ih =>
    intro N n xs hx hf hN hn
    by_cases hm : xs.length < 16384
    · have e1 : putN (f + 1) N xs = oneN N xs.length xs := if_pos hm
      have e2 : putK (f + 1) xs.length = detB xs.length + 8 * xs.length := if_pos hm
      rw [e1] at hN
      rw [e2] at hn
      have := frag_at hrd N n 0 xs hx (by omega) (by unfold fragK; omega) (by rw [Int.pow_zero, Int.ediv_one, ← hN])
      unfold PutAt
      rw [cutI_small hm, List.take_length]
      exact ⟨this.1, this.2, fun h => by omega⟩
    · have hb := cutI_big (n := xs.length) (by omega)
      have e1 : putN (f + 1) N xs = putN f (oneN N (cutI xs.length) (xs.take (cutI xs.length))) (xs.drop (cutI xs.length)) := if_neg hm
      have e2 : putK (f + 1) xs.length = detB (cutI xs.length) + 8 * cutI xs.length + putK f (xs.length - cutI xs.length) := if_neg hm
      rw [e1] at hN
      rw [e2] at hn
      have ht : (xs.take (cutI xs.length)).length = cutI xs.length := by rw [List.length_take]; omega
      have hdl : (xs.drop (cutI xs.length)).length = xs.length - cutI xs.length := List.length_drop
      have hd := put_div f (oneN N (cutI xs.length) (xs.take (cutI xs.length))) (xs.drop (cutI xs.length)) (fun x h => hx x (List.mem_of_mem_drop h)) (by omega)
      rw [hN, hdl] at hd
      have hfr := frag_at hrd N n (putK f (xs.length - cutI xs.length)) (xs.take (cutI xs.length)) (fun x h => hx x (List.mem_of_mem_take h)) (by rw [ht]; exact cutI_max _) (by rw [ht]; unfold fragK; omega) (by rw [ht]; exact hd)
      rw [ht] at hfr
      unfold PutAt
      exact ⟨hfr.1, hfr.2, fun _ => ih _ _ _ (fun x h => hx x (List.mem_of_mem_drop h)) (by omega) hN (by rw [hdl]; unfold fragK; omega)⟩

theorem i64_and_nat (a b : Nat) (ha : a < 9223372036854775808) (hb : b < 9223372036854775808) : bits .and .i64 (a : Int) (b : Int) = ((a &&& b : Nat) : Int) := by
  have hx : a &&& b < 2 ^ 63 := Nat.and_lt_two_pow _ (by omega)
  show IntKind.i64.wrap ((BitVec.ofInt 64 (a : Int) &&& BitVec.ofInt 64 (b : Int)).toNat : Int) = _
  rw [BitVec.toNat_and, ofInt_u64 a (by omega), ofInt_u64 b (by omega), IntKind.wrap_i64]
  omega
theorem i64_or_nat (a b : Nat) (ha : a < 9223372036854775808) (hb : b < 9223372036854775808) : bits .or .i64 (a : Int) (b : Int) = ((a ||| b : Nat) : Int) := by
  have hx : a ||| b < 2 ^ 63 := Nat.or_lt_two_pow (by omega) (by omega)
  show IntKind.i64.wrap ((BitVec.ofInt 64 (a : Int) ||| BitVec.ofInt 64 (b : Int)).toNat : Int) = _
  rw [BitVec.toNat_or, ofInt_u64 a (by omega), ofInt_u64 b (by omega), IntKind.wrap_i64]
  omega
theorem and63 (a : Nat) (h : a < 256) : bits .and .i64 (a : Int) 63 = ((a % 64 : Nat) : Int) := by
  have := i64_and_nat a 63 (by omega) (by omega)
  rw [show (63 : Nat) = 2 ^ 6 - 1 from rfl, Nat.and_two_pow_sub_one_eq_mod] at this
  exact this
theorem or_low8 (a b : Nat) (h : a < 64) (hb : b < 256) : bits .or .i64 ((a * 256 : Nat) : Int) (b : Int) = ((a * 256 + b : Nat) : Int) := by
  have := i64_or_nat (a * 256) b (by omega) (by omega)
  rw [nat_join 8 (a * 256) b (by omega) (by omega)] at this
  exact this
end Go.Proofs.Ytgaapigagglgbaa
