/- What is written is read: numbers alone. -/
import Derived.Test.YtocnmnimlmehgaaBitsSplitN
import Derived.Test.YtocnmnimlmehgaaOps1
import Derived.Test.YtocnmnimlmehgaaBitsRdE
namespace Go.Proofs.Ytocnmnimlmehgaa
open Go.ChangeShapes Go.WideShapes Go.ChangeAt Go.RowKit

def clampN (x : Int) : Nat := (min (max x 0) 32).toNat
theorem clampN_eq (x : Int) : min (max x 0) 32 = (clampN x : Int) ∧ max 0 (min x 32) = (clampN x : Int) ∧ clampN x ≤ 32 := by unfold clampN; omega
def bitOf (x : Int) : Int := if x = 0 then 0 else 1
/-- How many bits an Op writes, and what the bits are then. -/
def opK (q : OpV) : Nat := if q.1 = 1 then clampN q.2.1 else if q.1 = 2 then (if q.2.2.2.2.2.length ≤ 200 then 8 * q.2.2.2.2.2.length else 0) else 1
def opN (N : Int) (q : OpV) : Int := if q.1 = 1 then tot N q.2.2.1 (clampN q.2.1) else if q.1 = 2 then (if q.2.2.2.2.2.length ≤ 200 then appB N q.2.2.2.2.2 else N) else tot N (bitOf q.2.1) 1
def stK (ps : List OpV) (i : Nat) : Nat := (ps.take i).foldl (fun n q => n + opK q) 0
def stN (ps : List OpV) (i : Nat) : Int := (ps.take i).foldl opN 0
theorem stK_succ (ps : List OpV) (i : Nat) (q : OpV) (h : ps[i]? = some q) : stK ps (i + 1) = stK ps i + opK q := by
  unfold stK; rw [List.take_add_one, h]; simp
theorem stN_succ (ps : List OpV) (i : Nat) (q : OpV) (h : ps[i]? = some q) : stN ps (i + 1) = opN (stN ps i) q := by
  unfold stN; rw [List.take_add_one, h]; simp
theorem opK_le (q : OpV) : opK q ≤ 1600 := by
  unfold opK
  split
  · have := (clampN_eq q.2.1).2.2; omega
  · split
    · split <;> omega
    · omega
theorem appB_range (xs : List Int) (h : B8 xs) : ∀ (N : Int) (n : Nat), 0 ≤ N → N < 2 ^ n → 0 ≤ appB N xs ∧ appB N xs < 2 ^ (n + 8 * xs.length) := by
  induction xs with
  | nil => intro N n h0 h1; exact ⟨h0, h1⟩
  | cons x xs ih =>
    intro N n h0 h1
    have hx := h x (by simp)
    have := ih (fun y hy => h y (by simp [hy])) (N * 256 + x) (n + 8) (by omega) (by
      rw [Int.pow_add, show (2 : Int) ^ 8 = 256 from by decide]; omega)
    rw [show n + 8 + 8 * xs.length = n + 8 * (x :: xs).length from by simp; omega] at this
    exact this
theorem appB_div (xs : List Int) (h : B8 xs) : ∀ N : Int, appB N xs / 2 ^ (8 * xs.length) = N := by
  induction xs with
  | nil => intro N; simp [appB]
  | cons x xs ih =>
    intro N
    have hx := h x (by simp)
    have e : appB N (x :: xs) = appB (N * 256 + x) xs := rfl
    rw [e, show 8 * (x :: xs).length = 8 * xs.length + 8 from by simp; omega, Int.pow_add, ← Int.ediv_ediv_of_nonneg (Int.le_of_lt (two_pos _)), ih (fun y hy => h y (by simp [hy])), show (2 : Int) ^ 8 = 256 from by decide]
    omega
theorem opN_div (N : Int) (q : OpV) (h : B8 q.2.2.2.2.2) : opN N q / 2 ^ opK q = N := by
  unfold opN opK
  split
  · exact tot_start _ _ _
  · split
    · split
      · exact appB_div _ h N
      · simp
    · exact tot_start _ _ _
theorem opN_range (N : Int) (n : Nat) (q : OpV) (h : B8 q.2.2.2.2.2) (h0 : 0 ≤ N) (h1 : N < 2 ^ n) : 0 ≤ opN N q ∧ opN N q < 2 ^ (n + opK q) := by
  unfold opN opK
  split
  · exact tot_range N _ n _ h0 h1
  · split
    · split
      · exact appB_range _ h N n h0 h1
      · exact ⟨h0, h1⟩
    · exact tot_range N _ n _ h0 h1
def OpsB (ps : List OpV) : Prop := ∀ (i : Nat) (q : OpV), ps[i]? = some q → B8 q.2.2.2.2.2
theorem stN_range (ps : List OpV) (h : OpsB ps) (i : Nat) : 0 ≤ stN ps i ∧ stN ps i < 2 ^ stK ps i := by
  induction i with
  | zero => simp [stN, stK]
  | succ i ih =>
    cases hq : ps[i]? with
    | none =>
      have e1 : stN ps (i + 1) = stN ps i := by unfold stN; rw [List.take_add_one, hq]; simp
      have e2 : stK ps (i + 1) = stK ps i := by unfold stK; rw [List.take_add_one, hq]; simp
      rw [e1, e2]; exact ih
    | some q =>
      rw [stN_succ ps i q hq, stK_succ ps i q hq]
      exact opN_range _ _ q (h i q hq) ih.1 ih.2
theorem stK_mono (ps : List OpV) (i j : Nat) (h : i ≤ j) : stK ps i ≤ stK ps j := by
  induction j with
  | zero => obtain rfl : i = 0 := by omega
            exact Nat.le_refl _
  | succ j ih =>
    rcases Nat.lt_or_ge i (j + 1) with h1 | h1
    · have := ih (by omega)
      cases hq : ps[j]? with
      | none =>
        have e2 : stK ps (j + 1) = stK ps j := by unfold stK; rw [List.take_add_one, hq]; simp
        omega
      | some q => rw [stK_succ ps j q hq]; omega
    · obtain rfl : i = j + 1 := by omega
      exact Nat.le_refl _
theorem stN_div (ps : List OpV) (h : OpsB ps) (i j : Nat) (hij : i ≤ j) : stN ps j / 2 ^ (stK ps j - stK ps i) = stN ps i := by
  induction j with
  | zero => obtain rfl : i = 0 := by omega
            simp
  | succ j ih =>
    rcases Nat.lt_or_ge i (j + 1) with h1 | h1
    · have hm := stK_mono ps i j (by omega)
      cases hq : ps[j]? with
      | none =>
        have e1 : stN ps (j + 1) = stN ps j := by unfold stN; rw [List.take_add_one, hq]; simp
        have e2 : stK ps (j + 1) = stK ps j := by unfold stK; rw [List.take_add_one, hq]; simp
        rw [e1, e2]; exact ih (by omega)
      | some q =>
        rw [stN_succ ps j q hq, stK_succ ps j q hq, show stK ps j + opK q - stK ps i = opK q + (stK ps j - stK ps i) from by omega, Int.pow_add, ← Int.ediv_ediv_of_nonneg (Int.le_of_lt (two_pos _)), opN_div _ q (h j q hq)]
        exact ih (by omega)
    · obtain rfl : i = j + 1 := by omega
      simp
/-- What is read where the Op stands. -/
theorem rd_op (ps : List OpV) (h : OpsB ps) (i F : Nat) (q : OpV) (hq : ps[i]? = some q) (hF : i + 1 ≤ F) (a k : Nat) (hk : a + k ≤ opK q) :
    rd (oct (stN ps F) (stK ps F)) (stK ps i + a) k = opN (stN ps i) q / 2 ^ (opK q - a - k) % 2 ^ k := by
  have hr := stN_range ps h F
  have hm := stK_mono ps (i + 1) F hF
  have hs := stK_succ ps i q hq
  have hd := stN_div ps h (i + 1) F hF
  rw [stN_succ ps i q hq] at hd
  rw [rd_oct _ _ _ _ hr.1 hr.2 (by omega), ← hd, show stK ps F - (stK ps i + a) - k = (stK ps F - stK ps (i + 1)) + (opK q - a - k) from by omega, Int.pow_add, ← Int.ediv_ediv_of_nonneg (Int.le_of_lt (two_pos _))]
theorem rd_bits (ps : List OpV) (h : OpsB ps) (i F : Nat) (q : OpV) (hq : ps[i]? = some q) (hF : i + 1 ≤ F) (h1 : q.1 = 1) :
    opK q = clampN q.2.1 ∧ rd (oct (stN ps F) (stK ps F)) (stK ps i) (clampN q.2.1) = q.2.2.1 % 2 ^ clampN q.2.1 := by
  have hk : opK q = clampN q.2.1 := by unfold opK; rw [if_pos h1]
  have hn : opN (stN ps i) q = tot (stN ps i) q.2.2.1 (clampN q.2.1) := by unfold opN; rw [if_pos h1]
  have := rd_op ps h i F q hq hF 0 (clampN q.2.1) (by omega)
  rw [Nat.add_zero, hk, hn, Nat.sub_zero, Nat.sub_self, Int.pow_zero, Int.ediv_one] at this
  refine ⟨hk, this.trans ?_⟩
  unfold tot
  rw [Int.add_comm, Int.add_mul_emod_self_right, Int.emod_emod_of_dvd _ (Int.dvd_refl _)]
theorem rd_bit (ps : List OpV) (h : OpsB ps) (i F : Nat) (q : OpV) (hq : ps[i]? = some q) (hF : i + 1 ≤ F) (h1 : q.1 ≠ 1) (h2 : q.1 ≠ 2) :
    opK q = 1 ∧ rd (oct (stN ps F) (stK ps F)) (stK ps i) 1 = bitOf q.2.1 := by
  have hk : opK q = 1 := by unfold opK; rw [if_neg h1, if_neg h2]
  have hn : opN (stN ps i) q = tot (stN ps i) (bitOf q.2.1) 1 := by unfold opN; rw [if_neg h1, if_neg h2]
  have := rd_op ps h i F q hq hF 0 1 (by omega)
  rw [Nat.add_zero, hk, hn, Nat.sub_zero, Nat.sub_self, Int.pow_zero, Int.ediv_one] at this
  refine ⟨hk, this.trans ?_⟩
  unfold tot bitOf
  rw [Int.pow_one]
  split <;> omega
theorem rd_octs (ps : List OpV) (h : OpsB ps) (i F : Nat) (q : OpV) (hq : ps[i]? = some q) (hF : i + 1 ≤ F) (h2 : q.1 = 2) (hl : q.2.2.2.2.2.length ≤ 200) :
    opK q = 8 * q.2.2.2.2.2.length ∧ rdO (oct (stN ps F) (stK ps F)) (stK ps i) q.2.2.2.2.2.length = q.2.2.2.2.2 := by
  have h1 : q.1 ≠ 1 := by omega
  have hk : opK q = 8 * q.2.2.2.2.2.length := by unfold opK; rw [if_neg h1, if_pos h2, if_pos hl]
  have hn : opN (stN ps i) q = appB (stN ps i) q.2.2.2.2.2 := by unfold opN; rw [if_neg h1, if_pos h2, if_pos hl]
  refine ⟨hk, ?_⟩
  have hlo : lo q.2.2.2.2.2.length (appB (stN ps i) q.2.2.2.2.2) = q.2.2.2.2.2 := by
    have := appB_lo q.2.2.2.2.2 0 (stN ps i) (h i q hq)
    simp only [Nat.zero_add, lo, List.nil_append] at this
    exact this.symm
  apply List.ext_getElem
  · rw [rdO_length]
  · intro j hj1 hj2
    have e1 : (rdO (oct (stN ps F) (stK ps F)) (stK ps i) q.2.2.2.2.2.length)[j] = rd (oct (stN ps F) (stK ps F)) (stK ps i + 8 * j) 8 := by simp [rdO]
    rw [e1, rd_op ps h i F q hq hF (8 * j) 8 (by omega), hn, hk]
    have e2 := lo_getD q.2.2.2.2.2.length (appB (stN ps i) q.2.2.2.2.2) j hj2
    rw [hlo] at e2
    rw [show q.2.2.2.2.2[j] = q.2.2.2.2.2.getD j 0 from by simp [hj2], e2, pow256, show (2 : Int) ^ 8 = 256 from by decide]
    rw [show 8 * q.2.2.2.2.2.length - 8 * j - 8 = 8 * (q.2.2.2.2.2.length - 1 - j) from by omega]
theorem opK_big (q : OpV) (h2 : q.1 = 2) (hl : 200 < q.2.2.2.2.2.length) (N : Int) : opK q = 0 ∧ opN N q = N := by
  have h1 : q.1 ≠ 1 := by omega
  unfold opK opN
  rw [if_neg h1, if_neg h1, if_pos h2, if_pos h2, if_neg (by omega), if_neg (by omega)]
  exact ⟨rfl, rfl⟩
/-- Behind the last bit there are zeros. -/
theorem end_oct (N : Int) (n : Nat) (h0 : 0 ≤ N) (h1 : N < 2 ^ n) : endV (oct N n) n 0 = 0 := by
  have hl := oct_length N n
  unfold endV
  rw [if_neg (fun h => h rfl), if_neg (by omega), if_neg]
  unfold rd
  rw [bv_oct N n h0 h1, hl, Nat.sub_self, Int.pow_zero, Int.ediv_one]
  intro h
  exact h (Int.mul_emod_left _ _)
end Go.Proofs.Ytocnmnimlmehgaa
