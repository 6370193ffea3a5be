/- What package whole's writer has written, its reader reads: numbers alone. -/
import Derived.Test.YtnbcehoddjcnoaaWhS
import Derived.Test.YtnbcehoddjcnoaaWhR6
import Derived.Test.YtnbcehoddjcnoaaOps17
namespace Go.Proofs.Ytnbcehoddjcnoaa
open Go.ChangeShapes Go.WideShapes Go.ChangeAt Go.RowKit

theorem appB_range (xs : List Int) (h : B8 xs) : ∀ (N : Int) (n : Nat), 0 ≤ N → N < 2 ^ n → 0 ≤ appB N xs ∧ appB N xs < 2 ^ (n + 8 * xs.length) := by
  induction xs with
  | nil => intro N n h0 h1; exact ⟨h0, h1⟩
  | cons x xs ih =>
    intro N n h0 h1
    have hx := h x (by simp)
    have := ih (fun y hy => h y (by simp [hy])) (N * 256 + x) (n + 8) (by omega) (by
      rw [Int.pow_add, show (2 : Int) ^ 8 = 256 from by decide]; omega)
    rw [show n + 8 + 8 * xs.length = n + 8 * (x :: xs).length from by simp; omega] at this
    exact this
theorem appB_div (xs : List Int) (h : B8 xs) : ∀ N : Int, appB N xs / 2 ^ (8 * xs.length) = N := by
  induction xs with
  | nil => intro N; simp [appB]
  | cons x xs ih =>
    intro N
    have hx := h x (by simp)
    have e : appB N (x :: xs) = appB (N * 256 + x) xs := rfl
    rw [e, show 8 * (x :: xs).length = 8 * xs.length + 8 from by simp; omega, Int.pow_add, ← Int.ediv_ediv_of_nonneg (Int.le_of_lt (two_pos _)), ih (fun y hy => h y (by simp [hy])), show (2 : Int) ^ 8 = 256 from by decide]
    omega

/-- The octets of an Op, its small number, how many bits it asks for. -/
abbrev qB (q : OpV) : List Int := q.2.2.2.2.2.2
def smM (x : Int) : Int := x % 18446744073709551616 % 10001
theorem smM_range (x : Int) : 0 ≤ smM x ∧ smM x ≤ 10000 := by unfold smM; omega
def wN (x : Int) : Nat := (min (max x 0) 64).toNat
theorem wN_eq (x : Int) : min (max x 0) 64 = (wN x : Int) ∧ max 0 (min x 64) = (wN x : Int) ∧ wN x ≤ 64 := by unfold wN; omega
/-- How many bits an Op writes, and what the bits are then. -/
def opK (q : OpV) : Nat := if q.1 = 1 then 8 * (qB q).length else if q.1 = 2 then Lib.bitLen q.2.2.2.1.toNat else if q.1 = 3 then smL (smM q.2.1) else wN q.2.1
def opN (N : Int) (q : OpV) : Int := if q.1 = 1 then appB N (qB q) else if q.1 = 2 then tot N (min q.2.2.1 q.2.2.2.1) (Lib.bitLen q.2.2.2.1.toNat) else if q.1 = 3 then smN N (smM q.2.1) else tot N q.2.2.1 (wN q.2.1)
def stK (ps : List OpV) (i : Nat) : Nat := (ps.take i).foldl (fun n q => n + opK q) 0
def stN (ps : List OpV) (i : Nat) : Int := (ps.take i).foldl opN 0
theorem stK_succ (ps : List OpV) (i : Nat) (q : OpV) (h : ps[i]? = some q) : stK ps (i + 1) = stK ps i + opK q := by
  unfold stK; rw [List.take_add_one, h]; simp
theorem stN_succ (ps : List OpV) (i : Nat) (q : OpV) (h : ps[i]? = some q) : stN ps (i + 1) = opN (stN ps i) q := by
  unfold stN; rw [List.take_add_one, h]; simp
/-- What is known of an Op that is kept. -/
def GoodOp (q : OpV) : Prop := B8 (qB q) ∧ (qB q).length ≤ 200 ∧ 0 ≤ q.2.2.1 ∧ q.2.2.1 ≤ 18446744073709551615 ∧ 0 ≤ q.2.2.2.1 ∧ q.2.2.2.1 ≤ 18446744073709551615 ∧ -9223372036854775808 ≤ q.2.1 ∧ q.2.1 ≤ 9223372036854775807
def GoodOps (ps : List OpV) : Prop := ∀ (i : Nat) (q : OpV), ps[i]? = some q → GoodOp q
theorem opK_le (q : OpV) (h : GoodOp q) : opK q ≤ 1600 := by
  obtain ⟨_, h2, _, _, h5, h6, _⟩ := h
  unfold opK
  split
  · omega
  · split
    · have := bitLen_64 q.2.2.2.1.toNat (by omega); omega
    · split
      · have := smL_le (smM q.2.1); omega
      · have := (wN_eq q.2.1).2.2; omega
theorem smN_div (N m : Int) : smN N m / 2 ^ smL m = N := by
  unfold smN smL
  split
  · rw [show (7 : Nat) = 6 + 1 from rfl, Int.pow_add, ← Int.ediv_ediv_of_nonneg (Int.le_of_lt (two_pos _)), tot_start, tot_start]
  · have h := uOct_bytes m
    have := appB_div (uOct m) h (tot (tot N 1 1) (uLen m) 8)
    rw [uOct_length] at this
    rw [show 9 + 8 * uLen m = 8 * uLen m + 8 + 1 from by omega, Int.pow_add, ← Int.ediv_ediv_of_nonneg (Int.le_of_lt (two_pos _)), Int.pow_add, ← Int.ediv_ediv_of_nonneg (Int.le_of_lt (two_pos _)), this, tot_start, tot_start]
theorem smN_range (N m : Int) (n : Nat) (h0 : 0 ≤ N) (h1 : N < 2 ^ n) : 0 ≤ smN N m ∧ smN N m < 2 ^ (n + smL m) := by
  unfold smN smL
  split
  · have a := tot_range N 0 n 1 h0 h1
    exact tot_range _ m (n + 1) 6 a.1 a.2
  · have a := tot_range N 1 n 1 h0 h1
    have b := tot_range _ (uLen m) (n + 1) 8 a.1 a.2
    have c := appB_range (uOct m) (uOct_bytes m) _ _ b.1 b.2
    rw [uOct_length, show n + 1 + 8 + 8 * uLen m = n + (9 + 8 * uLen m) from by omega] at c
    exact c
theorem opN_div (N : Int) (q : OpV) (h : GoodOp q) : opN N q / 2 ^ opK q = N := by
  unfold opN opK
  split
  · exact appB_div _ h.1 N
  · split
    · exact tot_start _ _ _
    · split
      · exact smN_div _ _
      · exact tot_start _ _ _
theorem opN_range (N : Int) (n : Nat) (q : OpV) (h : GoodOp q) (h0 : 0 ≤ N) (h1 : N < 2 ^ n) : 0 ≤ opN N q ∧ opN N q < 2 ^ (n + opK q) := by
  unfold opN opK
  split
  · exact appB_range _ h.1 N n h0 h1
  · split
    · exact tot_range N _ n _ h0 h1
    · split
      · exact smN_range N _ n h0 h1
      · exact tot_range N _ n _ h0 h1
theorem stN_range (ps : List OpV) (h : GoodOps ps) (i : Nat) : 0 ≤ stN ps i ∧ stN ps i < 2 ^ stK ps i := by
  induction i with
  | zero => simp [stN, stK]
  | succ i ih =>
    cases hq : ps[i]? with
    | none =>
      have e1 : stN ps (i + 1) = stN ps i := by unfold stN; rw [List.take_add_one, hq]; simp
      have e2 : stK ps (i + 1) = stK ps i := by unfold stK; rw [List.take_add_one, hq]; simp
      rw [e1, e2]; exact ih
    | some q =>
      rw [stN_succ ps i q hq, stK_succ ps i q hq]
      exact opN_range _ _ q (h i q hq) ih.1 ih.2
theorem stK_le (ps : List OpV) (h : GoodOps ps) (i : Nat) : stK ps i ≤ 1600 * i := by
  induction i with
  | zero => simp [stK]
  | succ i ih =>
    cases hq : ps[i]? with
    | none =>
      have e2 : stK ps (i + 1) = stK ps i := by unfold stK; rw [List.take_add_one, hq]; simp
      omega
    | some q => have := opK_le q (h i q hq); rw [stK_succ ps i q hq]; omega
theorem stK_mono (ps : List OpV) (i j : Nat) (h : i ≤ j) : stK ps i ≤ stK ps j := by
  induction j with
  | zero => obtain rfl : i = 0 := by omega
            exact Nat.le_refl _
  | succ j ih =>
    rcases Nat.lt_or_ge i (j + 1) with h1 | h1
    · have := ih (by omega)
      cases hq : ps[j]? with
      | none =>
        have e2 : stK ps (j + 1) = stK ps j := by unfold stK; rw [List.take_add_one, hq]; simp
        omega
      | some q => rw [stK_succ ps j q hq]; omega
    · obtain rfl : i = j + 1 := by omega
      exact Nat.le_refl _
theorem stN_div (ps : List OpV) (h : GoodOps ps) (i j : Nat) (hij : i ≤ j) : stN ps j / 2 ^ (stK ps j - stK ps i) = stN ps i := by
  induction j with
  | zero => obtain rfl : i = 0 := by omega
            simp
  | succ j ih =>
    rcases Nat.lt_or_ge i (j + 1) with h1 | h1
    · have hm := stK_mono ps i j (by omega)
      cases hq : ps[j]? with
      | none =>
        have e1 : stN ps (j + 1) = stN ps j := by unfold stN; rw [List.take_add_one, hq]; simp
        have e2 : stK ps (j + 1) = stK ps j := by unfold stK; rw [List.take_add_one, hq]; simp
        rw [e1, e2]; exact ih (by omega)
      | some q =>
        rw [stN_succ ps j q hq, stK_succ ps j q hq, show stK ps j + opK q - stK ps i = opK q + (stK ps j - stK ps i) from by omega, Int.pow_add, ← Int.ediv_ediv_of_nonneg (Int.le_of_lt (two_pos _)), opN_div _ q (h j q hq)]
        exact ih (by omega)
    · obtain rfl : i = j + 1 := by omega
      simp
theorem rd_octW (N : Int) (n at_ k : Nat) (h0 : 0 ≤ N) (h1 : N < 2 ^ n) (h : at_ + k ≤ n) : rd (octW N n) at_ k = N / 2 ^ (n - at_ - k) % 2 ^ k := by
  unfold octW
  by_cases hn : n = 0
  · obtain rfl : k = 0 := by omega
    rw [if_pos hn, rd_zero, Int.pow_zero]; omega
  · rw [if_neg hn]; exact rd_oct N n at_ k h0 h1 h
/-- What is read where the Op stands. -/
theorem rd_op (ps : List OpV) (h : GoodOps ps) (i F : Nat) (q : OpV) (hq : ps[i]? = some q) (hF : i + 1 ≤ F) (a k : Nat) (hk : a + k ≤ opK q) :
    rd (octW (stN ps F) (stK ps F)) (stK ps i + a) k = opN (stN ps i) q / 2 ^ (opK q - a - k) % 2 ^ k := by
  have hr := stN_range ps h F
  have hm := stK_mono ps (i + 1) F hF
  have hs := stK_succ ps i q hq
  have hd := stN_div ps h (i + 1) F hF
  rw [stN_succ ps i q hq] at hd
  rw [rd_octW _ _ _ _ hr.1 hr.2 (by omega), ← hd, show stK ps F - (stK ps i + a) - k = (stK ps F - stK ps (i + 1)) + (opK q - a - k) from by omega, Int.pow_add, ← Int.ediv_ediv_of_nonneg (Int.le_of_lt (two_pos _))]
theorem tot_low (N v : Int) (k : Nat) : tot N v k % 2 ^ k = v % 2 ^ k := by
  unfold tot
  rw [Int.add_comm, Int.add_mul_emod_self_right, Int.emod_emod_of_dvd _ (Int.dvd_refl _)]
theorem rd_whole (ps : List OpV) (h : GoodOps ps) (i F : Nat) (q : OpV) (hq : ps[i]? = some q) (hF : i + 1 ≤ F) (v : Int) (k : Nat) (hk : opK q = k) (hn : opN (stN ps i) q = tot (stN ps i) v k) :
    rd (octW (stN ps F) (stK ps F)) (stK ps i) k = v % 2 ^ k := by
  have := rd_op ps h i F q hq hF 0 k (by omega)
  rw [Nat.add_zero, hk, hn, Nat.sub_zero, Nat.sub_self, Int.pow_zero, Int.ediv_one] at this
  exact this.trans (tot_low _ _ _)
theorem rd_bits (ps : List OpV) (h : GoodOps ps) (i F : Nat) (q : OpV) (hq : ps[i]? = some q) (hF : i + 1 ≤ F) (h1 : q.1 ≠ 1) (h2 : q.1 ≠ 2) (h3 : q.1 ≠ 3) :
    opK q = wN q.2.1 ∧ rd (octW (stN ps F) (stK ps F)) (stK ps i) (wN q.2.1) = q.2.2.1 % 2 ^ wN q.2.1 := by
  have hk : opK q = wN q.2.1 := by unfold opK; rw [if_neg h1, if_neg h2, if_neg h3]
  exact ⟨hk, rd_whole ps h i F q hq hF _ _ hk (by unfold opN; rw [if_neg h1, if_neg h2, if_neg h3])⟩
theorem min_bits (v s : Int) (hv : 0 ≤ v) (hs : 0 ≤ s) (hs1 : s ≤ 18446744073709551615) : min v s % 2 ^ Lib.bitLen s.toNat = min v s := by
  have h := bitLen_hi s.toNat (by omega)
  have h2 : ((s.toNat : Nat) : Int) < ((2 ^ Lib.bitLen s.toNat : Nat) : Int) := Int.ofNat_lt.2 h
  rw [Int.natCast_pow, Int.toNat_of_nonneg hs] at h2
  exact Int.emod_eq_of_lt (by omega) (Int.lt_of_le_of_lt (Int.min_le_right _ _) h2)
theorem rd_between (ps : List OpV) (h : GoodOps ps) (i F : Nat) (q : OpV) (hq : ps[i]? = some q) (hF : i + 1 ≤ F) (h2 : q.1 = 2) :
    opK q = Lib.bitLen q.2.2.2.1.toNat ∧ rd (octW (stN ps F) (stK ps F)) (stK ps i) (Lib.bitLen q.2.2.2.1.toNat) = min q.2.2.1 q.2.2.2.1 := by
  have h1 : q.1 ≠ 1 := by omega
  have hg := h i q hq
  have hk : opK q = Lib.bitLen q.2.2.2.1.toNat := by unfold opK; rw [if_neg h1, if_pos h2]
  refine ⟨hk, (rd_whole ps h i F q hq hF _ _ hk (by unfold opN; rw [if_neg h1, if_pos h2])).trans ?_⟩
  exact min_bits _ _ hg.2.2.1 hg.2.2.2.2.1 hg.2.2.2.2.2.1
theorem appB_own (xs : List Int) (h : B8 xs) (N : Int) (j : Nat) (hj : j < xs.length) : appB N xs / 2 ^ (8 * (xs.length - 1 - j)) % 2 ^ 8 = xs.getD j 0 := by
  have hlo : lo xs.length (appB N xs) = xs := by
    have := appB_lo xs 0 N h
    simp only [Nat.zero_add, lo, List.nil_append] at this
    exact this.symm
  have e2 := lo_getD xs.length (appB N xs) j hj
  rw [hlo] at e2
  rw [e2, pow256, show (2 : Int) ^ 8 = 256 from by decide]
theorem rdO_ext (ys xs : List Int) (at_ : Nat) (h : ∀ j, j < xs.length → rd ys (at_ + 8 * j) 8 = xs.getD j 0) : rdO ys at_ xs.length = xs := by
  apply List.ext_getElem
  · rw [rdO_length]
  · intro j hj1 hj2
    have e1 : (rdO ys at_ xs.length)[j] = rd ys (at_ + 8 * j) 8 := by simp [rdO]
    rw [e1, h j hj2]
    simp [hj2]
theorem rd_octs (ps : List OpV) (h : GoodOps ps) (i F : Nat) (q : OpV) (hq : ps[i]? = some q) (hF : i + 1 ≤ F) (h1 : q.1 = 1) :
    opK q = 8 * (qB q).length ∧ rdO (octW (stN ps F) (stK ps F)) (stK ps i) (qB q).length = qB q := by
  have hk : opK q = 8 * (qB q).length := by unfold opK; rw [if_pos h1]
  have hn : opN (stN ps i) q = appB (stN ps i) (qB q) := by unfold opN; rw [if_pos h1]
  refine ⟨hk, rdO_ext _ _ _ fun j hj => ?_⟩
  rw [rd_op ps h i F q hq hF (8 * j) 8 (by omega), hn, hk, show 8 * (qB q).length - 8 * j - 8 = 8 * ((qB q).length - 1 - j) from by omega]
  exact appB_own _ (h i q hq).1 _ j hj
theorem uLen_small (m : Int) (h0 : 64 ≤ m) (h1 : m ≤ 10000) : (uLen m = 1 ∧ m < 256) ∨ (uLen m = 2 ∧ m < 65536) := by
  by_cases h : m < 256
  · left
    refine ⟨?_, h⟩
    unfold uLen
    rw [show m / 256 = 0 from by omega]
    rfl
  · right
    refine ⟨?_, by omega⟩
    have e : m / 256 ≠ 0 := by omega
    unfold uLen
    simp only [uAux]
    rw [if_neg e, if_pos (by omega)]
theorem takeU_small (m : Int) (h0 : 64 ≤ m) (h1 : m ≤ 10000) : takeU (uOct m) = (m, 0) := by
  have hl := uOct_length m
  have hb : beU (uOct m) = m := by
    have : bv (uOct m) = m := by
      unfold uOct
      refine bv_lo _ _ (by omega) ?_
      rcases uLen_small m h0 h1 with ⟨e, h⟩ | ⟨e, h⟩
      · rw [e, show (256 : Int) ^ 1 = 256 from by decide]; exact h
      · rw [e, show (256 : Int) ^ 2 = 65536 from by decide]; exact h
    exact this
  have hr : uLen m = 1 ∨ uLen m = 2 := by rcases uLen_small m h0 h1 with h | h <;> omega
  unfold takeU
  rw [hb, hl, if_neg (by omega), if_neg (by omega), if_pos rfl]
theorem rd_small (ps : List OpV) (h : GoodOps ps) (i F : Nat) (q : OpV) (hq : ps[i]? = some q) (hF : i + 1 ≤ F) (h3 : q.1 = 3) :
    opK q = smL (smM q.2.1) ∧ smR (octW (stN ps F) (stK ps F)) (stK ps i) = (smM q.2.1, stK ps i + smL (smM q.2.1), 0) := by
  have h1 : q.1 ≠ 1 := by omega
  have h2 : q.1 ≠ 2 := by omega
  have hk : opK q = smL (smM q.2.1) := by unfold opK; rw [if_neg h1, if_neg h2, if_pos h3]
  have hn : opN (stN ps i) q = smN (stN ps i) (smM q.2.1) := by unfold opN; rw [if_neg h1, if_neg h2, if_pos h3]
  refine ⟨hk, ?_⟩
  have hm := stK_mono ps (i + 1) F hF
  have hs := stK_succ ps i q hq
  have hrd := fun a k hh => rd_op ps h i F q hq hF a k hh
  rw [hk] at hs hrd
  rw [hn] at hrd
  have hol := octW_length (stN ps F) (stK ps F)
  have hlen : stK ps F ≤ 8 * (octW (stN ps F) (stK ps F)).length := by omega
  obtain ⟨m0, m1⟩ := smM_range q.2.1
  generalize smM q.2.1 = m at *
  generalize octW (stN ps F) (stK ps F) = ys at *
  generalize stN ps i = N at *
  generalize stK ps i = a0 at *
  by_cases hlt : m < 64
  · have eL : smL m = 7 := if_pos hlt
    have eN : smN N m = tot (tot N 0 1) m 6 := if_pos hlt
    rw [eL] at hrd hs
    rw [eL]
    rw [eN] at hrd
    have b0 : rd ys a0 1 = 0 := by
      have := hrd 0 1 (by omega)
      rw [Nat.add_zero, show 7 - 0 - 1 = 6 from rfl, tot_start, tot_low] at this
      rw [this]; rfl
    have b1 : rd ys (a0 + 1) 6 = m := by
      have := hrd 1 6 (by omega)
      rw [show 7 - 1 - 6 = 0 from rfl, Int.pow_zero, Int.ediv_one, tot_low] at this
      rw [this, show (2 : Int) ^ 6 = 64 from by decide]; omega
    unfold smR
    rw [if_neg (by omega), if_pos b0, if_pos (by omega), b1]
  · have eL : smL m = 9 + 8 * uLen m := if_neg hlt
    have eN : smN N m = appB (tot (tot N 1 1) (uLen m) 8) (uOct m) := if_neg hlt
    have hu : uLen m = 1 ∨ uLen m = 2 := by rcases uLen_small m (by omega) m1 with h | h <;> omega
    have hul := uOct_length m
    have hub := uOct_bytes m
    have hd := appB_div (uOct m) hub (tot (tot N 1 1) (uLen m) 8)
    rw [hul] at hd
    rw [eL] at hrd hs
    rw [eL]
    rw [eN] at hrd
    have b0 : rd ys a0 1 = 1 := by
      have := hrd 0 1 (by omega)
      rw [Nat.add_zero, show 9 + 8 * uLen m - 0 - 1 = 8 * uLen m + 8 from by omega, Int.pow_add, ← Int.ediv_ediv_of_nonneg (Int.le_of_lt (two_pos _)), hd, tot_start, tot_low] at this
      rw [this]; rfl
    have b1 : rd ys (a0 + 1) 8 = uLen m := by
      have := hrd 1 8 (by omega)
      rw [show 9 + 8 * uLen m - 1 - 8 = 8 * uLen m from by omega, hd, tot_low] at this
      rw [this, show (2 : Int) ^ 8 = 256 from by decide]; omega
    have b2 : rdO ys (a0 + 9) (uLen m) = uOct m := by
      rw [← hul]
      refine rdO_ext _ _ _ fun j hj => ?_
      have := hrd (9 + 8 * j) 8 (by omega)
      rw [← Nat.add_assoc] at this
      rw [this, show 9 + 8 * uLen m - (9 + 8 * j) - 8 = 8 * ((uOct m).length - 1 - j) from by omega]
      exact appB_own _ hub _ j hj
    have e2 : (rd ys (a0 + 1) 8).toNat = uLen m := by rw [b1]; omega
    have e3 := takeU_small m (by omega) m1
    unfold smR
    rw [e2, b2, e3, b0, if_neg (by omega), if_neg (by omega), if_neg (by omega), if_neg (by omega), if_neg (by omega), if_neg (by simp only; omega)]
    rw [show a0 + 9 + 8 * uLen m = a0 + (9 + 8 * uLen m) from by omega]
/-- Behind the last bit there are zeros. -/
theorem end_octW (N : Int) (n : Nat) (h0 : 0 ≤ N) (h1 : N < 2 ^ n) : wendV (octW N n) n 0 = 0 := by
  unfold wendV
  rw [if_neg (fun h => h rfl)]
  by_cases hn : n = 0
  · subst hn
    rw [if_pos]
    refine ⟨rfl, rfl, ?_⟩
    rw [show octW N 0 = [0] from rfl]
    decide
  · split
    · rfl
    · have e : octW N n = oct N n := if_neg hn
      rw [e]
      have hl := oct_length N n
      unfold endV
      rw [if_neg (fun h => h rfl), if_neg (by omega), if_neg]
      unfold rd
      rw [bv_oct N n h0 h1, hl, Nat.sub_self, Int.pow_zero, Int.ediv_one]
      intro h
      exact h (Int.mul_emod_left _ _)
end Go.Proofs.Ytnbcehoddjcnoaa
