/- Plain facts of numbers as octets: no Go in sight. -/
namespace Go.Proofs.Ytgaapigagglgbaa

/-- The k lowest octets of v, the most significant one first. -/
def lo : Nat → Int → List Int
  | 0, _ => []
  | k + 1, v => lo k (v / 256) ++ [v % 256]

theorem lo_length (k : Nat) : ∀ v, (lo k v).length = k := by
  induction k with
  | zero => intro v; rfl
  | succ k ih => intro v; simp [lo, ih]

theorem lo_range (k : Nat) : ∀ v, ∀ x ∈ lo k v, 0 ≤ x ∧ x ≤ 255 := by
  induction k with
  | zero => intro v x hx; simp [lo] at hx
  | succ k ih =>
    intro v x hx
    simp only [lo, List.mem_append, List.mem_singleton] at hx
    rcases hx with hx | rfl
    · exact ih _ x hx
    · omega

theorem lo_head (k : Nat) : ∀ v : Int, lo (k + 1) v = (v / 256 ^ k % 256) :: lo k v := by
  induction k with
  | zero => intro v; simp [lo]
  | succ k ih =>
    intro v
    rw [lo, ih]
    rw [show v / 256 / 256 ^ k = v / 256 ^ (k + 1) from by rw [Int.pow_succ, Int.mul_comm, Int.ediv_ediv_of_nonneg (by omega)]]
    rfl

theorem lo_mod (m : Nat) : ∀ k, k ≤ m → ∀ v : Int, lo k (v % 256 ^ m) = lo k v := by
  induction m with
  | zero => intro k hk v; have hk0 : k = 0 := (by omega); subst hk0; rfl
  | succ m ih =>
    intro k hk v
    cases k with
    | zero => rfl
    | succ k =>
      simp only [lo]
      have h1 : v % 256 ^ (m + 1) % 256 = v % 256 := by
        rw [Int.pow_succ]; exact Int.emod_emod_of_dvd v ⟨256 ^ m, Int.mul_comm _ _⟩
      have h2 : v % 256 ^ (m + 1) / 256 = v / 256 % 256 ^ m := by
        have hp : (0 : Int) < 256 ^ m := Int.pow_pos (by omega)
        have e1 := Int.emod_def v (256 ^ (m + 1))
        have e2 := Int.emod_def (v / 256) (256 ^ m)
        have e3 : v / 256 ^ (m + 1) = v / 256 / 256 ^ m := by rw [Int.pow_succ, Int.mul_comm, Int.ediv_ediv_of_nonneg (by omega)]
        rw [e1, e2, e3, Int.pow_succ]
        rw [show v - 256 ^ m * 256 * (v / 256 / 256 ^ m) = v + 256 * (- (256 ^ m * (v / 256 / 256 ^ m))) from by
          rw [Int.mul_comm (256 ^ m) 256, Int.mul_assoc, Int.mul_neg]; rfl]
        rw [Int.add_mul_ediv_left _ _ (by omega)]; rfl
      rw [h1, h2, ih k (by omega)]

/-- How many octets a signed number has: of its seven lowest bits cut off. -/
def sAux : Nat → Int → Nat
  | 0, _ => 1
  | f + 1, r => if r = 0 ∨ r = -1 then 1 else 1 + sAux f (r / 256)
def sLen (v : Int) : Nat := sAux 7 (v / 128)
def sOct (v : Int) : List Int := lo (sLen v) v

theorem sAux_pos (f : Nat) (r : Int) : 0 < sAux f r := by cases f <;> simp only [sAux] <;> (try split) <;> omega
theorem sAux_le (f : Nat) : ∀ r, sAux f r ≤ f + 1 := by
  induction f with
  | zero => intro r; simp [sAux]
  | succ f ih => intro r; simp only [sAux]; have := ih (r / 256); split <;> omega
theorem sLen_le (v : Int) : 1 ≤ sLen v ∧ sLen v ≤ 8 := ⟨sAux_pos _ _, sAux_le 7 _⟩
/-- One round more: what is left of the number is neither 0 nor -1. -/
theorem sAux_next (f : Nat) (r : Int) (h : ¬ (r = 0 ∨ r = -1)) (hr : - 256 ^ f ≤ r ∧ r < 256 ^ f) : ∃ g, f = g + 1 ∧ sAux f r = 1 + sAux g (r / 256) ∧ - 256 ^ g ≤ r / 256 ∧ r / 256 < 256 ^ g := by
  cases f with
  | zero => exfalso; apply h; simp at hr; omega
  | succ g =>
    refine ⟨g, rfl, by rw [sAux, if_neg h], ?_, ?_⟩
    · rw [Int.pow_succ] at hr; omega
    · rw [Int.pow_succ] at hr; omega
theorem sAux_last (f : Nat) (r : Int) (h : r = 0 ∨ r = -1) : sAux f r = 1 := by cases f <;> simp [sAux, h]

/-- How many octets an unsigned number has (by 256), or groups (by 128), from what is cut off. -/
def uAux (b : Int) : Nat → Int → Nat
  | 0, _ => 1
  | f + 1, r => if r = 0 then 1 else 1 + uAux b f (r / b)
def uLen (u : Int) : Nat := uAux 256 7 (u / 256)
def uOct (u : Int) : List Int := lo (uLen u) u
def gLen (u : Int) : Nat := uAux 128 9 (u / 128)
theorem uAux_pos (b : Int) (f : Nat) (r : Int) : 0 < uAux b f r := by cases f <;> simp only [uAux] <;> (try split) <;> omega
theorem uAux_le (b : Int) (f : Nat) : ∀ r, uAux b f r ≤ f + 1 := by
  induction f with
  | zero => intro r; simp [uAux]
  | succ f ih => intro r; simp only [uAux]; have := ih (r / b); split <;> omega
theorem uLen_le (v : Int) : 1 ≤ uLen v ∧ uLen v ≤ 8 := ⟨uAux_pos _ _ _, uAux_le _ 7 _⟩
theorem gLen_le (v : Int) : 1 ≤ gLen v ∧ gLen v ≤ 10 := ⟨uAux_pos _ _ _, uAux_le _ 9 _⟩
theorem uAux_last (b : Int) (f : Nat) (r : Int) (h : r = 0) : uAux b f r = 1 := by cases f <;> simp [uAux, h]
theorem uAux_next (b : Int) (hb : 1 < b) (f : Nat) (r : Int) (h : ¬ r = 0) (h0 : 0 ≤ r) (hr : r < b ^ f) : ∃ g, f = g + 1 ∧ uAux b f r = 1 + uAux b g (r / b) ∧ 0 ≤ r / b ∧ r / b < b ^ g := by
  cases f with
  | zero => exfalso; apply h; simp at hr; omega
  | succ g =>
    refine ⟨g, rfl, by rw [uAux, if_neg h], Int.ediv_nonneg h0 (by omega), ?_⟩
    rw [Int.pow_succ] at hr
    exact Int.ediv_lt_of_lt_mul (by omega) hr

/-- The k lowest groups of seven bits, the most significant one first, all but the last one marked. -/
def grp : Nat → Int → List Int
  | 0, _ => []
  | k + 1, v => grp k (v / 128) ++ [v % 128 + 128]
def gOct (u : Int) : List Int := grp (gLen u - 1) (u / 128) ++ [u % 128]
theorem grp_length (k : Nat) : ∀ v, (grp k v).length = k := by
  induction k with
  | zero => intro v; rfl
  | succ k ih => intro v; simp [grp, ih]
theorem gOct_length (u : Int) : (gOct u).length = gLen u := by
  have := gLen_le u
  simp [gOct, grp_length]; omega
theorem grp_head (k : Nat) : ∀ v : Int, grp (k + 1) v = (v / 128 ^ k % 128 + 128) :: grp k v := by
  induction k with
  | zero => intro v; simp [grp]
  | succ k ih =>
    intro v
    rw [grp, ih]
    rw [show v / 128 / 128 ^ k = v / 128 ^ (k + 1) from by rw [Int.pow_succ, Int.mul_comm, Int.ediv_ediv_of_nonneg (by omega)]]
    rfl
theorem sOct_length (v : Int) : (sOct v).length = sLen v := lo_length _ _
theorem uOct_length (v : Int) : (uOct v).length = uLen v := lo_length _ _

end Go.Proofs.Ytgaapigagglgbaa
