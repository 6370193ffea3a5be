/- The walk of BoundsFit. -/
import Derived.Test.YtknmcodpnhdghaaCon
import Derived.Test.YtknmcodpnhdghaaEnds
namespace Go.Proofs.Ytknmcodpnhdghaa
open Go.ChangeShapes Go.WideShapes Go.ChangeAt Go.RowKit

theorem bitLen_up (f : Nat) : ∀ n, n < 2 ^ f → n < 2 ^ (Lib.bitLenAux f n) := by
  induction f with
  | zero => intro n hn; simp at hn; subst hn; simp [Lib.bitLenAux]
  | succ f ih =>
    intro n hn
    unfold Lib.bitLenAux
    split
    · subst_vars; simp
    · have := ih (n / 2) (by rw [Nat.pow_succ] at hn; omega)
      rw [Nat.pow_add]; omega
theorem bitLen_lo (f : Nat) : ∀ n, n < 2 ^ f → 0 < n → 2 ^ (Lib.bitLenAux f n - 1) ≤ n := by
  induction f with
  | zero => intro n hn h0; simp at hn; omega
  | succ f ih =>
    intro n hn h0
    unfold Lib.bitLenAux
    rw [if_neg (by omega)]
    by_cases h1 : n / 2 = 0
    · rw [h1]
      have : Lib.bitLenAux f 0 = 0 := by cases f <;> simp [Lib.bitLenAux]
      rw [this]; simp; omega
    · have h2 := ih (n / 2) (by rw [Nat.pow_succ] at hn; omega) (by omega)
      have h3 : 0 < Lib.bitLenAux f (n / 2) := by
        cases f with
        | zero => simp at hn; omega
        | succ f => unfold Lib.bitLenAux; rw [if_neg h1]; omega
      rw [show 1 + Lib.bitLenAux f (n / 2) - 1 = (Lib.bitLenAux f (n / 2) - 1) + 1 from by omega, Nat.pow_succ]
      omega
theorem bitLen_hi (n : Nat) (h : n ≤ 18446744073709551615) : n < 2 ^ Lib.bitLen n := bitLen_up 64 n (by omega)
theorem bitLen_low (n : Nat) (h : n ≤ 18446744073709551615) (h0 : 0 < n) : 2 ^ (Lib.bitLen n - 1) ≤ n := bitLen_lo 64 n (by omega) h0
theorem bitLen_pos (n : Nat) (h0 : 0 < Lib.bitLen n) : 0 < n := by
  rcases Nat.eq_zero_or_pos n with h | h
  · subst h; exact absurd h0 (by decide)
  · exact h
theorem bitLen_mono (a b : Nat) (hb : b ≤ 18446744073709551615) (h : a ≤ b) : Lib.bitLen a ≤ Lib.bitLen b := by
  apply Lib.bitLen_le a _ (Lib.bitLen_le b 64 (Nat.le_refl _) (by omega))
  have := bitLen_hi b hb
  omega

theorem span_is {h hl hh : Bool} {l u : Int} (e : spanOk h hl hh l u = true) : h = true ∧ hl = true ∧ hh = true ∧ l ≤ u := by
  cases h <;> cases hl <;> cases hh <;> simp [spanOk] at e
  exact ⟨rfl, rfl, rfl, e⟩
theorem within_is {l u v : Int} (e : withinB true true true l u v = true) : l ≤ v ∧ v ≤ u := by
  simpa [withinB] using e
theorem sub_of_le {l v : Int} (h : l ≤ v) (g1 : -9223372036854775808 ≤ l) (g6 : v ≤ 9223372036854775807) : IntKind.u64.wrap (IntKind.u64.wrap v - IntKind.u64.wrap l) = v - l := by
  rw [sub_u64]; omega

set_option maxHeartbeats 3200000 in
theorem fit_any (h hl hh m : Bool) (l u v n : Int) (g1 : -9223372036854775808 ≤ l) (g2 : l ≤ 9223372036854775807) (g3 : -9223372036854775808 ≤ u) (g4 : u ≤ 9223372036854775807)
    (g5 : -9223372036854775808 ≤ v) (g6 : v ≤ 9223372036854775807) (h0 : 0 ≤ n) (h1 : n ≤ 18446744073709551615) (w : World) :
    Calls Try.prog 10 #[Con h hl hh m l u, .int .i64 v, .int .u64 n] w fun e w' => e = .returned (.bool true) ∧ Keeps w w' := by
  obtain ⟨N, rfl⟩ := Int.eq_ofNat_of_zero_le h0
  have hW := Lib.bitLen_le N 64 (Nat.le_refl _) (by omega)
  have hz : (N : Int) / 2 ^ Lib.bitLen N = 0 := by
    have := bitLen_hi N (by omega)
    rw [show ((2 : Int) ^ Lib.bitLen N) = ((2 ^ Lib.bitLen N : Nat) : Int) from by norm_cast, ← Int.natCast_ediv, Nat.div_eq_of_lt this]; rfl
  have hn : 0 < Lib.bitLen N → ((N : Int) / 2 ^ (Lib.bitLen N - 1) == 0) = false := by
    intro hp
    have := bitLen_low N (by omega) (bitLen_pos N hp)
    rw [show ((2 : Int) ^ (Lib.bitLen N - 1)) = ((2 ^ (Lib.bitLen N - 1) : Nat) : Int) from by norm_cast, ← Int.natCast_ediv]
    have h3 : 0 < N / 2 ^ (Lib.bitLen N - 1) := Nat.div_pos this (Nat.pow_pos (by omega))
    exact beq_eq_false_iff_ne.2 (by omega)
  have HZ := hide hz
  have HN := hide hn
  clear hz hn
  have HS : Hid (spanOk h hl hh l u = false ∨ (h = true ∧ hl = true ∧ hh = true ∧ l ≤ u)) := by
    cases e : spanOk h hl hh l u
    · exact Or.inl rfl
    · exact Or.inr (span_is e)
  go_enter Try.func10, Try.ntmps10
  go_wp2_with fail
  refine (span_any _ _ _ _ _ _ _).mono ?_
  rintro e w1 ⟨rfl, hb1⟩
  have B0 : Blk w1 w.heap.size 61 #[.bool h, .bool hl, .bool hh, .bool m, .int .i64 l, .int .i64 u] := (Blk.new w 61 _).keeps hb1
  have K1 : Keeps w w1 := Keeps.trans ((Keeps.refl _).alloc _) hb1
  clear hb1
  go_wp2_with fail
  refine (width_any _ _ h0 h1).mono ?_
  rintro e w2 ⟨rfl, rfl⟩
  rw [Int.toNat_natCast]
  generalize Lib.bitLen N = W at *
  go_wp2_with fail
  refine (awake8_any _).mono ?_
  rintro e w2 ⟨rfl, hb1⟩
  replace B0 := B0.keeps hb1
  replace K1 := K1.trans hb1
  clear hb1
  obtain ⟨hc0, hf0, hs0⟩ := B0.facts
  have hz := unhide HZ
  rcases unhide HS with hs | ⟨rfl, rfl, rfl, hle⟩
  · rw [hs]
    by_cases hp : 0 < W
    · have hn := unhide HN hp
      go_wp2_with fail
      all_goals
        go_ret
        exact ⟨rfl, K1⟩
    · go_wp2_with fail
      all_goals
        go_ret
        exact ⟨rfl, K1⟩
  · rw [sp1 _ _ hle, sn1 _ _ hle]
    rw [Int.emod_eq_of_lt (by omega) (by omega)]
    cases hd : withinB true true true l u v
    · have HD := hide hd
      clear hd
      by_cases hp : 0 < W
      · have hn := unhide HN hp
        go_wp2_with (go_at_call 46; refine (within_any _ _ _ _ _ _ _ _).mono ?_; rintro e w3 ⟨rfl, hb⟩; rw [unhide HD])
        all_goals
          go_ret
          exact ⟨rfl, K1.trans hb⟩
      · go_wp2_with (go_at_call 46; refine (within_any _ _ _ _ _ _ _ _).mono ?_; rintro e w3 ⟨rfl, hb⟩; rw [unhide HD])
        all_goals
          go_ret
          exact ⟨rfl, K1.trans hb⟩
    · obtain ⟨q1, q2⟩ := within_is hd
      have HD := hide hd
      clear hd
      have hx := sub_of_le q1 g1 g6
      have m1 : 0 ≤ v - l := by omega
      have m2 : v - l ≤ 18446744073709551615 := by omega
      have m3 : 0 ≤ u - l := by omega
      have m4 : u - l ≤ 18446744073709551615 := by omega
      have m5 : v - l ≤ u - l := by omega
      have m6 : Lib.bitLen (v - l).toNat ≤ Lib.bitLen (u - l).toNat := bitLen_mono _ _ (by omega) (by omega)
      by_cases hp : 0 < W
      · have hn := unhide HN hp
        go_wp2_with (first
          | (go_at_call 46; refine (within_any _ _ _ _ _ _ _ _).mono ?_; rintro e w3 ⟨rfl, hb⟩; rw [unhide HD]; replace B0 := B0.keeps hb; replace K1 := K1.trans hb; clear hb hc0 hf0 hs0; obtain ⟨hc0, hf0, hs0⟩ := B0.facts)
          | (go_at_call_of 48 (Value.int .u64 (v - l)); refine (width_any _ _ m1 m2).mono ?_; rintro e w4 ⟨rfl, rfl⟩)
          | (go_at_call 48; refine (width_any _ _ m3 m4).mono ?_; rintro e w4 ⟨rfl, rfl⟩))
        all_goals
          go_ret
          exact ⟨rfl, K1⟩
      · go_wp2_with (first
          | (go_at_call 46; refine (within_any _ _ _ _ _ _ _ _).mono ?_; rintro e w3 ⟨rfl, hb⟩; rw [unhide HD]; replace B0 := B0.keeps hb; replace K1 := K1.trans hb; clear hb hc0 hf0 hs0; obtain ⟨hc0, hf0, hs0⟩ := B0.facts)
          | (go_at_call_of 48 (Value.int .u64 (v - l)); refine (width_any _ _ m1 m2).mono ?_; rintro e w4 ⟨rfl, rfl⟩)
          | (go_at_call 48; refine (width_any _ _ m3 m4).mono ?_; rintro e w4 ⟨rfl, rfl⟩))
        all_goals
          go_ret
          exact ⟨rfl, K1⟩

end Go.Proofs.Ytknmcodpnhdghaa
