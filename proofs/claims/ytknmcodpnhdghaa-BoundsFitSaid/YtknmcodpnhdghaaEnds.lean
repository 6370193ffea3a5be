/- The law BoundsEnds of layer 8: both ends of any bounds. It holds for every input. -/
import Derived.Test.YtknmcodpnhdghaaSpan
import Derived.Test.YtknmcodpnhdghaaBndRef
namespace Go.Proofs.Ytknmcodpnhdghaa
open Go.ChangeShapes Go.WideShapes Go.ChangeAt Go.RowKit

theorem ck0 (l u : Int) (h : l ≤ u) : checkE true true true false l u = 0 := by simp [checkE, crossedB]; omega
theorem ck11 (l u : Int) (h : u < l) : checkE true true true false l u = 11 := by simp [checkE, crossedB]; omega
theorem sp1 (l u : Int) (h : l ≤ u) : spanOk true true true l u = true := by simp [spanOk]; omega
theorem sp0 (l u : Int) (h : u < l) : spanOk true true true l u = false := by simp [spanOk]; omega
theorem sn1 (l u : Int) (h : l ≤ u) : spanN true true true l u = (u - l) % 18446744073709551616 := by simp [spanN, sp1 l u h]
theorem sn0 (l u : Int) (h : u < l) : spanN true true true l u = 0 := by simp [spanN, sp0 l u h]
theorem wi1 (l u v : Int) (h : l ≤ v) (h' : v ≤ u) : withinB true true true l u v = true := by simp [withinB]; omega
theorem wi0 (l u v : Int) (h : v < l ∨ u < v) : withinB true true true l u v = false := by simp [withinB]; omega
theorem wi (l u v : Int) : withinB true true true l u v = (decide (l ≤ v) && decide (v ≤ u)) := by simp [withinB]

abbrev cs6 (l u : Int) : Array Value := #[.bool true, .bool true, .bool true, .bool false, .int .i64 l, .int .i64 u]

set_option maxHeartbeats 2000000 in
theorem ends_any (l u : Int) (h1 : -9223372036854775808 ≤ l) (h2 : l ≤ 9223372036854775807) (h3 : -9223372036854775808 ≤ u) (h4 : u ≤ 9223372036854775807) (w : World) :
    Calls Try.prog 11 #[.int .i64 l, .int .i64 u] w fun e w' => e = .returned (.bool true) ∧ Keeps w w' := by
  have hle : min l u ≤ max l u := by omega
  have hlo1 : -9223372036854775808 ≤ min l u := by omega
  have hlo2 : min l u ≤ 9223372036854775807 := by omega
  have hhi1 : -9223372036854775808 ≤ max l u := by omega
  have hhi2 : max l u ≤ 9223372036854775807 := by omega
  go_enter Try.func11, Try.ntmps11
  go_wp2_with fail
  generalize min l u = lo at *
  generalize max l u = hi at *
  refine (span_any _ _ _ _ _ _ _).mono ?_
  rintro e w1 ⟨rfl, hb1⟩
  have B0 : Blk w1 w.heap.size 61 (cs6 lo hi) := ((Blk.new w 61 (cs6 lo hi)).alloc _).keeps hb1
  have B1 : Blk w1 (w.heap.size + 1) 61 (cs6 hi lo) := by
    have := (Blk.new (w.alloc (.cells (cs6 lo hi) 61)) 61 (cs6 hi lo)).keeps hb1
    simpa using this
  have K1 : Keeps w w1 := Keeps.trans (((Keeps.refl _).alloc _).alloc _) hb1
  clear hb1
  obtain ⟨hc0, hf0, hs0⟩ := B0.facts
  obtain ⟨hc1, hf1, hs1⟩ := B1.facts
  rw [sp1 lo hi hle, sn1 lo hi hle, ← sub_u64]
  go_wp2_with fail
  clear hc0 hf0 hc1 hf1
  have HA : Hid (lo = -9223372036854775808 ∨ withinB true true true lo hi (wrap64 (lo - 1)) = false) := by
    by_cases ha : lo = -9223372036854775808
    · exact Or.inl ha
    · exact Or.inr (wi0 _ _ _ (by unfold wrap64; omega))
  have HB : Hid (hi = 9223372036854775807 ∨ withinB true true true lo hi (wrap64 (hi + 1)) = false) := by
    by_cases ha : hi = 9223372036854775807
    · exact Or.inl ha
    · exact Or.inr (wi0 _ _ _ (by unfold wrap64; omega))
  by_cases hlt : lo < hi
  · have hne : (lo == hi) = false := beq_eq_false_iff_ne.2 (by omega)
    by_cases ha : lo = -9223372036854775808 <;> by_cases hc : hi = 9223372036854775807
    all_goals first
      | (have e1 : (lo == -9223372036854775808) = true := beq_iff_eq.2 ha)
      | (have e1 : (lo == -9223372036854775808) = false := beq_eq_false_iff_ne.2 ha)
    all_goals first
      | (have e2 : (hi == 9223372036854775807) = true := beq_iff_eq.2 hc)
      | (have e2 : (hi == 9223372036854775807) = false := beq_eq_false_iff_ne.2 hc)
    all_goals first
      | (have F1 := hide ((unhide HA).resolve_left ha))
      | skip
    all_goals first
      | (have F2 := hide ((unhide HB).resolve_left hc))
      | skip
    all_goals
      clear ha hc
      go_wp2_with (first
        | (go_at_call 41; refine (span_any _ _ _ _ _ _ _).mono ?_; rintro e wn ⟨rfl, hb⟩; replace B0 := B0.keeps hb; replace B1 := B1.keeps hb; replace K1 := K1.trans hb; clear hb; (first | clear hc0 hf0 hc1 hf1 | skip); obtain ⟨hc0, hf0, hs0⟩ := B0.facts; obtain ⟨hc1, hf1, hs1⟩ := B1.facts; rw [sp0 _ _ hlt, sn0 _ _ hlt])
        | (go_at_call 43; refine (awake8_any _).mono ?_; rintro e wn ⟨rfl, hb⟩; replace B0 := B0.keeps hb; replace B1 := B1.keeps hb; replace K1 := K1.trans hb; clear hb; (first | clear hc0 hf0 hc1 hf1 | skip); obtain ⟨hc0, hf0, hs0⟩ := B0.facts; obtain ⟨hc1, hf1, hs1⟩ := B1.facts)
        | (go_at_call 44; refine (check_any _ _ _ _ _ _ _ _).mono ?_; rintro e wn ⟨rfl, hb⟩; replace B0 := B0.keeps hb; replace B1 := B1.keeps hb; replace K1 := K1.trans hb; clear hb; (first | clear hc0 hf0 hc1 hf1 | skip); obtain ⟨hc0, hf0, hs0⟩ := B0.facts; obtain ⟨hc1, hf1, hs1⟩ := B1.facts; (first | rw [ck0 _ _ hle] | rw [ck11 _ _ hlt]))
        | (go_at_call 46; refine (within_any _ _ _ _ _ _ _ _).mono ?_; rintro e wn ⟨rfl, hb⟩; replace B0 := B0.keeps hb; replace B1 := B1.keeps hb; replace K1 := K1.trans hb; clear hb; (first | clear hc0 hf0 hc1 hf1 | skip); obtain ⟨hc0, hf0, hs0⟩ := B0.facts; obtain ⟨hc1, hf1, hs1⟩ := B1.facts; (with_reducible first | rw [wi1 _ _ _ (Int.le_refl _) hle] | rw [wi1 _ _ _ hle (Int.le_refl _)] | rw [wi1 _ _ _ (Int.le_refl _) (Int.le_refl _)] | rw [unhide F1] | rw [unhide F2])))
      all_goals
        go_ret
        exact ⟨rfl, K1⟩
  · obtain rfl : lo = hi := by omega
    by_cases ha : lo = -9223372036854775808 <;> by_cases hc : lo = 9223372036854775807
    all_goals first
      | (have e1 : (lo == -9223372036854775808) = true := beq_iff_eq.2 ha)
      | (have e1 : (lo == -9223372036854775808) = false := beq_eq_false_iff_ne.2 ha)
    all_goals first
      | (have e2 : (lo == 9223372036854775807) = true := beq_iff_eq.2 hc)
      | (have e2 : (lo == 9223372036854775807) = false := beq_eq_false_iff_ne.2 hc)
    all_goals first
      | (have F1 := hide ((unhide HA).resolve_left ha))
      | skip
    all_goals first
      | (have F2 := hide ((unhide HB).resolve_left hc))
      | skip
    all_goals
      clear ha hc
      go_wp2_with (first
        | (go_at_call 41; refine (span_any _ _ _ _ _ _ _).mono ?_; rintro e wn ⟨rfl, hb⟩; replace B0 := B0.keeps hb; replace B1 := B1.keeps hb; replace K1 := K1.trans hb; clear hb; (first | clear hc0 hf0 hc1 hf1 | skip); obtain ⟨hc0, hf0, hs0⟩ := B0.facts; obtain ⟨hc1, hf1, hs1⟩ := B1.facts; rw [sp1 _ _ hle, sn1 _ _ hle, ← sub_u64])
        | (go_at_call 43; refine (awake8_any _).mono ?_; rintro e wn ⟨rfl, hb⟩; replace B0 := B0.keeps hb; replace B1 := B1.keeps hb; replace K1 := K1.trans hb; clear hb; (first | clear hc0 hf0 hc1 hf1 | skip); obtain ⟨hc0, hf0, hs0⟩ := B0.facts; obtain ⟨hc1, hf1, hs1⟩ := B1.facts)
        | (go_at_call 44; refine (check_any _ _ _ _ _ _ _ _).mono ?_; rintro e wn ⟨rfl, hb⟩; replace B0 := B0.keeps hb; replace B1 := B1.keeps hb; replace K1 := K1.trans hb; clear hb; (first | clear hc0 hf0 hc1 hf1 | skip); obtain ⟨hc0, hf0, hs0⟩ := B0.facts; obtain ⟨hc1, hf1, hs1⟩ := B1.facts; rw [ck0 _ _ hle])
        | (go_at_call 46; refine (within_any _ _ _ _ _ _ _ _).mono ?_; rintro e wn ⟨rfl, hb⟩; replace B0 := B0.keeps hb; replace B1 := B1.keeps hb; replace K1 := K1.trans hb; clear hb; (first | clear hc0 hf0 hc1 hf1 | skip); obtain ⟨hc0, hf0, hs0⟩ := B0.facts; obtain ⟨hc1, hf1, hs1⟩ := B1.facts; (with_reducible first | rw [wi1 _ _ _ (Int.le_refl _) hle] | rw [wi1 _ _ _ hle (Int.le_refl _)] | rw [wi1 _ _ _ (Int.le_refl _) (Int.le_refl _)] | rw [unhide F1] | rw [unhide F2])))
      all_goals
        go_ret
        exact ⟨rfl, K1⟩

#print axioms ends_any
end Go.Proofs.Ytknmcodpnhdghaa
