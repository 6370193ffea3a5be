/- How the law writes a token. -/
import Derived.Test.YtknebkncepgppaaDoorLexL4
import Derived.Test.YtknebkncepgppaaDoorLexN11
namespace Go.Proofs.YtknebkncepgppaaDoor
open Go.ChangeShapes Go.WideShapes Go.ChangeAt Go.RowKit Go.PlainAid
set_option linter.unusedVariables false
set_option linter.unusedSimpArgs false

theorem qt_len (s : ByteArray) : ∀ f i out x e, qt s f i out = some (x, e) → x.length + i ≤ out.length + e
  | 0, i, out, x, e, h => by cases h
  | f + 1, i, out, x, e, h => by
    simp only [qt] at h
    split at h
    · cases h
    · split at h
      · have := qt_len s f _ _ _ _ h; simp at this; omega
      · split at h
        · have := qt_len s f _ _ _ _ h; simp at this; omega
        · cases h; omega
theorem tok_size {s : ByteArray} {a : Nat} (ha : a < s.size) {k : Int} {x : ByteArray} {e : Nat} (h : tokAt s a = some (k, x, e)) : x.size ≤ s.size := by
  have hend := tokAt_end ha h
  by_cases k4 : k = 4
  · subst k4
    unfold tokAt at h
    split at h
    · unfold nameAt at h
      split at h
      · simp only [Option.some.injEq, Prod.mk.injEq] at h
        rcases kindOf_cases (sub s a (nameEnd s a)) with q | q | q <;> rw [q] at h <;> exact absurd h.1 (by decide)
      · cases h
    · split at h
      · unfold numAt at h
        split at h
        · simp at h
        · cases h
      · split at h
        · unfold hexAt at h
          split at h
          · simp only [Option.some.injEq, Prod.mk.injEq] at h
            rw [← h.2.1, sub, ByteArray.size_extract]; omega
          · cases h
        · split at h
          · unfold quoAt at h
            split at h
            · cases h
            · split at h
              · simp at h
              · cases h
          · have := (sign_facts ha h).2.2.1; cases this
  · by_cases k7 : k = 7
    · subst k7
      unfold tokAt at h
      split at h
      · unfold nameAt at h
        split at h
        · simp only [Option.some.injEq, Prod.mk.injEq] at h
          rcases kindOf_cases (sub s a (nameEnd s a)) with q | q | q <;> rw [q] at h <;> exact absurd h.1 (by decide)
        · cases h
      · split at h
        · unfold numAt at h
          split at h
          · simp at h
          · cases h
        · split at h
          · unfold hexAt at h
            split at h
            · simp at h
            · cases h
          · split at h
            · unfold quoAt at h
              split at h
              · cases h
              · rename_i out e2 hq
                split at h
                · simp only [Option.some.injEq, Prod.mk.injEq] at h
                  obtain ⟨_, h2, h3⟩ := h
                  have := qt_len s _ _ _ _ _ hq
                  have hz : x.size = out.length := by rw [← h2]; show out.toArray.size = _; simp
                  simp at this
                  omega
                · cases h
            · have := (sign_facts ha h).2.2.1; cases this
    · rw [(tok_is ha h).2 k4 k7, sub_size _ _ _ hend.2]; omega
theorem wr_len (t : Tok) : (wr t).length ≤ 2 * t.2.1.size + 3 := by
  have hz := Lib.size_eq t.2.1
  have he := esc_len t.2.1.data.toList
  unfold wr
  split
  · simp only [List.length_cons, List.length_append, List.length_nil]; omega
  · split
    · simp only [List.length_cons, List.length_append, List.length_nil]; omega
    · omega

set_option maxRecDepth 100000 in
set_option maxHeartbeats 8000000 in
theorem sign_help (s : ByteArray) (fr en k a : Int) (x : ByteArray) (hx : x.size ≤ 20000) (w : World) :
    Calls Tryd.prog 15 #[.string s, .int .i64 fr, .int .i64 en, .agg #[.int .i64 k, .string x, .int .i64 a]] w fun e w' => ∃ y, e = .returned (.string y) ∧ y.data.toList = wr (k, x, 0) ∧ Keeps w w' := by
  have HB := hide (Blk.new w 29 #[.int .i64 k, .string x, .int .i64 a])
  have HK := hide ((Keeps.refl w).alloc (.cells #[.int .i64 k, .string x, .int .i64 a] 29))
  by_cases k4 : k = 4
  · subst k4
    have hs1 : ¬ (9223372036854775807 < 1 + x.size) := by omega
    have hs2 : ¬ (9223372036854775807 < (({ data := #[39] } : ByteArray) ++ x).size + 2) := by rw [ByteArray.size_append]; show ¬ (9223372036854775807 < 1 + x.size + 2); omega
    go_enter Tryd.func15, Tryd.ntmps15
    go_wp2
    go_ret
    exact ⟨_, rfl, by rw [ByteArray.toList_data_append, ByteArray.toList_data_append, wr, if_pos rfl]; rfl, unhide HK⟩
  · have k4b : (k == 4) = false := beq_eq_false_iff_ne.2 k4
    by_cases k7 : k = 7
    · subst k7
      have hxl : x.data.toList.length = x.size := (Lib.size_eq x).symm
      have HXL := hide hxl
      clear hxl k4 k4b
      go_enter Tryd.func15, Tryd.ntmps15
      go_wp2
      go_loopg [9, 10] x.size (fun n sv iv wr0 => ∃ (j : Nat) (t : ByteArray), iv = .int .i64 (j : Nat) ∧ sv = .string t ∧ j ≤ x.size ∧ n = x.size - j ∧ w.alloc (.cells #[.int .i64 7, .string x, .int .i64 a] 29) = wr0 ∧ t.data.toList = 34 :: esc (x.data.toList.take j))
      case atStart => exact ⟨0, _, rfl, rfl, Nat.zero_le _, rfl, rfl, rfl⟩
      case round =>
        obtain ⟨j, t, rfl, rfl, hj, hkj, rfl, ht⟩ := hrel
        have HKJ := hide hkj
        have htz : t.size ≤ 1 + 2 * j := by
          have := esc_len (x.data.toList.take j)
          rw [List.length_take, unhide HXL] at this
          rw [Lib.size_eq, ht]; simp; omega
        have HT := hide ht
        have hcx := (unhide HB).cell 1
        replace hcx : (w.alloc (.cells #[.int .i64 7, .string x, .int .i64 a] 29)).cell? ⟨w.heap.size, 1, none⟩ = some (.string x) := hcx
        clear hkj ht
        generalize w.alloc (.cells #[.int .i64 7, .string x, .int .i64 a] 29) = W1 at *
        by_cases hlt : j < x.size
        · have hltI : (j : Int) < (x.size : Int) := by omega
          have hba := get_bt x j hlt
          obtain ⟨cb, hcb⟩ : ∃ cb, x.data.toList[j]? = some cb := ⟨_, List.getElem?_eq_getElem (by rw [unhide HXL]; exact hlt)⟩
          have hbt := dig_of_list hcb
          have htk : x.data.toList.take (j + 1) = x.data.toList.take j ++ [cb] := by rw [List.take_add_one, hcb]; rfl
          have hex : (x.extract j (j + 1)).data.toList = [cb] := by
            have := snoc_one x ⟨#[]⟩ hlt
            rw [ByteArray.toList_data_append, byteAt_of hbt] at this
            simpa using this
          have hez : (x.extract j (j + 1)).size = 1 := by rw [Lib.size_eq, hex]; rfl
          have hs1 : ¬ (9223372036854775807 < t.size + (x.extract j (j + 1)).size) := by omega
          have hs2 : ¬ (9223372036854775807 < (t ++ x.extract j (j + 1)).size + 1) := by rw [ByteArray.size_append]; omega
          have HNQ := hide (show cb ≠ 34 → (t ++ x.extract j (j + 1)).data.toList = 34 :: esc (x.data.toList.take (j + 1)) by
            intro hne
            rw [ByteArray.toList_data_append, unhide HT, hex, htk, esc_append]
            simp [esc, hne])
          have HYQ := hide (show cb = 34 → ((t ++ x.extract j (j + 1)) ++ ⟨#[34]⟩).data.toList = 34 :: esc (x.data.toList.take (j + 1)) by
            intro he
            rw [ByteArray.toList_data_append, ByteArray.toList_data_append, unhide HT, hex, htk, esc_append]
            simp [esc, he])
          clear hex htk hcb hez
          by_cases q : bt x j = 34
          · have hc34 := quo_iff.1 (hbt.symm.trans q)
            rw [q] at hba
            have HY := hide (unhide HYQ hc34)
            clear q hbt
            go_wp2
            go_roundg (x.size - (j + 1))
            case measure => have := unhide HKJ; omega
            case rel => exact ⟨j + 1, _, rfl, rfl, by omega, rfl, rfl, unhide HY⟩
          · have hc34 : cb ≠ 34 := fun e => q (hbt.trans (quo_iff.2 e))
            have q2 : (bt x j == 34) = false := beq_eq_false_iff_ne.2 q
            have HY := hide (unhide HNQ hc34)
            clear q hbt
            go_wp2
            go_roundg (x.size - (j + 1))
            case measure => have := unhide HKJ; omega
            case rel => exact ⟨j + 1, _, rfl, rfl, by omega, rfl, rfl, unhide HY⟩
        · have hltI : ¬ (j : Int) < (x.size : Int) := by omega
          obtain rfl : j = x.size := by omega
          have HTF := hide (show t.data.toList = 34 :: esc x.data.toList by have := unhide HT; rwa [List.take_of_length_le (Nat.le_of_eq (unhide HXL))] at this)
          have hs1 : ¬ (9223372036854775807 < t.size + 1) := by omega
          clear HT
          go_wp2
          go_ret
          exact ⟨_, rfl, by rw [ByteArray.toList_data_append, unhide HTF, wr, if_neg (by show ¬ ((7 : Int) = 4); decide), if_pos rfl]; rfl, unhide HK⟩
    · have k7b : (k == 7) = false := beq_eq_false_iff_ne.2 k7
      have HW := hide (show wr (k, x, 0) = x.data.toList by rw [wr, if_neg k4, if_neg k7])
      clear k4 k7
      go_enter Tryd.func15, Tryd.ntmps15
      go_wp2
      go_ret
      exact ⟨x, rfl, (unhide HW).symm, unhide HK⟩
end Go.Proofs.YtknebkncepgppaaDoor
