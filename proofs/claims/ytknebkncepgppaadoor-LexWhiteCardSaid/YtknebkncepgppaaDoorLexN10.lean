/- Tokens that are written anew, with white space and comments between. -/
import Derived.Test.YtknebkncepgppaaDoorLexN9
namespace Go.Proofs.YtknebkncepgppaaDoor
open Go.PlainAid
set_option linter.unusedVariables false

/-- How a token is written. -/
def wr (t : Tok) : List UInt8 := if t.1 = 4 then 39 :: (t.2.1.data.toList ++ [39, 72]) else if t.1 = 7 then 34 :: (esc t.2.1.data.toList ++ [34]) else t.2.1.data.toList
theorem at_bt {s : ByteArray} {i : Nat} {x : ByteArray} (h : At s i x.data.toList) {k : Nat} (hk : k < x.size) : bt s (i + k) = bt x k := by
  obtain ⟨c, hc⟩ : ∃ c, x.data.toList[k]? = some c := ⟨_, List.getElem?_eq_getElem (by rw [← Lib.size_eq]; exact hk)⟩
  rw [dig_of_list (h k c hc), dig_of_list hc]
theorem at_size {s : ByteArray} {i : Nat} {x : ByteArray} (h : At s i x.data.toList) (hx : 0 < x.size) : i + x.size ≤ s.size := by
  obtain ⟨c, hc⟩ : ∃ c, x.data.toList[x.size - 1]? = some c := ⟨_, List.getElem?_eq_getElem (by rw [← Lib.size_eq]; omega)⟩
  have := h _ c hc
  rcases Nat.lt_or_ge (i + (x.size - 1)) s.size with h1 | h1
  · omega
  · rw [List.getElem?_eq_none (by rw [← Lib.size_eq]; exact h1)] at this; cases this
/-- A name that is written elsewhere, with white space behind it. -/
theorem move_name {s t : ByteArray} {a b : Nat} (ha : a < s.size) (hl : isLet (bt s a) = true) {k : Int} {x : ByteArray} {e : Nat} (h : nameAt s a = some (k, x, e)) (hA : At t b x.data.toList) (hw : isWh (bt t (b + x.size)) = true) : tokAt t b = some (k, x, b + x.size) := by
  unfold nameAt at h
  split at h
  · rename_i hok
    simp only [Option.some.injEq, Prod.mk.injEq] at h
    obtain ⟨h1, h2, h3⟩ := h
    have hrun := (spanAt_is (nmP_lt s) a).1
    have hge : a ≤ nameEnd s a := hrun.1
    have hle : nameEnd s a ≤ s.size := spanAt_le (nmP_lt s) (Nat.le_of_lt ha)
    have hlt : a < nameEnd s a := by
      rcases Nat.lt_or_ge a (nameEnd s a) with h | h
      · exact h
      · have h5 := (spanAt_is (nmP_lt s) a).2
        rw [show spanAt (nmP s) s.size a = a from Nat.le_antisymm h hge] at h5
        simp [nmP, hl] at h5
    have hxz : x.size = nameEnd s a - a := by rw [← h2]; exact sub_size s a _ hle
    have hx : ∀ k, k < x.size → bt x k = bt s (a + k) := fun k hk => by rw [← h2]; exact bt_sub s a _ k hle (by omega)
    have hb : ∀ k, k < x.size → bt t (b + k) = bt s (a + k) := fun k hk => (at_bt hA hk).trans (hx k hk)
    rw [nameOk, decide_eq_true_iff] at hok
    have hwn : nmP t (b + x.size) = false := by
      simp only [isWh, Bool.or_eq_true, decide_eq_true_eq] at hw
      rcases hw with ((h | h) | h) | h <;> simp [nmP, h, isLet, isDig]
    have hrun2 : IsRun (nmP t) b (b + x.size) := by
      refine ⟨by omega, fun j j1 j2 => ?_⟩
      have hj := hrun.2 (a + (j - b)) (by omega) (by show a + (j - b) < nameEnd s a; omega)
      have hbj := hb (j - b) (by omega)
      rw [show b + (j - b) = j by omega] at hbj
      simp only [nmP, hbj, Bool.or_eq_true, Bool.and_eq_true, decide_eq_true_eq, Bool.not_eq_true', decide_eq_false_iff_not] at hj ⊢
      rcases hj with hj | ⟨hj1, hj2⟩
      · exact .inl hj
      · refine .inr ⟨hj1, ?_⟩
        by_cases hlast : j + 1 < b + x.size
        · have := hb (j - b + 1) (by omega)
          rw [show b + (j - b + 1) = j + 1 by omega, show a + (j - b + 1) = a + (j - b) + 1 by omega] at this
          rw [this]; exact hj2
        · exfalso
          apply hok.2
          rw [show nameEnd s a - 1 = a + (j - b) by omega]
          exact hj1
    have hend : nameEnd t b = b + x.size := spanAt_run (nmP_lt t) (by have := at_size hA (by omega); omega) hrun2 hwn
    have hsub : sub t b (b + x.size) = x := by
      have hz := at_size hA (by omega)
      apply ba_of_bt
      · rw [sub_size _ _ _ hz]; omega
      · intro k hk
        rw [sub_size _ _ _ hz] at hk
        rw [bt_sub _ _ _ _ hz (by omega), at_bt hA (by omega)]
    have hl2 : isLet (bt t b) = true := by have := hb 0 (by omega); rw [Nat.add_zero, Nat.add_zero] at this; rw [this]; exact hl
    have hok2 : nameOk t b = true := by
      rw [nameOk, hend, decide_eq_true_iff]
      refine ⟨by omega, ?_⟩
      have := hb (x.size - 1) (by omega)
      rw [show b + x.size - 1 = b + (x.size - 1) by omega, this, show a + (x.size - 1) = nameEnd s a - 1 by omega]
      exact hok.2
    rw [tokAt, if_pos hl2, nameAt, if_pos hok2, hend, hsub, ← h1, h2]
  · cases h
theorem move_num {s t : ByteArray} {a b : Nat} (ha : a < s.size) (hl : isLet (bt s a) = false) (hd : isDig (bt s a) = true ∨ bt s a = 45) {k : Int} {x : ByteArray} {e : Nat} (h : numAt s a = some (k, x, e)) (hA : At t b x.data.toList) (hw : isWh (bt t (b + x.size)) = true) : tokAt t b = some (k, x, b + x.size) := by
  unfold numAt at h
  split at h
  · rename_i hok
    simp only [Option.some.injEq, Prod.mk.injEq] at h
    obtain ⟨h1, h2, h3⟩ := h
    have hnf := numFrom_le s ha
    obtain ⟨hrun, hle⟩ := numEnd_is s ha
    rw [numOk_iff] at hok
    simp only [Bool.and_eq_true, decide_eq_true_eq, Bool.not_eq_true', Bool.and_eq_false_iff, decide_eq_false_iff_not] at hok
    obtain ⟨⟨⟨o1, o2⟩, o3⟩, o4⟩ := hok
    have hxz : x.size = numEnd s a - a := by rw [← h2]; exact sub_size s a _ hle
    have hx : ∀ k, k < x.size → bt x k = bt s (a + k) := fun k hk => by rw [← h2]; exact bt_sub s a _ k hle (by omega)
    have hb : ∀ k, k < x.size → bt t (b + k) = bt s (a + k) := fun k hk => (at_bt hA hk).trans (hx k hk)
    have hb0 : bt t b = bt s a := by have := hb 0 (by omega); rwa [Nat.add_zero, Nat.add_zero] at this
    have hf2 : numFrom t b = b + (numFrom s a - a) := by
      unfold numFrom
      rw [hb0]
      split <;> omega
    have hwd : dgP t (b + x.size) = false ∧ isLet (bt t (b + x.size)) = false := by
      simp only [isWh, Bool.or_eq_true, decide_eq_true_eq] at hw
      rcases hw with ((h | h) | h) | h <;> simp [dgP, h, isLet, isDig]
    have hz := at_size hA (by omega)
    have hrun2 : IsRun (dgP t) (numFrom t b) (b + x.size) := by
      rw [hf2]
      refine ⟨by omega, fun j j1 j2 => ?_⟩
      have hj := hrun.2 (a + (j - b)) (by omega) (by omega)
      have hbj := hb (j - b) (by omega)
      rw [show b + (j - b) = j by omega] at hbj
      rw [dgP, hbj]; exact hj
    have hend : numEnd t b = b + x.size := by rw [numEnd]; exact spanAt_run (dgP_lt t) (by rw [hf2]; omega) hrun2 hwd.1
    have hsub : sub t b (b + x.size) = x := by
      apply ba_of_bt
      · rw [sub_size _ _ _ hz]; omega
      · intro k hk
        rw [sub_size _ _ _ hz] at hk
        rw [bt_sub _ _ _ _ hz (by omega), at_bt hA (by omega)]
    have hdv : ∀ m, m ≤ numEnd s a - numFrom s a → dval t (numFrom t b) m = dval s (numFrom s a) m := by
      intro m
      induction m with
      | zero => intro _; rfl
      | succ m ih =>
        intro hm
        show 10 * dval t (numFrom t b) m + (bt t (numFrom t b + m) - 48).toNat = 10 * dval s (numFrom s a) m + (bt s (numFrom s a + m) - 48).toNat
        rw [ih (by omega), hf2, show b + (numFrom s a - a) + m = b + (numFrom s a - a + m) by omega, hb _ (by omega), show a + (numFrom s a - a + m) = numFrom s a + m by omega]
    have hnv : numVal t b = numVal s a := by
      rw [numVal, numVal, hend, show b + x.size - numFrom t b = numEnd s a - numFrom s a by rw [hf2]; omega]
      exact hdv _ (Nat.le_refl _)
    have hin : numIn t b = true := by rw [numIn, hnv, hb0]; exact o4
    have hok2 : numOk t b = true := by
      rw [numOk_iff, hend, hwd.2, hin, decide_eq_true (show numFrom t b < b + x.size by rw [hf2]; omega)]
      have hfb : bt t (numFrom t b) = bt s (numFrom s a) := by
        rw [hf2, hb _ (by omega), show a + (numFrom s a - a) = numFrom s a by omega]
      rw [hfb]
      rcases o3 with h | h
      · rw [decide_eq_false h]; rfl
      · have he : numEnd s a = a + 1 := by simpa using h
        rw [decide_eq_true (show b + x.size = b + 1 by omega)]; simp
    have hl2 : ¬ isLet (bt t b) = true := by rw [hb0, hl]; simp
    rw [tokAt, if_neg hl2, if_pos (by rw [hb0]; exact hd), numAt, if_pos hok2, hend, hsub, h1]
  · cases h
theorem move_sign {s t : ByteArray} {a b : Nat} (ha : a < s.size) (h0 : isLet (bt s a) = false) (hd : ¬ (isDig (bt s a) = true ∨ bt s a = 45)) (h39 : bt s a ≠ 39) (h34 : bt s a ≠ 34) {k : Int} {x : ByteArray} {e : Nat} (h : signAt s a = some (k, x, e)) (hA : At t b x.data.toList) (hw : isWh (bt t (b + x.size)) = true) : tokAt t b = some (k, x, b + x.size) := by
  have hsf := sign_facts ha h
  unfold signAt at h
  cases hy : signsL.find? (starts s a) with
  | none => rw [hy] at h; cases h
  | some y =>
    rw [hy] at h
    simp only [Option.some.injEq, Prod.mk.injEq] at h
    obtain ⟨h1, rfl, h3⟩ := h
    have hne : ∀ z ∈ signsL, (∀ k, k < z.size → bt z k ≠ 0) ∧ 0 < z.size ∧ (∀ k, k < z.size → isWh (bt z k) = false) := by decide
    have hym := List.mem_of_find?_eq_some hy
    obtain ⟨n1, n2, n3⟩ := hne y hym
    have hys := (starts_iff n1).1 (List.find?_some hy)
    have hyt : starts t b y = true := (starts_iff n1).2 fun k hk => at_bt hA hk
    have hfind : signsL.find? (starts t b) = some y := by
      obtain ⟨l1, l2, e1, e2⟩ := List.find?_eq_some_iff_append.1 hy |>.2
      rw [List.find?_eq_some_iff_append]
      refine ⟨hyt, l1, l2, e1, fun z hz => ?_⟩
      have hzm : z ∈ signsL := by rw [e1]; simp [hz]
      obtain ⟨z1, z2, z3⟩ := hne z hzm
      have hzs : starts s a z = false := by simpa using e2 z hz
      cases hzt : starts t b z with
      | false => rfl
      | true =>
        exfalso
        have hzt' := (starts_iff z1).1 hzt
        rcases Nat.lt_or_ge y.size z.size with hlt | hge
        · have := hzt' y.size hlt
          rw [this, z3 _ hlt] at hw; cases hw
        · have : starts s a z = true := (starts_iff z1).2 fun k hk => by rw [hys k (by omega), ← at_bt hA (by omega)]; exact hzt' k hk
          rw [hzs] at this; cases this
    have hb0 : bt t b = bt s a := by
      have e1 := at_bt hA (k := 0) n2
      have e2 := hys 0 n2
      rw [Nat.add_zero] at e1 e2
      rw [e1, e2]
    rw [tokAt, hb0, if_neg (by simp [h0]), if_neg hd, if_neg h39, if_neg h34, signAt, hfind, ← h1]
/-- A token that is written elsewhere, with white space behind it. -/
theorem move_tok {s t : ByteArray} {a b : Nat} (ha : a < s.size) {k : Int} {x : ByteArray} {e : Nat} (h : tokAt s a = some (k, x, e)) (hA : At t b (wr (k, x, a))) (hw : isWh (bt t (b + (wr (k, x, a)).length)) = true) : tokAt t b = some (k, x, b + (wr (k, x, a)).length) := by
  have hwn : bt t (b + (wr (k, x, a)).length) ≠ 34 := by
    intro e; rw [e] at hw; cases hw
  unfold tokAt at h
  split at h
  · rename_i hl
    have hk : k ≠ 4 ∧ k ≠ 7 := by
      unfold nameAt at h
      split at h
      · simp only [Option.some.injEq, Prod.mk.injEq] at h
        rw [← h.1]
        rcases kindOf_cases (sub s a (nameEnd s a)) with q | q | q <;> rw [q] <;> decide
      · cases h
    have hwr : wr (k, x, a) = x.data.toList := by rw [wr, if_neg hk.1, if_neg hk.2]
    rw [hwr, ← Lib.size_eq] at hw ⊢
    rw [hwr] at hA
    exact move_name ha hl h hA hw
  · rename_i hl
    split at h
    · rename_i hd
      have hk : k ≠ 4 ∧ k ≠ 7 := by
        unfold numAt at h
        split at h
        · simp only [Option.some.injEq, Prod.mk.injEq] at h
          rw [← h.1]; decide
        · cases h
      have hwr : wr (k, x, a) = x.data.toList := by rw [wr, if_neg hk.1, if_neg hk.2]
      rw [hwr, ← Lib.size_eq] at hw ⊢
      rw [hwr] at hA
      exact move_num ha (by simpa using hl) hd h hA hw
    · rename_i hd
      split at h
      · unfold hexAt at h
        split at h
        · rename_i hok
          simp only [Option.some.injEq, Prod.mk.injEq] at h
          obtain ⟨rfl, h2, h3⟩ := h
          have hwr : wr (4, x, a) = 39 :: (x.data.toList ++ [39, 72]) := by rw [wr, if_pos rfl]
          rw [hexOk, decide_eq_true_iff] at hok
          have hle : hexEnd s a ≤ s.size := spanAt_le (hxP_lt s) (by omega)
          have hrun := (spanAt_is (hxP_lt s) (a + 1)).1
          have hge : a + 1 ≤ hexEnd s a := hrun.1
          have hxz : x.size = hexEnd s a - (a + 1) := by rw [← h2]; exact sub_size s _ _ hle
          have hall : AllHex x.data.toList := by
            intro k c hc
            have hk : k < x.size := by
              rcases Nat.lt_or_ge k x.size with h | h
              · exact h
              · rw [List.getElem?_eq_none (by rw [← Lib.size_eq]; exact h)] at hc; cases hc
            rw [← dig_of_list hc, ← h2, bt_sub s (a + 1) _ k hle (by omega)]
            exact hrun.2 (a + 1 + k) (by omega) (by show a + 1 + k < hexEnd s a; omega)
          rw [hwr] at hA ⊢
          have := tok_hexs hA hall (by omega)
          rw [this]
          rw [show (39 :: (x.data.toList ++ [39, 72])).length = x.size + 3 by rw [Lib.size_eq]; simp]
          rfl
        · cases h
      · rename_i h39
        split at h
        · unfold quoAt at h
          split at h
          · cases h
          · rename_i out e2 hq
            split at h
            · rename_i hv
              simp only [Option.some.injEq, Prod.mk.injEq] at h
              obtain ⟨rfl, h2, h3⟩ := h
              have hxl : x.data.toList = out := by rw [← h2]
              have hwr : wr (7, x, a) = 34 :: (esc x.data.toList ++ [34]) := by rw [wr, if_neg (by show ¬ ((7 : Int) = 4); decide), if_pos rfl]
              have hlen : (wr (7, x, a)).length = (esc x.data.toList).length + 2 := by rw [hwr]; simp
              rw [hlen] at hwn ⊢
              rw [hwr] at hA
              exact tok_quoted hA (by rwa [Nat.add_assoc]) (by rw [hxl]; exact hv)
            · cases h
        · rename_i h34
          have hsf := sign_facts ha h
          have hwr : wr (k, x, a) = x.data.toList := by rw [wr, if_neg (by show ¬ (k = 4); rw [hsf.2.2.1]; decide), if_neg (by show ¬ (k = 7); rw [hsf.2.2.1]; decide)]
          rw [hwr, ← Lib.size_eq] at hw ⊢
          rw [hwr] at hA
          exact move_sign ha (by simpa using hl) hd h39 h34 h hA hw
end Go.Proofs.YtknebkncepgppaaDoor
