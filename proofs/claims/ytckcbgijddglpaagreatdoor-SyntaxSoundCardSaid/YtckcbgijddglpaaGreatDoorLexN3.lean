/- Digits and their number; what strconv.ParseInt makes of them. -/
import Derived.Test.YtckcbgijddglpaaGreatDoorLexN2
import Derived.Lib.ParseIntBCases
namespace Go.Proofs.YtckcbgijddglpaaGreatDoor
open Go.PlainAid Go.Lib
set_option linter.unusedVariables false

def valL (acc : Nat) (l : List UInt8) : Nat := l.foldl (fun (a : Nat) (c : UInt8) => a * 10 + (c.toNat - 48)) acc
theorem valL_nil (acc : Nat) : valL acc [] = acc := List.foldl_nil
theorem valL_cons (acc : Nat) (c : UInt8) (r : List UInt8) : valL acc (c :: r) = valL (acc * 10 + (c.toNat - 48)) r := List.foldl_cons ..
def Digs (l : List UInt8) : Prop := ∀ c ∈ l, 48 ≤ c.toNat ∧ c.toNat ≤ 57
theorem valL_ge : ∀ (l : List UInt8) (acc : Nat), acc ≤ valL acc l
  | [], acc => by rw [valL_nil]; exact Nat.le_refl _
  | c :: r, acc => by rw [valL_cons]; have := valL_ge r (acc * 10 + (c.toNat - 48)); omega
theorem valL_append : ∀ (l m : List UInt8) (acc : Nat), valL acc (l ++ m) = valL (valL acc l) m
  | [], m, acc => by rw [valL_nil]; rfl
  | c :: r, m, acc => by rw [List.cons_append, valL_cons, valL_cons]; exact valL_append r m _
theorem parseUintM_digs : ∀ (l : List UInt8) (acc : Nat), Digs l → acc ≤ 18446744073709551615 → parseUintM 18446744073709551615 acc l = if valL acc l ≤ 18446744073709551615 then .ok (valL acc l) else .range
  | [], acc, _, h => by rw [valL_nil, if_pos h, parseUintM]
  | c :: r, acc, hd, h => by
    have hc := hd c (by simp)
    have hg := valL_ge r (acc * 10 + (c.toNat - 48))
    rw [valL_cons, parseUintM, if_pos hc]
    by_cases h1 : 1844674407370955162 ≤ acc
    · rw [if_pos h1, if_neg (by omega)]
    · rw [if_neg h1]
      by_cases h2 : 18446744073709551615 < acc * 10 + (c.toNat - 48)
      · rw [if_pos h2, if_neg (by omega)]
      · rw [if_neg h2]
        exact parseUintM_digs r _ (fun x hx => hd x (by simp [hx])) (by omega)
theorem parseUintB_digs {l : List UInt8} (h : Digs l) (h0 : l ≠ []) : parseUintB 64 l = if valL 0 l ≤ 18446744073709551615 then .ok (valL 0 l) else .range := by
  rw [parseUintB, if_neg h0]
  exact parseUintM_digs l 0 h (by omega)
theorem parseIntB_digs {l : List UInt8} (h : Digs l) (h0 : l ≠ []) : parseIntB 64 l = if valL 0 l < 9223372036854775808 then .ok (valL 0 l : Nat) else .range := by
  match l, h0 with
  | c :: r, _ =>
    have hc := h c (by simp)
    rw [parseIntB_plain 64 c r (by omega) (by omega), parseUintB_digs h (by simp)]
    by_cases h1 : valL 0 (c :: r) ≤ 18446744073709551615
    · rw [if_pos h1]
      by_cases h2 : valL 0 (c :: r) < 9223372036854775808
      · rw [if_pos h2, signlessC, if_neg (show ¬ 2 ^ (64 - 1) ≤ _ by omega)]
      · rw [if_neg h2, signlessC, if_pos (show 2 ^ (64 - 1) ≤ _ by omega)]
    · rw [if_neg h1, if_neg (by omega)]
      rfl
theorem parseIntB_minus_digs {r : List UInt8} (h : Digs r) (h0 : r ≠ []) : parseIntB 64 (45 :: r) = if valL 0 r ≤ 9223372036854775808 then .ok (-(valL 0 r : Nat)) else .range := by
  rw [parseIntB_minus, parseUintB_digs h h0]
  by_cases h1 : valL 0 r ≤ 18446744073709551615
  · rw [if_pos h1]
    by_cases h2 : valL 0 r ≤ 9223372036854775808
    · rw [if_pos h2, signedC, if_neg (show ¬ 2 ^ (64 - 1) < _ by omega)]
    · rw [if_neg h2, signedC, if_pos (show 2 ^ (64 - 1) < _ by omega)]
  · rw [if_neg h1, if_neg (by omega)]
    rfl
theorem sub_snoc (s : ByteArray) (a n : Nat) (h : a + n < s.size) : (sub s a (a + n + 1)).data.toList = (sub s a (a + n)).data.toList ++ [byteAt s (a + n)] := by
  rw [sub_list _ _ _ (by omega), sub_list _ _ _ (by omega), List.take_add_one, byteAt_eq h, Option.toList_some, List.drop_append_of_le_length (by rw [List.length_take, ← Lib.size_eq]; omega)]
theorem sub_cons (s : ByteArray) (i j : Nat) (h : i < j) (hj : j ≤ s.size) : (sub s i j).data.toList = byteAt s i :: (sub s (i + 1) j).data.toList := by
  rw [sub_list _ _ _ hj, sub_list _ _ _ hj]
  have hl : i < (s.data.toList.take j).length := by rw [List.length_take, ← Lib.size_eq]; omega
  rw [List.drop_eq_getElem_cons hl]
  congr 1
  have := byteAt_eq (s := s) (k := i) (by omega)
  rw [← List.getElem?_take_of_lt h, List.getElem?_eq_getElem hl] at this
  exact Option.some.inj this
theorem byteAt_nat {s : ByteArray} {k : Nat} (h : k < s.size) : ((byteAt s k).toNat : Int) = bt s k := by
  obtain ⟨c, h1, h2⟩ := bt_eq_of h
  rw [byteAt_eq h] at h1
  rw [Option.some.inj h1, h2]
theorem dval_list (s : ByteArray) (a : Nat) : ∀ n, a + n ≤ s.size → dval s a n = valL 0 (sub s a (a + n)).data.toList
  | 0, h => by
    have : (sub s a (a + 0)).data.toList = [] := List.eq_nil_of_length_eq_zero (by rw [← Lib.size_eq, sub_size _ _ _ h]; omega)
    rw [this, valL_nil]; rfl
  | n + 1, h => by
    rw [show a + (n + 1) = a + n + 1 from rfl, sub_snoc _ _ _ (by omega), valL_append, ← dval_list s a n (by omega)]
    rw [valL_cons, valL_nil, dval]
    have := byteAt_nat (s := s) (k := a + n) (by omega)
    omega
theorem run_digs {s : ByteArray} {a j : Nat} (h : IsRun (dgP s) a j) (hj : j ≤ s.size) : Digs (sub s a j).data.toList := by
  intro c hc
  obtain ⟨k, hk, hc⟩ := List.getElem_of_mem hc
  have hk2 : k < j - a := by rwa [← Lib.size_eq, sub_size _ _ _ hj] at hk
  have h1 : (sub s a j).data.toList[k]? = some c := by rw [List.getElem?_eq_getElem hk, hc]
  rw [sub_list _ _ _ hj, List.getElem?_drop, List.getElem?_take_of_lt (by omega), byteAt_eq (by omega)] at h1
  have h2 := h.2 (a + k) (by omega) (by omega)
  have h3 := byteAt_nat (s := s) (k := a + k) (by omega)
  rw [Option.some.inj h1] at h3
  simp only [dgP, isDig, Bool.and_eq_true, decide_eq_true_eq] at h2
  omega
def numIn (s : ByteArray) (i : Nat) : Bool := decide (numVal s i < 9223372036854775808 ∨ (bt s i = 45 ∧ numVal s i = 9223372036854775808))
theorem numFrom_le (s : ByteArray) {i : Nat} (hi : i < s.size) : i ≤ numFrom s i ∧ numFrom s i ≤ s.size := by unfold numFrom; split <;> omega
theorem numEnd_is (s : ByteArray) {i : Nat} (hi : i < s.size) : IsRun (dgP s) (numFrom s i) (numEnd s i) ∧ numEnd s i ≤ s.size :=
  ⟨(spanAt_is (dgP_lt s) _).1, spanAt_le (dgP_lt s) (numFrom_le s hi).2⟩
theorem parse_num (s : ByteArray) {i : Nat} (hi : i < s.size) (hne : numFrom s i < numEnd s i) :
    (numIn s i = true ∧ ∃ v, parseIntB 64 (sub s i (numEnd s i)).data.toList = .ok v) ∨ (numIn s i = false ∧ parseIntB 64 (sub s i (numEnd s i)).data.toList = .range) := by
  obtain ⟨hr, hle⟩ := numEnd_is s hi
  have hd := run_digs hr hle
  have hv : numVal s i = valL 0 (sub s (numFrom s i) (numEnd s i)).data.toList := by
    rw [numVal, dval_list _ _ _ (by omega), show numFrom s i + (numEnd s i - numFrom s i) = numEnd s i by omega]
  have hn : (sub s (numFrom s i) (numEnd s i)).data.toList ≠ [] := by
    intro e
    have := congrArg List.length e
    rw [← Lib.size_eq, sub_size _ _ _ hle] at this
    simp at this; omega
  rw [numIn, hv]
  by_cases h45 : bt s i = 45
  · have hf : numFrom s i = i + 1 := by rw [numFrom, if_pos h45]
    have hb : byteAt s i = 45 := by rw [byteAt, h45]; rfl
    rw [hf] at hne hd hv hn ⊢
    have hcons := sub_cons s i (numEnd s i) (by omega) hle
    rw [hcons, hb, parseIntB_minus_digs hd hn]
    by_cases hc : valL 0 (sub s (i + 1) (numEnd s i)).data.toList ≤ 9223372036854775808
    · exact .inl ⟨decide_eq_true (by omega), _, by rw [if_pos hc]⟩
    · exact .inr ⟨decide_eq_false (by omega), by rw [if_neg hc]⟩
  · have hf : numFrom s i = i := by rw [numFrom, if_neg h45]
    rw [hf] at hne hd hv hn ⊢
    rw [parseIntB_digs hd hn]
    by_cases hc : valL 0 (sub s i (numEnd s i)).data.toList < 9223372036854775808
    · exact .inl ⟨decide_eq_true (by omega), _, by rw [if_pos hc]⟩
    · exact .inr ⟨decide_eq_false (by omega), by rw [if_neg hc]⟩
end Go.Proofs.YtckcbgijddglpaaGreatDoor
