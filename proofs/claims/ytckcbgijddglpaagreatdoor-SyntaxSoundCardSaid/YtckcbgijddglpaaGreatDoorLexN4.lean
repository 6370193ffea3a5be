/- A string's bytes: one by one, or in pieces up to each quote. -/
import Derived.Test.YtckcbgijddglpaaGreatDoorLexN3
import Derived.Lib.IndexLaws
namespace Go.Proofs.YtckcbgijddglpaaGreatDoor
open Go.PlainAid Go.Lib
set_option linter.unusedVariables false

theorem sub_none (s : ByteArray) (i : Nat) (hi : i ≤ s.size) : (sub s i i).data.toList = [] := List.eq_nil_of_length_eq_zero (by rw [← Lib.size_eq, sub_size _ _ _ hi]; omega)
theorem qt_run (s : ByteArray) : ∀ (m i : Nat) (out : List UInt8), i + m ≤ s.size → (∀ k, i ≤ k → k < i + m → bt s k ≠ 34) → qtAt s i out = qtAt s (i + m) (out ++ (sub s i (i + m)).data.toList)
  | 0, i, out, hm, h => by
    rw [show i + 0 = i from rfl, sub_none s i (by omega), List.append_nil]
  | m + 1, i, out, hm, h => by
    rw [qtAt_eq, if_neg (by omega), if_pos (h i (by omega) (by omega)), qt_run s m (i + 1) _ (by omega) (fun k h1 h2 => h k (by omega) (by omega)), sub_cons s i (i + (m + 1)) (by omega) hm, show i + 1 + m = i + (m + 1) by omega, List.append_assoc]
    rfl
theorem qt_to_end (s : ByteArray) {i : Nat} (out : List UInt8) (hi : i ≤ s.size) (h : ∀ k, i ≤ k → k < s.size → bt s k ≠ 34) : qtAt s i out = none := by
  have := qt_run s (s.size - i) i out (by omega) (fun k h1 h2 => h k h1 (by omega))
  rw [this, show i + (s.size - i) = s.size by omega, qtAt_eq, if_pos (Nat.le_refl _)]
/-- Where the next quote stands. -/
theorem quote_at (s : ByteArray) {i : Nat} (hi : i ≤ s.size) : (indexByte (s.extract i s.size).data.toList (34 : Int).toNat.toUInt8 = -1 ∧ ∀ k, i ≤ k → k < s.size → bt s k ≠ 34) ∨
    ∃ m, indexByte (s.extract i s.size).data.toList (34 : Int).toNat.toUInt8 = (m : Nat) ∧ i + m < s.size ∧ bt s (i + m) = 34 ∧ ∀ k, i ≤ k → k < i + m → bt s k ≠ 34 := by
  have hb : ∀ k, k < s.size → bt s k = 34 → s.data.toList[k]? = some 34 := by
    intro k hk h
    rw [byteAt_eq hk, byteAt, h]; rfl
  have hl : (s.extract i s.size).data.toList = s.data.toList.drop i := Lib.ext_list s i
  have hc : (34 : Int).toNat.toUInt8 = 34 := rfl
  rw [hl, hc]
  have hge := indexByte_ge (s.data.toList.drop i) 34
  by_cases h : indexByte (s.data.toList.drop i) 34 = -1
  · refine .inl ⟨h, fun k h1 h2 h3 => ?_⟩
    have := indexByte_none h (k - i)
    rw [List.getElem?_drop, show i + (k - i) = k by omega] at this
    exact this (hb k h2 h3)
  · obtain ⟨m, hm⟩ : ∃ m : Nat, indexByte (s.data.toList.drop i) 34 = (m : Nat) := ⟨(indexByte (s.data.toList.drop i) 34).toNat, by omega⟩
    obtain ⟨h1, h2⟩ := indexByte_some hm
    rw [List.getElem?_drop] at h1
    have hlt : i + m < s.size := by
      rw [Lib.size_eq]
      exact (List.getElem?_eq_some_iff.1 h1).1
    refine .inr ⟨m, hm, hlt, ?_, fun k h3 h4 h5 => ?_⟩
    · rw [bt_list, h1]; rfl
    · have := h2 (k - i) (by omega)
      rw [List.getElem?_drop, show i + (k - i) = k by omega] at this
      exact this (hb k (by omega) h5)
theorem byte34 : (34 : UInt8) = UInt8.ofNat (34 : Int).toNat := rfl
theorem cells_append (l m : List UInt8) : byteCells (l ++ m) = byteCells l ++ byteCells m := by simp [byteCells]
end Go.Proofs.YtckcbgijddglpaaGreatDoor
