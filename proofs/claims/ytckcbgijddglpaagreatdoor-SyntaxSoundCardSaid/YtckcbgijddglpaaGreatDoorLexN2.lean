/- Bytes of texts, of pieces, and of lists. -/
import Derived.Test.YtckcbgijddglpaaGreatDoorLexN
import Derived.Lib.ValidAsc
namespace Go.Proofs.YtckcbgijddglpaaGreatDoor
open Go.PlainAid
set_option linter.unusedVariables false

theorem bt_list (s : ByteArray) (k : Nat) : bt s k = ((s.data.toList[k]?).map fun b => (b.toNat : Int)).getD 0 := by
  unfold bt
  split
  · rename_i h
    have h' : k < s.data.toList.length := by rw [← Lib.size_eq]; exact h
    rw [List.getElem?_eq_getElem h']
    rfl
  · rename_i h
    have h' : s.data.toList.length ≤ k := by rw [← Lib.size_eq]; omega
    rw [List.getElem?_eq_none h']
    rfl
theorem ba_ext {s t : ByteArray} (h : s.data.toList = t.data.toList) : s = t := by
  cases s; cases t
  congr
  exact Array.ext' h
theorem sub_list (s : ByteArray) (i j : Nat) (hj : j ≤ s.size) : (sub s i j).data.toList = (s.data.toList.take j).drop i := by
  simp only [sub, ByteArray.data_extract, Array.toList_extract]
  rw [List.extract_eq_take_drop, List.drop_take]
theorem sub_size (s : ByteArray) (i j : Nat) (hj : j ≤ s.size) : (sub s i j).size = j - i := by
  rw [sub, ByteArray.size_extract]; omega
theorem bt_sub (s : ByteArray) (i j k : Nat) (hj : j ≤ s.size) (hk : i + k < j) : bt (sub s i j) k = bt s (i + k) := by
  rw [bt_list, bt_list, sub_list _ _ _ hj, List.getElem?_drop, List.getElem?_take_of_lt hk]
theorem bt_eq_of {s : ByteArray} {k : Nat} (h : k < s.size) : ∃ c : UInt8, s.data.toList[k]? = some c ∧ bt s k = c.toNat := by
  have h' : k < s.data.toList.length := by rw [← Lib.size_eq]; exact h
  exact ⟨_, List.getElem?_eq_getElem h', by rw [bt_list, List.getElem?_eq_getElem h']; rfl⟩
theorem byteAt_eq {s : ByteArray} {k : Nat} (h : k < s.size) : s.data.toList[k]? = some (byteAt s k) := by
  obtain ⟨c, h1, h2⟩ := bt_eq_of h
  rw [h1, byteAt, h2]
  simp
/-- Two texts are alike if their bytes are. -/
theorem ba_of_bt {s t : ByteArray} (h0 : s.size = t.size) (h : ∀ k, k < s.size → bt s k = bt t k) : s = t := by
  apply ba_ext
  apply List.ext_getElem?
  intro k
  by_cases hk : k < s.size
  · rw [byteAt_eq hk, byteAt_eq (h0 ▸ hk), byteAt, byteAt, h k hk]
  · rw [List.getElem?_eq_none (by rw [← Lib.size_eq]; omega), List.getElem?_eq_none (by rw [← Lib.size_eq]; omega)]
theorem prefix_iff {l x : List UInt8} : x <+: l ↔ ∀ k, k < x.length → l[k]? = x[k]? := by
  constructor
  · rintro ⟨t, rfl⟩ k hk
    rw [List.getElem?_append_left hk]
  · intro h
    rw [List.prefix_iff_eq_take]
    apply List.ext_getElem?
    intro k
    by_cases hk : k < x.length
    · rw [List.getElem?_take_of_lt hk, h k hk]
    · rw [List.getElem?_eq_none (by omega), List.getElem?_eq_none (by rw [List.length_take]; omega)]
/-- A text begins so, where its bytes are those. -/
theorem starts_iff {s x : ByteArray} {a : Nat} (hx : ∀ k, k < x.size → bt x k ≠ 0) : starts s a x = true ↔ ∀ k, k < x.size → bt s (a + k) = bt x k := by
  have hl : (sub s a s.size).data.toList = s.data.toList.drop a := Lib.ext_list s a
  rw [starts, Lib.hasPrefix, List.isPrefixOf_iff_prefix, prefix_iff, hl, ← Lib.size_eq]
  constructor
  · intro h k hk
    have := h k hk
    rw [List.getElem?_drop] at this
    rw [bt_list, bt_list, this]
  · intro h k hk
    rw [List.getElem?_drop]
    have h2 := h k hk
    have h3 : a + k < s.size := lt_of_bt (by rw [h2]; exact hx k hk)
    rw [byteAt_eq h3, byteAt_eq hk, byteAt, byteAt, h2]
theorem starts_eq (s x : ByteArray) (a : Nat) (hx : ∀ k, k < x.size → bt x k ≠ 0) : starts s a x = decide (∀ k, k < x.size → bt s (a + k) = bt x k) := by
  rw [Bool.eq_iff_iff, decide_eq_true_iff]; exact starts_iff hx
def B1 (a : UInt8) : ByteArray := ⟨#[a]⟩
def B2 (a b : UInt8) : ByteArray := ⟨#[a, b]⟩
theorem starts_two {s : ByteArray} {a : Nat} (x y : UInt8) (hx : x ≠ 0) (hy : y ≠ 0) : starts s a ⟨#[x, y]⟩ = decide (bt s a = x.toNat ∧ bt s (a + 1) = y.toNat) := by
  have hx' : x.toNat ≠ 0 := fun e => hx (UInt8.toNat_inj.1 e)
  have hy' : y.toNat ≠ 0 := fun e => hy (UInt8.toNat_inj.1 e)
  have e0 : bt ⟨#[x, y]⟩ 0 = x.toNat := rfl
  have e1 : bt ⟨#[x, y]⟩ 1 = y.toNat := rfl
  have hz : (⟨#[x, y]⟩ : ByteArray).size = 2 := rfl
  rw [Bool.eq_iff_iff, decide_eq_true_iff, starts_iff]
  · rw [hz]
    constructor
    · intro h
      exact ⟨by simpa [e0] using h 0 (by omega), by simpa [e1] using h 1 (by omega)⟩
    · rintro ⟨h1, h2⟩ k hk
      match k, hk with
      | 0, _ => rw [e0]; exact h1
      | 1, _ => rw [e1]; exact h2
  · rw [hz]
    intro k hk
    match k, hk with
    | 0, _ => rw [e0]; omega
    | 1, _ => rw [e1]; omega
theorem starts_dash (s : ByteArray) (a : Nat) : starts s a ⟨#[45, 45]⟩ = decide (bt s a = 45 ∧ bt s (a + 1) = 45) := starts_two 45 45 (by decide) (by decide)
theorem starts_hex (s : ByteArray) (a : Nat) : starts s a ⟨#[39, 72]⟩ = decide (bt s a = 39 ∧ bt s (a + 1) = 72) := starts_two 39 72 (by decide) (by decide)
end Go.Proofs.YtckcbgijddglpaaGreatDoor
