/- Strings, and digits of 16, as they are written. -/
import Derived.Test.YtknebkncepgppaaDoorLexN8
namespace Go.Proofs.YtknebkncepgppaaDoor
open Go.PlainAid
set_option linter.unusedVariables false

/-- A text, each quote twice. -/
def esc : List UInt8 → List UInt8
  | [] => []
  | c :: r => if c = 34 then 34 :: 34 :: esc r else c :: esc r
theorem esc_append : ∀ (l m : List UInt8), esc (l ++ m) = esc l ++ esc m
  | [], m => rfl
  | c :: r, m => by simp only [List.cons_append, esc]; split <;> simp [esc_append r m]
theorem esc_len : ∀ l : List UInt8, l.length ≤ (esc l).length ∧ (esc l).length ≤ 2 * l.length
  | [] => by simp [esc]
  | c :: r => by have := esc_len r; simp only [esc]; split <;> simp <;> omega
/-- Text l stands at place i. -/
def At (t : ByteArray) (i : Nat) (l : List UInt8) : Prop := ∀ k c, l[k]? = some c → t.data.toList[i + k]? = some c
theorem At.cons {t : ByteArray} {i : Nat} {c : UInt8} {l : List UInt8} (h : At t i (c :: l)) : bt t i = c.toNat ∧ i < t.size ∧ At t (i + 1) l := by
  have h0 := h 0 c rfl
  rw [Nat.add_zero] at h0
  refine ⟨dig_of_list h0, ?_, fun k d hk => by rw [show i + 1 + k = i + (k + 1) by omega]; exact h (k + 1) d (by simpa using hk)⟩
  rcases Nat.lt_or_ge i t.size with h1 | h1
  · exact h1
  · rw [List.getElem?_eq_none (by rw [← Lib.size_eq]; exact h1)] at h0; cases h0
theorem At.append {t : ByteArray} {i : Nat} {l m : List UInt8} (h : At t i (l ++ m)) : At t i l ∧ At t (i + l.length) m := by
  refine ⟨fun k c hk => h k c ?_, fun k c hk => ?_⟩
  · have hlt : k < l.length := by
      rcases Nat.lt_or_ge k l.length with h1 | h1
      · exact h1
      · rw [List.getElem?_eq_none h1] at hk; cases hk
    rw [List.getElem?_append_left hlt]; exact hk
  · rw [Nat.add_assoc]; exact h (l.length + k) c (by rw [List.getElem?_append_right (by omega), show l.length + k - l.length = k by omega]; exact hk)
theorem at_all {t : ByteArray} {l : List UInt8} (h : t.data.toList = l) : At t 0 l := fun k c hk => by rw [Nat.zero_add, h]; exact hk
theorem byteAt_of {t : ByteArray} {i : Nat} {c : UInt8} (h : bt t i = c.toNat) : byteAt t i = c := by
  rw [byteAt, h]
  apply UInt8.toNat_inj.1
  rw [UInt8.toNat_ofNat']
  have := c.toNat_lt
  omega
theorem quo_iff {c : UInt8} : (c.toNat : Int) = 34 ↔ c = 34 := by
  constructor
  · intro h; apply UInt8.toNat_inj.1; show c.toNat = 34; omega
  · rintro rfl; rfl
theorem qt_esc (t : ByteArray) : ∀ (l : List UInt8) (i : Nat) (out : List UInt8), At t i (esc l ++ [34]) → bt t (i + (esc l).length + 1) ≠ 34 → qtAt t i out = some (out ++ l, i + (esc l).length + 1)
  | [], i, out, h, hn => by
    obtain ⟨h1, h2, _⟩ := At.cons (l := []) h
    have h1 : bt t i = 34 := h1
    rw [qtAt_eq, if_neg (by omega), if_neg (by simp [h1]), if_neg (by simpa [esc] using hn)]
    simp [esc]
  | c :: r, i, out, h, hn => by
    by_cases hc : c = 34
    · subst hc
      have he : esc (34 :: r) = 34 :: 34 :: esc r := by simp [esc]
      rw [he] at h hn ⊢
      obtain ⟨h1, h2, h3⟩ := At.cons h
      obtain ⟨h4, h5, h6⟩ := At.cons h3
      have h1 : bt t i = 34 := h1
      have h4 : bt t (i + 1) = 34 := h4
      rw [qtAt_eq, if_neg (by omega), if_neg (by simp [h1]), if_pos h4, qt_esc t r (i + 1 + 1) (out ++ [34]) h6 (by simp only [List.length_cons] at hn; rwa [show i + ((esc r).length + 1 + 1) + 1 = i + 1 + 1 + (esc r).length + 1 by omega] at hn)]
      simp; omega
    · have he : esc (c :: r) = c :: esc r := by simp [esc, hc]
      rw [he] at h hn ⊢
      obtain ⟨h1, h2, h3⟩ := At.cons h
      rw [qtAt_eq, if_neg (by omega), if_pos (by rw [h1]; exact fun e => hc (quo_iff.1 e)), byteAt_of h1, qt_esc t r (i + 1) (out ++ [c]) h3 (by simp only [List.length_cons] at hn; rwa [show i + ((esc r).length + 1) + 1 = i + 1 + (esc r).length + 1 by omega] at hn)]
      simp; omega
theorem tok_quoted {t : ByteArray} {a : Nat} {x : ByteArray} (h : At t a (34 :: (esc x.data.toList ++ [34]))) (hn : bt t (a + (esc x.data.toList).length + 2) ≠ 34) (hv : Lib.validD x.data.toList = true) : tokAt t a = some (7, x, a + (esc x.data.toList).length + 2) := by
  obtain ⟨h1, h2, h3⟩ := At.cons h
  have h1 : bt t a = 34 := h1
  have hq := qt_esc t x.data.toList (a + 1) [] h3 (by rwa [show a + 1 + (esc x.data.toList).length + 1 = a + (esc x.data.toList).length + 2 by omega])
  rw [tokAt, if_neg (by rw [h1]; decide), if_neg (by rw [h1]; decide), if_neg (by rw [h1]; decide), if_pos h1, quoAt, hq]
  simp only [List.nil_append]
  rw [if_pos hv]
  rw [show (⟨x.data.toList.toArray⟩ : ByteArray) = x from ba_ext rfl, show a + 1 + (esc x.data.toList).length + 1 = a + (esc x.data.toList).length + 2 by omega]
def AllHex (l : List UInt8) : Prop := ∀ (k : Nat) (c : UInt8), l[k]? = some c → isHex (c.toNat : Int) = true
theorem tok_hexs {t : ByteArray} {a : Nat} {x : ByteArray} (h : At t a (39 :: (x.data.toList ++ [39, 72]))) (hx : AllHex x.data.toList) (he : x.size % 2 = 0) : tokAt t a = some (4, x, a + x.size + 3) := by
  obtain ⟨h1, h2, h3⟩ := At.cons h
  obtain ⟨h4, h5⟩ := At.append h3
  have hz := Lib.size_eq x
  rw [← hz] at h5
  obtain ⟨h6, h7, h8⟩ := At.cons h5
  obtain ⟨h9, h10, _⟩ := At.cons h8
  have h1 : bt t a = 39 := h1
  have h6 : bt t (a + 1 + x.size) = 39 := h6
  have h9 : bt t (a + 1 + x.size + 1) = 72 := h9
  have hrun : IsRun (hxP t) (a + 1) (a + 1 + x.size) := by
    refine ⟨by omega, fun k k1 k2 => ?_⟩
    obtain ⟨c, hc⟩ : ∃ c, x.data.toList[k - (a + 1)]? = some c := ⟨_, List.getElem?_eq_getElem (by omega)⟩
    have := dig_of_list (h4 _ _ hc)
    rw [show a + 1 + (k - (a + 1)) = k by omega] at this
    rw [hxP, this]; exact hx _ _ hc
  have hend : hexEnd t a = a + 1 + x.size := spanAt_run (hxP_lt t) (by omega) hrun (by rw [hxP, h6]; rfl)
  have hok : hexOk t a = true := by rw [hexOk, hend, decide_eq_true_iff]; exact ⟨by omega, h6, h9⟩
  have hsub : sub t (a + 1) (a + 1 + x.size) = x := by
    apply ba_of_bt
    · rw [sub_size _ _ _ (by omega)]; omega
    · intro k hk
      rw [sub_size _ _ _ (by omega)] at hk
      rw [bt_sub _ _ _ _ (by omega) (by omega)]
      obtain ⟨c, hc⟩ : ∃ c, x.data.toList[k]? = some c := ⟨_, List.getElem?_eq_getElem (by omega)⟩
      rw [dig_of_list (h4 _ _ hc), dig_of_list hc]
  rw [tokAt, if_neg (by rw [h1]; decide), if_neg (by rw [h1]; decide), if_pos h1, hexAt, if_pos hok, hend, hsub]
  simp only [Option.some.injEq, Prod.mk.injEq, true_and]
  omega
theorem toks_quoted {t x : ByteArray} (h : t.data.toList = 34 :: (esc x.data.toList ++ [34])) (hs : x.size ≤ 600) (hv : Lib.validD x.data.toList = true) : toks t = .ok [(7, x, 0), (0, ⟨#[]⟩, t.size)] := by
  have hz : t.size = (esc x.data.toList).length + 2 := by rw [Lib.size_eq, h]; simp
  have hl := esc_len x.data.toList
  rw [← Lib.size_eq] at hl
  have hA := at_all h
  have ht := tok_quoted hA (by rw [bt_end _ (by omega)]; omega) hv
  rw [show 0 + (esc x.data.toList).length + 2 = t.size by omega] at ht
  have h0 : bt t 0 = 34 := (At.cons hA).1
  exact toks_one (by omega) (by omega) (by rw [h0]; rfl) (by rw [h0]; omega) ht
theorem toks_hexs {t x : ByteArray} (h : t.data.toList = 39 :: (x.data.toList ++ [39, 72])) (hs : x.size ≤ 600) (hx : AllHex x.data.toList) (he : x.size % 2 = 0) : toks t = .ok [(4, x, 0), (0, ⟨#[]⟩, t.size)] := by
  have hz : t.size = x.size + 3 := by rw [Lib.size_eq, h]; simp
  have hA := at_all h
  have ht := tok_hexs hA hx he
  rw [show 0 + x.size + 3 = t.size by omega] at ht
  have h0 : bt t 0 = 39 := (At.cons hA).1
  exact toks_one (by omega) (by omega) (by rw [h0]; rfl) (by rw [h0]; omega) ht
end Go.Proofs.YtknebkncepgppaaDoor
