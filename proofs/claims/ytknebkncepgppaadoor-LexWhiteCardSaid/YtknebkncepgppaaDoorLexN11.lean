/- Texts that are written anew: their tokens. -/
import Derived.Test.YtknebkncepgppaaDoorLexN10
namespace Go.Proofs.YtknebkncepgppaaDoor
open Go.PlainAid
set_option linter.unusedVariables false

def whL : Nat → List UInt8
  | 0 => [32]
  | 1 => [10]
  | 2 => [9, 13]
  | 3 => [32, 45, 45, 32, 114, 101, 109, 97, 114, 107, 10]
  | 4 => [32, 45, 45, 32, 97, 32, 45, 45, 32]
  | _ => [32, 32]
theorem whL_len (k : Nat) : 0 < (whL k).length ∧ (whL k).length ≤ 11 := by
  match k with
  | 0 => decide
  | 1 => decide
  | 2 => decide
  | 3 => decide
  | 4 => decide
  | k + 5 => simp [whL]
theorem skip_wh {t : ByteArray} {p : Nat} (k : Nat) (h : At t p (whL k)) : skipAt t p = skipAt t (p + (whL k).length) := by
  have w : ∀ {i : Nat} {c : UInt8} {l : List UInt8}, At t i (c :: l) → isWh (c.toNat : Int) = true → skipAt t i = skipAt t (i + 1) := fun h hc => skipAt_white (by rw [(At.cons h).1]; exact hc)
  have c : ∀ {i : Nat} {c : UInt8} {l : List UInt8}, At t i (c :: l) → (c.toNat : Int) ≠ 10 → (c.toNat : Int) ≠ 45 → cmtAt t i = cmtAt t (i + 1) := fun h h1 h2 => by
    obtain ⟨e1, e2, _⟩ := At.cons h
    rw [cmtAt_eq (by omega), if_neg (by rw [e1]; omega), if_neg (by rw [e1]; omega)]
  match k with
  | 0 => exact w h rfl
  | 1 => exact w h rfl
  | 2 => exact (w h rfl).trans (w (At.cons h).2.2 rfl)
  | 3 =>
    have h1 := (At.cons h).2.2
    have h2 := (At.cons h1).2.2
    have h3 := (At.cons h2).2.2
    have h4 := (At.cons h3).2.2
    have h5 := (At.cons h4).2.2
    have h6 := (At.cons h5).2.2
    have h7 := (At.cons h6).2.2
    have h8 := (At.cons h7).2.2
    have h9 := (At.cons h8).2.2
    have h10 := (At.cons h9).2.2
    have e10 := At.cons h10
    rw [w h rfl, skipAt_comment (At.cons h1).1 (At.cons h2).1]
    have hc : cmtAt t (p + 1 + 2) = p + 1 + 1 + 1 + 1 + 1 + 1 + 1 + 1 + 1 + 1 := by
      rw [show p + 1 + 2 = p + 1 + 1 + 1 by omega, c h3 (by decide) (by decide), c h4 (by decide) (by decide), c h5 (by decide) (by decide), c h6 (by decide) (by decide), c h7 (by decide) (by decide), c h8 (by decide) (by decide), c h9 (by decide) (by decide), cmtAt_eq (by omega), if_pos (.inl e10.1)]
    rw [hc, w h10 rfl]; rfl
  | 4 =>
    have h1 := (At.cons h).2.2
    have h2 := (At.cons h1).2.2
    have h3 := (At.cons h2).2.2
    have h4 := (At.cons h3).2.2
    have h5 := (At.cons h4).2.2
    have h6 := (At.cons h5).2.2
    have h7 := (At.cons h6).2.2
    have h8 := (At.cons h7).2.2
    have e6 := At.cons h6
    have e7 := At.cons h7
    have v6 : bt t (p + 1 + 1 + 1 + 1 + 1 + 1) = 45 := e6.1
    have v7 : bt t (p + 1 + 1 + 1 + 1 + 1 + 1 + 1) = 45 := e7.1
    rw [w h rfl, skipAt_comment (At.cons h1).1 (At.cons h2).1]
    have hc : cmtAt t (p + 1 + 2) = p + 1 + 1 + 1 + 1 + 1 + 1 + 1 + 1 := by
      rw [show p + 1 + 2 = p + 1 + 1 + 1 by omega, c h3 (by decide) (by decide), c h4 (by decide) (by decide), c h5 (by decide) (by decide), cmtAt_eq (by omega), if_neg (by rw [v6]; omega), if_pos ⟨v6, v7⟩]
    rw [hc, w h8 rfl]; rfl
  | k + 5 => exact (w h rfl).trans (w (At.cons h).2.2 rfl)
theorem whL_head {t : ByteArray} {p : Nat} (k : Nat) (h : At t p (whL k)) : isWh (bt t p) = true := by
  match k with
  | 0 => rw [(At.cons h).1]; rfl
  | 1 => rw [(At.cons h).1]; rfl
  | 2 => rw [(At.cons h).1]; rfl
  | 3 => rw [(At.cons h).1]; rfl
  | 4 => rw [(At.cons h).1]; rfl
  | k + 5 => rw [(At.cons h).1]; rfl
/-- The tokens are a text's own. -/
def Src (s : ByteArray) : List Tok → Prop
  | [] => False
  | [t] => t.1 = 0 ∧ t.2.1 = ⟨#[]⟩
  | t :: r :: q => t.2.2 < s.size ∧ t.1 ≠ 0 ∧ isWh (bt s t.2.2) = false ∧ ¬ (bt s t.2.2 = 45 ∧ bt s (t.2.2 + 1) = 45) ∧ (∃ e, tokAt s t.2.2 = some (t.1, t.2.1, e)) ∧ Src s (r :: q)
theorem tks_src (s : ByteArray) : ∀ f i l, i ≤ s.size → tks s f i = .ok l → Src s l
  | 0, i, l, hi, h => by cases h
  | f + 1, i, l, hi, h => by
    obtain ⟨h1, h2, h3, h4⟩ := skipAt_is hi
    simp only [tks] at h
    split at h
    · cases h; exact ⟨rfl, rfl⟩
    · split at h
      · cases h
      · rename_i k t e ht
        have he := tokAt_end (by omega) ht
        split at h
        · cases h
        · rename_i l' hl
          cases h
          have ih := tks_src s f e l' he.2 hl
          cases l' with
          | nil => exact ih.elim
          | cons r q => exact ⟨by show skipAt s i < s.size; omega, (tok_is (by omega) ht).1, h3, h4, ⟨e, ht⟩, ih⟩
theorem toks_src {s : ByteArray} {l : List Tok} (h : toks s = .ok l) : Src s l := by
  unfold toks at h
  split at h
  · cases h
  · cases ht : toksAt s 0 with
    | error p => rw [ht] at h; cases h
    | ok m => rw [ht] at h; cases h; exact tks_src s _ 0 _ (Nat.zero_le _) ht
/-- What is written of a token: nothing of the end. -/
def wr0 (t : Tok) : List UInt8 := if t.1 = 0 then [] else wr t
/-- The new text, from token i on; and its tokens. -/
def outL (g : Nat → Nat) : Nat → List Tok → List UInt8
  | _, [] => []
  | i, t :: r => whL (g i) ++ (wr0 t ++ outL g (i + 1) r)
def wantL (g : Nat → Nat) : Nat → Nat → List Tok → List Tok
  | _, _, [] => []
  | i, p, t :: r => (t.1, t.2.1, p + (whL (g i)).length) :: wantL g (i + 1) (p + (whL (g i)).length + (wr0 t).length) r
theorem outL_snoc (g : Nat → Nat) : ∀ (l : List Tok) (i : Nat) (t : Tok), outL g i (l ++ [t]) = outL g i l ++ (whL (g (i + l.length)) ++ wr0 t)
  | [], i, t => by simp [outL]
  | u :: r, i, t => by
    simp only [List.cons_append, outL, outL_snoc g r (i + 1) t, List.append_assoc, List.length_cons]
    rw [show i + 1 + r.length = i + (r.length + 1) by omega]
theorem wantL_snoc (g : Nat → Nat) : ∀ (l : List Tok) (i p : Nat) (t : Tok), wantL g i p (l ++ [t]) = wantL g i p l ++ [(t.1, t.2.1, p + (outL g i l).length + (whL (g (i + l.length))).length)]
  | [], i, p, t => by simp [wantL, outL]
  | u :: r, i, p, t => by
    simp only [List.cons_append, wantL, wantL_snoc g r (i + 1) _ t, outL, List.length_append, List.length_cons]
    rw [show i + 1 + r.length = i + (r.length + 1) by omega, show p + (whL (g i)).length + (wr0 u).length + (outL g (i + 1) r).length = p + ((whL (g i)).length + ((wr0 u).length + (outL g (i + 1) r).length)) by omega]
theorem wantL_len (g : Nat → Nat) : ∀ (l : List Tok) (i p : Nat), (wantL g i p l).length = l.length
  | [], i, p => rfl
  | t :: r, i, p => by simp [wantL, wantL_len g r]
/-- A token's first byte is no white space, and no comment begins there. -/
theorem wr_start {s t : ByteArray} {b : Nat} {u : Tok} (h1 : u.2.2 < s.size) (h2 : isWh (bt s u.2.2) = false) (h3 : ¬ (bt s u.2.2 = 45 ∧ bt s (u.2.2 + 1) = 45)) (h4 : ∃ e, tokAt s u.2.2 = some (u.1, u.2.1, e)) (hA : At t b (wr u)) (hw : isWh (bt t (b + (wr u).length)) = true) : 0 < (wr u).length ∧ isWh (bt t b) = false ∧ ¬ (bt t b = 45 ∧ bt t (b + 1) = 45) := by
  obtain ⟨k, x, a⟩ := u
  obtain ⟨e, he⟩ := h4
  have hend := tokAt_end h1 he
  have hm := move_tok h1 he hA hw
  have hti := (tok_is h1 he)
  by_cases k4 : k = 4
  · subst k4
    have hwr : wr (4, x, a) = 39 :: (x.data.toList ++ [39, 72]) := by rw [wr, if_pos rfl]
    rw [hwr] at hA ⊢
    have := (At.cons hA).1
    have h39 : bt t b = 39 := this
    exact ⟨by simp, by rw [h39]; rfl, by rw [h39]; omega⟩
  · by_cases k7 : k = 7
    · subst k7
      have hwr : wr (7, x, a) = 34 :: (esc x.data.toList ++ [34]) := by rw [wr, if_neg (by show ¬ ((7 : Int) = 4); decide), if_pos rfl]
      rw [hwr] at hA ⊢
      have := (At.cons hA).1
      have h34 : bt t b = 34 := this
      exact ⟨by simp, by rw [h34]; rfl, by rw [h34]; omega⟩
    · have hwr : wr (k, x, a) = x.data.toList := by rw [wr, if_neg k4, if_neg k7]
      have hx : x = sub s a e := hti.2 k4 k7
      rw [hwr] at hA hw ⊢
      have hz : x.size = e - a := by rw [hx]; exact sub_size s a e hend.2
      rw [← Lib.size_eq] at hw ⊢
      have hend' : a < e := hend.1
      have hb : ∀ j, j < x.size → bt t (b + j) = bt s (a + j) := fun j hj => by rw [at_bt hA hj, hx]; exact bt_sub s a e j hend.2 (by omega)
      have hb0 := hb 0 (by omega)
      rw [Nat.add_zero, Nat.add_zero] at hb0
      refine ⟨by omega, by rw [hb0]; exact h2, ?_⟩
      rintro ⟨q1, q2⟩
      by_cases h1z : 1 < x.size
      · exact h3 ⟨by rw [← hb0]; exact q1, by rw [← hb 1 h1z]; exact q2⟩
      · rw [show x.size = 1 by omega, q2] at hw
        cases hw
theorem toks_out {s t : ByteArray} (g : Nat → Nat) : ∀ (l : List Tok) (i p : Nat), Src s l → At t p (outL g i l) → p + (outL g i l).length = t.size → toksAt t p = .ok (wantL g i p l)
  | [], _, _, h, _, _ => h.elim
  | [u], i, p, h, hA, hz => by
    have hw0 : wr0 u = [] := by rw [wr0, if_pos h.1]
    have hout : outL g i [u] = whL (g i) := by simp [outL, hw0]
    rw [hout] at hA hz
    have hp : p ≤ t.size := by omega
    have hsk := skip_wh (g i) hA
    rw [hz] at hsk
    have hse : skipAt t t.size = t.size := by rw [skipAt_eq, bt_end t (Nat.le_refl _), bt_end t (Nat.le_succ _)]; simp [isWh]
    rw [← toks_at hp, hsk, hse, toks_end (Nat.le_refl _) hse (Nat.le_refl _)]
    simp only [wantL, h.1, h.2, hz]
  | u :: r :: q, i, p, h, hA, hz => by
    obtain ⟨h1, h2, h3, h4, h5, h6⟩ := h
    have hw0 : wr0 u = wr u := by rw [wr0, if_neg h2]
    have hout : outL g i (u :: r :: q) = whL (g i) ++ (wr u ++ outL g (i + 1) (r :: q)) := by rw [outL, hw0]
    rw [hout] at hA hz
    obtain ⟨hA1, hA2⟩ := At.append hA
    obtain ⟨hA3, hA4⟩ := At.append hA2
    rw [List.length_append, List.length_append] at hz
    have hwn : At t (p + (whL (g i)).length + (wr u).length) (whL (g (i + 1))) := by
      have : outL g (i + 1) (r :: q) = whL (g (i + 1)) ++ (wr0 r ++ outL g (i + 1 + 1) q) := rfl
      rw [this] at hA4
      exact (At.append hA4).1
    have hw := whL_head _ hwn
    have hst := wr_start h1 h3 h4 h5 hA3 hw
    obtain ⟨e, he⟩ := h5
    have hm := move_tok h1 he hA3 hw
    have hlt : p + (whL (g i)).length < t.size := by omega
    have hsk : skipAt t (p + (whL (g i)).length) = p + (whL (g i)).length := skipAt_stop hst.2.1 hst.2.2
    have ih := toks_out g (r :: q) (i + 1) (p + (whL (g i)).length + (wr u).length) h6 hA4 (by omega)
    rw [← toks_at (by omega), skip_wh (g i) hA1, hsk, toks_some hlt hsk hm]
    rw [show (wr (u.1, u.2.1, u.2.2)).length = (wr u).length from rfl, ih]
    simp only [wantL, hw0]
/-- The new text has the tokens that are wanted, if it is not too long. -/
theorem toks_new {s t : ByteArray} {l : List Tok} (g : Nat → Nat) (h : toks s = .ok l) (ht : t.data.toList = outL g 0 l) (hle : t.size ≤ 8000) : toks t = .ok (wantL g 0 0 l) := by
  have := toks_out (t := t) g l 0 0 (toks_src h) (at_all ht) (by rw [Lib.size_eq, ht]; omega)
  rw [toks, if_neg (by omega), this]; rfl
end Go.Proofs.YtknebkncepgppaaDoor
