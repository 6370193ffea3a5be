/- Lists of tokens that are held. -/
import Derived.Test.YtckcbgijddglpaaGreatDoorLexR0
namespace Go.Proofs.YtckcbgijddglpaaGreatDoor
open Go.ChangeShapes Go.WideShapes Go.ChangeAt Go.RowKit
set_option linter.unusedVariables false

/-- The slice holds the tokens l. -/
def HoldsK (w : World) (A : Option Addr) (l : List Tok) : Prop := Reads w w.heap.size 3 A l.length (tokL l)
theorem HoldsK.keeps {w w' : World} {A : Option Addr} {l : List Tok} (h : HoldsK w A l) (hk : Keeps w w') : HoldsK w' A l := (Reads.keeps h hk (Nat.le_refl _)).more hk.size
theorem HoldsK.nil (w : World) : HoldsK w none [] := ⟨by simp [tokL], fun h => absurd h (by simp)⟩
theorem holdsK_of_own {w : World} {base : Nat} {A : Option Addr} {c : Nat} {l : List Tok} (h : w.ownsRow base 53 3 (.slice A l.length c) l.length (tokL l)) : HoldsK w A l := by
  rcases h.2 with ⟨e, hn⟩ | ⟨g, cap, cur, e, _, _, _, _⟩
  · injection e with e1 e2 e3
    have : l = [] := List.eq_nil_of_length_eq_zero hn
    subst this; subst e1
    exact HoldsK.nil _
  · exact Reads.of_own h
theorem HoldsK.at_ {w : World} {A : Option Addr} {l : List Tok} (h : HoldsK w A l) {k : Nat} {t : Tok} (hk : l[k]? = some t) :
    ∃ b o, A = some ⟨b, o, none⟩ ∧ w.cell? ⟨b, o + k * 3, none⟩ = some (.int .i64 t.1) ∧ w.cell? ⟨b, o + k * 3 + 1, none⟩ = some (.string t.2.1) ∧ w.cell? ⟨b, o + k * 3 + 2, none⟩ = some (.int .i64 (t.2.2 : Nat)) ∧ b < w.heap.size := by
  have hlt : k < l.length := by
    rcases Nat.lt_or_ge k l.length with h | h
    · exact h
    · rw [List.getElem?_eq_none h] at hk; cases hk
  obtain ⟨ad, e, hb, hc⟩ := h.2 (by omega)
  obtain ⟨b, o, spot⟩ := ad
  have g0 := tokL_get l 0 _ (List.getElem?_eq_getElem (show 0 < l.length by omega)) 0 (by omega)
  have h0 := hc 0 _ g0
  rw [show (⟨b, o, spot⟩ : Addr).add 0 = ⟨b, o, spot⟩ from by simp [Addr.add]] at h0
  have hs := World.cell?_spot h0
  simp only at hs
  subst hs
  have hadd : ∀ j, (⟨b, o, none⟩ : Addr).add j = ⟨b, o + j, none⟩ := by intro j; unfold Addr.add; split <;> simp_all
  have g := tokL_get l k t hk
  refine ⟨b, o, e, ?_, ?_, ?_, hb⟩
  · rw [← hadd]; exact hc _ _ (by have := g 0 (by omega); rw [Nat.add_zero] at this; exact this)
  · rw [show o + k * 3 + 1 = o + (k * 3 + 1) from by omega, ← hadd]; exact hc _ _ (g 1 (by omega))
  · rw [show o + k * 3 + 2 = o + (k * 3 + 2) from by omega, ← hadd]; exact hc _ _ (g 2 (by omega))
/-- .. at the slice's address. -/
theorem HoldsK.cells {w : World} {A : Option Addr} {l : List Tok} (h : HoldsK w A l) (hl : 0 < l.length) : ∃ b o, A = some ⟨b, o, none⟩ ∧ b < w.heap.size ∧ ∀ k t, l[k]? = some t → w.cell? ⟨b, o + k * 3, none⟩ = some (.int .i64 t.1) ∧ w.cell? ⟨b, o + k * 3 + 1, none⟩ = some (.string t.2.1) ∧ w.cell? ⟨b, o + k * 3 + 2, none⟩ = some (.int .i64 (t.2.2 : Nat)) := by
  obtain ⟨b, o, rfl, _, _, _, hb⟩ := h.at_ (List.getElem?_eq_getElem hl)
  refine ⟨b, o, rfl, hb, fun k t hk => ?_⟩
  obtain ⟨b', o', e, h1, h2, h3, _⟩ := h.at_ hk
  injection e with e; injection e with e1 e2 e3
  subst e1; subst e2
  exact ⟨h1, h2, h3⟩
end Go.Proofs.YtckcbgijddglpaaGreatDoor
