/- Lists of tokens, one beside another; awake. -/
import Derived.Test.YtknebkncepgppaaDoorLexR8
namespace Go.Proofs.YtknebkncepgppaaDoor
open Go.ChangeShapes Go.WideShapes Go.ChangeAt Go.RowKit Go.PlainAid
set_option linter.unusedVariables false
set_option linter.unusedSimpArgs false

/-- The slice holds the tokens l. -/
def HoldsK (w : World) (A : Option Addr) (l : List Tok) : Prop := Reads w w.heap.size 3 A l.length (tokL l)
theorem HoldsK.keeps {w w' : World} {A : Option Addr} {l : List Tok} (h : HoldsK w A l) (hk : Keeps w w') : HoldsK w' A l := (Reads.keeps h hk (Nat.le_refl _)).more hk.size
theorem HoldsK.nil (w : World) : HoldsK w none [] := ⟨by simp [tokL], fun h => absurd h (by simp)⟩
theorem holdsK_of_own {w : World} {base : Nat} {A : Option Addr} {c : Nat} {l : List Tok} (h : w.ownsRow base 29 3 (.slice A l.length c) l.length (tokL l)) : HoldsK w A l := by
  rcases h.2 with ⟨e, hn⟩ | ⟨g, cap, cur, e, _, _, _, _⟩
  · injection e with e1 e2 e3
    have : l = [] := List.eq_nil_of_length_eq_zero hn
    subst this; subst e1
    exact HoldsK.nil _
  · exact Reads.of_own h
theorem HoldsK.at_ {w : World} {A : Option Addr} {l : List Tok} (h : HoldsK w A l) {k : Nat} {t : Tok} (hk : l[k]? = some t) :
    ∃ b o, A = some ⟨b, o, none⟩ ∧ w.cell? ⟨b, o + k * 3, none⟩ = some (.int .i64 t.1) ∧ w.cell? ⟨b, o + k * 3 + 1, none⟩ = some (.string t.2.1) ∧ w.cell? ⟨b, o + k * 3 + 2, none⟩ = some (.int .i64 (t.2.2 : Nat)) ∧ b < w.heap.size := by
  have hlt : k < l.length := by
    rcases Nat.lt_or_ge k l.length with h | h
    · exact h
    · rw [List.getElem?_eq_none h] at hk; cases hk
  obtain ⟨ad, e, hb, hc⟩ := h.2 (by omega)
  obtain ⟨b, o, spot⟩ := ad
  have g0 := tokL_get l 0 _ (List.getElem?_eq_getElem (show 0 < l.length by omega)) 0 (by omega)
  have h0 := hc 0 _ g0
  rw [show (⟨b, o, spot⟩ : Addr).add 0 = ⟨b, o, spot⟩ from by simp [Addr.add]] at h0
  have hs := World.cell?_spot h0
  simp only at hs
  subst hs
  have hadd : ∀ j, (⟨b, o, none⟩ : Addr).add j = ⟨b, o + j, none⟩ := by intro j; unfold Addr.add; split <;> simp_all
  have g := tokL_get l k t hk
  refine ⟨b, o, e, ?_, ?_, ?_, hb⟩
  · rw [← hadd]; exact hc _ _ (by have := g 0 (by omega); rw [Nat.add_zero] at this; exact this)
  · rw [show o + k * 3 + 1 = o + (k * 3 + 1) from by omega, ← hadd]; exact hc _ _ (g 1 (by omega))
  · rw [show o + k * 3 + 2 = o + (k * 3 + 2) from by omega, ← hadd]; exact hc _ _ (g 2 (by omega))
/-- .. at the slice's address. -/
theorem HoldsK.cells {w : World} {A : Option Addr} {l : List Tok} (h : HoldsK w A l) (hl : 0 < l.length) : ∃ b o, A = some ⟨b, o, none⟩ ∧ b < w.heap.size ∧ ∀ k t, l[k]? = some t → w.cell? ⟨b, o + k * 3, none⟩ = some (.int .i64 t.1) ∧ w.cell? ⟨b, o + k * 3 + 1, none⟩ = some (.string t.2.1) ∧ w.cell? ⟨b, o + k * 3 + 2, none⟩ = some (.int .i64 (t.2.2 : Nat)) := by
  obtain ⟨b, o, rfl, _, _, _, hb⟩ := h.at_ (List.getElem?_eq_getElem hl)
  refine ⟨b, o, rfl, hb, fun k t hk => ?_⟩
  obtain ⟨b', o', e, h1, h2, h3, _⟩ := h.at_ hk
  injection e with e; injection e with e1 e2 e3
  subst e1; subst e2
  exact ⟨h1, h2, h3⟩
/-- The answer to a text: the tokens, the place, the error. -/
def tokR (s : ByteArray) : List Tok × Nat × Int := match toks s with | .error (p, x) => ([], p, x) | .ok l => (l, 0, 0)
def GT (s : ByteArray) (w : World) (e : Ending) (w' : World) : Prop := ∃ A c, e = .returned (.tuple #[.slice A (tokR s).1.length c, .int .i64 ((tokR s).2.1 : Nat), .int .i64 (tokR s).2.2]) ∧ HoldsK w' A (tokR s).1 ∧ Keeps w w'
theorem gt_of {s : ByteArray} {w : World} {e : Ending} {w' : World} (h : GivesToks (toks s) w e w') : GT s w e w' := by
  unfold GT tokR
  cases ht : toks s with
  | error x =>
    obtain ⟨p, x⟩ := x
    rw [ht] at h
    exact ⟨none, 0, h.1, HoldsK.nil _, h.2⟩
  | ok l =>
    rw [ht] at h
    obtain ⟨A, c, rfl, ho, hk⟩ := h
    exact ⟨A, c, rfl, holdsK_of_own ho, hk⟩
theorem tokens_gt {w : World} (hL : LexW w) (s : ByteArray) (hs : s.size ≤ 1000000000) : Calls Tryd.prog 10 #[.string s] w (GT s w) := (tokens_any hL s hs).mono fun e w' h => gt_of h
theorem refTokens_gt {w : World} (hL : LexW w) (s : ByteArray) (hs : s.size ≤ 100000000) : Calls Tryd.prog 11 #[.string s] w (GT s w) := (refTokens_any hL s hs).mono fun e w' h => gt_of h
theorem awake_toks : toks ⟨#[65, 32, 58, 58, 61, 32, 73, 78, 84, 69, 71, 69, 82]⟩ = .ok [(1, ⟨#[65]⟩, 0), (6, ⟨#[58, 58, 61]⟩, 2), (5, ⟨#[73, 78, 84, 69, 71, 69, 82]⟩, 6), (0, ⟨#[]⟩, 13)] := by kernel_rfl
theorem awake_set : isWord ⟨#[83, 69, 84]⟩ = true := by kernel_rfl
set_option maxRecDepth 100000 in
set_option maxHeartbeats 4000000 in
theorem awake04_any {w : World} (hL : LexW w) : Calls Tryd.prog 9 #[] w fun e w' => e = .returned (.bool true) ∧ Keeps w w' := by
  have HT := hide (tokens_any hL ⟨#[65, 32, 58, 58, 61, 32, 73, 78, 84, 69, 71, 69, 82]⟩ (by decide))
  have HW := hide (fun w1 => word_any ⟨#[83, 69, 84]⟩ w1)
  rw [awake_toks] at HT
  rw [awake_set] at HW
  clear hL
  go_enter Tryd.func9, Tryd.ntmps9
  go_wp2_with fail
  refine (unhide HT).mono ?_
  rintro e w1 ⟨A, c, rfl, ho, hk⟩
  obtain ⟨b, o, rfl, hb, hc⟩ := (holdsK_of_own ho).cells (by decide)
  have h1 := (hc 1 _ rfl).2.1
  have h3 := (hc 3 _ rfl).2.2
  have HK := hide hk
  clear ho hk hc
  simp only [List.length_cons, List.length_nil] at h1 h3 ⊢
  go_wp2_with (first | (with_reducible refine (unhide HW _).mono ?_; rintro e w2 ⟨rfl, rfl⟩))
  go_ret
  exact ⟨rfl, unhide HK⟩
end Go.Proofs.YtknebkncepgppaaDoor
