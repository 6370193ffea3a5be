/- Two lists of tokens that are alike. -/
import Derived.Test.YtknebkncepgppaaDoorLexW0
import Derived.Deep.QuietTactic
import Derived.BigQuiet
namespace Go.Proofs.YtknebkncepgppaaDoor
open Go.ChangeShapes Go.WideShapes Go.ChangeAt Go.RowKit Go.PlainAid
set_option linter.unusedVariables false
set_option linter.unusedSimpArgs false

set_option maxHeartbeats 1000000 in
theorem alikeK_eq (k a : Int) (x : ByteArray) (w : World) : Calls Tryd.prog 24 #[.agg #[.int .i64 k, .string x, .int .i64 a], .agg #[.int .i64 k, .string x, .int .i64 a]] w fun e w' => e = .returned (.bool true) ∧ Keeps w w' := by
  go_enter Tryd.func24, Tryd.ntmps24
  go_wp2
  go_ret
  exact ⟨by simp, ((Keeps.refl _).alloc _).alloc _⟩
/-- What is asked one by one stands in two rows. -/
def TwoAt (w0 : World) (b o b2 o2 k : Nat) (t : Tok) (w : World) : Prop :=
  (w.cell? ⟨b, o + k * 3, none⟩ = some (.int .i64 t.1) ∧ w.cell? ⟨b, o + k * 3 + 1, none⟩ = some (.string t.2.1) ∧ w.cell? ⟨b, o + k * 3 + 2, none⟩ = some (.int .i64 (t.2.2 : Nat))) ∧
  (w.cell? ⟨b2, o2 + k * 3, none⟩ = some (.int .i64 t.1) ∧ w.cell? ⟨b2, o2 + k * 3 + 1, none⟩ = some (.string t.2.1) ∧ w.cell? ⟨b2, o2 + k * 3 + 2, none⟩ = some (.int .i64 (t.2.2 : Nat))) ∧ b < w.heap.size ∧ b2 < w.heap.size ∧ Keeps w0 w
theorem two_step {w w' : World} {w0 : World} {b o b2 o2 k : Nat} {t : Tok} (h : TwoAt w0 b o b2 o2 k t w) (hk : Keeps w w') : TwoAt w0 b o b2 o2 k t w' := by
  obtain ⟨⟨h1, h2, h3⟩, ⟨h4, h5, h6⟩, h7, h8, h9⟩ := h
  refine ⟨⟨?_, ?_, ?_⟩, ⟨?_, ?_, ?_⟩, Nat.lt_of_lt_of_le h7 hk.size, Nat.lt_of_lt_of_le h8 hk.size, h9.trans hk⟩
  · exact (Below.cell (p := ⟨b, _, none⟩) hk h7).trans h1
  · exact (Below.cell (p := ⟨b, _, none⟩) hk h7).trans h2
  · exact (Below.cell (p := ⟨b, _, none⟩) hk h7).trans h3
  · exact (Below.cell (p := ⟨b2, _, none⟩) hk h8).trans h4
  · exact (Below.cell (p := ⟨b2, _, none⟩) hk h8).trans h5
  · exact (Below.cell (p := ⟨b2, _, none⟩) hk h8).trans h6

set_option maxRecDepth 100000 in
set_option maxHeartbeats 4000000 in
theorem sameK_inner (A B : Option Addr) (l : List Tok) (c d : Nat) (w : World) (ha : HoldsK w A l) (hb : HoldsK w B l) (hl : l.length ≤ 1000000) :
    Calls Tryd.prog 23 #[.slice A l.length c, .slice B l.length d, .func (Fn.func 24) #[] #[]] w fun e w' => e = .returned (.bool true) ∧ Keeps w w' := by
  have HA := hide ha
  have HB := hide hb
  clear ha hb
  generalize hn : l.length = n at *
  have HN := hide hn
  clear hn
  go_enter Tryd.func23, Tryd.ntmps23
  go_wp2
  go_loopw [7] (fun i wr => ∃ k : Nat, k ≤ n ∧ i = .int .i64 k ∧ Keeps w wr) (fun i _ => n - (intOf i).toNat)
  case atStart => exact ⟨0, by omega, rfl, Keeps.refl _⟩
  case round =>
    obtain ⟨k, hk, rfl, hkk⟩ := hrel
    by_cases hlt : k < n
    · have hkx : k < l.length := by rw [unhide HN]; exact hlt
      obtain ⟨⟨kd, x, a⟩, ht⟩ : ∃ t, l[k]? = some t := ⟨_, List.getElem?_eq_getElem hkx⟩
      obtain ⟨b, o, rfl, hc1, hc2, hc3, hc7⟩ := ((unhide HA).keeps hkk).at_ ht
      obtain ⟨b2, o2, rfl, hc4, hc5, hc6, hc8⟩ := ((unhide HB).keeps hkk).at_ ht
      clear hkx ht
      have hltI : (k : Int) < (n : Int) := by omega
      go_wp2
      go_region_held3 (fun w' => (w'.cell? ⟨b, o + k * 3, none⟩ = some (.int .i64 kd) ∧ w'.cell? ⟨b, o + k * 3 + 1, none⟩ = some (.string x) ∧ w'.cell? ⟨b, o + k * 3 + 2, none⟩ = some (.int .i64 (a : Nat))) ∧ (w'.cell? ⟨b2, o2 + k * 3, none⟩ = some (.int .i64 kd) ∧ w'.cell? ⟨b2, o2 + k * 3 + 1, none⟩ = some (.string x) ∧ w'.cell? ⟨b2, o2 + k * 3 + 2, none⟩ = some (.int .i64 (a : Nat))) ∧ b < w'.heap.size ∧ b2 < w'.heap.size ∧ Keeps w w')
        (first | exact two_step (t := (kd, x, a)) (by assumption) hb | exact ⟨⟨hc1, hc2, hc3⟩, ⟨hc4, hc5, hc6⟩, hc7, hc8, hkk.drew⟩)
        (first | (go_at_call 24; refine (alikeK_eq _ _ _ _).mono ?_; rintro e wn ⟨rfl, hb⟩))
      have hkn := (by assumption : _ ∧ _ ∧ _ ∧ _ ∧ Keeps w _).2.2.2.2
      go_wp2
      exact ⟨⟨k + 1, by omega, by go_num, hkn⟩, by simp [intOf]; omega⟩
    · obtain rfl : k = n := by omega
      go_wp2
      go_ret
      exact ⟨rfl, hkk⟩

set_option maxHeartbeats 2000000 in
theorem plainK_any (A B : Option Addr) (l : List Tok) (c d : Nat) (w : World) (ha : HoldsK w A l) (hb : HoldsK w B l) (hl : l.length ≤ 1000000) :
    Calls Tryd.prog 12 #[.slice A l.length c, .slice B l.length d] w fun e w' => e = .returned (.bool true) ∧ Keeps w w' := by
  go_enter Tryd.func12, Tryd.ntmps12
  go_wp2_with fail
  refine (sameK_inner A B l c d w ha hb hl).mono ?_
  rintro e w1 ⟨rfl, hk⟩
  go_wp2
  go_ret
  exact ⟨rfl, hk⟩
end Go.Proofs.YtknebkncepgppaaDoor
