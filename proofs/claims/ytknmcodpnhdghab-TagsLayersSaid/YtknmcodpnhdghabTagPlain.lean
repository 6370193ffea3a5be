/- The contracts of Same and Plain at tags. -/
import Derived.Test.YtknmcodpnhdghabTagAwake
import Derived.Deep.QuietTactic
import Derived.BigQuiet
namespace Go.Proofs.Ytknmcodpnhdghab
open Go.ChangeShapes Go.WideShapes Go.ChangeAt Go.RowKit

theorem HoldsT.at_ {w : World} {A : Option Addr} {ts : List (Int × Int)} (h : HoldsT w A ts) {k : Nat} (hk : k < ts.length) :
    ∃ b o, A = some ⟨b, o, none⟩ ∧ w.cell? ⟨b, o + k * 2, none⟩ = some (.int .i64 (ts.getD k (0, 0)).1) ∧ w.cell? ⟨b, o + k * 2 + 1, none⟩ = some (.int .i64 (ts.getD k (0, 0)).2) ∧ b < w.heap.size := by
  have hget : ∀ (us : List (Int × Int)) (k : Nat), k < us.length → (TagL us)[k * 2]? = some (.int .i64 (us.getD k (0, 0)).1) ∧ (TagL us)[k * 2 + 1]? = some (.int .i64 (us.getD k (0, 0)).2) := by
    intro us
    induction us with
    | nil => intro k hk; simp at hk
    | cons u us ih =>
      intro k hk
      cases k with
      | zero => simp [TagL, tagCells]
      | succ k =>
        have := ih k (by simpa using hk)
        rw [show (k + 1) * 2 = k * 2 + 1 + 1 from by omega]
        simpa [TagL, tagCells] using this
  obtain ⟨ad, e, hb, hc⟩ := h.2 (by omega)
  obtain ⟨b, o, spot⟩ := ad
  have h0 := hc 0 _ (by have := (hget ts 0 (by omega)).1; simpa using this)
  rw [show (⟨b, o, spot⟩ : Addr).add 0 = ⟨b, o, spot⟩ from by simp [Addr.add]] at h0
  have hs := World.cell?_spot h0
  simp only at hs
  subst hs
  have hadd : ∀ j, (⟨b, o, none⟩ : Addr).add j = ⟨b, o + j, none⟩ := by intro j; unfold Addr.add; split <;> simp_all
  obtain ⟨g1, g2⟩ := hget ts k hk
  refine ⟨b, o, e, ?_, ?_, hb⟩
  · rw [← hadd]; exact hc _ _ g1
  · rw [show o + k * 2 + 1 = o + (k * 2 + 1) from by omega, ← hadd]; exact hc _ _ g2

set_option maxHeartbeats 1000000 in
theorem alikeT_eq (x1 x2 : Int) (w : World) : Calls Try.prog 13 #[.agg #[.int .i64 x1, .int .i64 x2], .agg #[.int .i64 x1, .int .i64 x2]] w fun e w' => e = .returned (.bool true) ∧ Keeps w w' := by
  go_enter Try.func13, Try.ntmps13
  go_wp2
  go_ret
  exact ⟨rfl, ((Keeps.refl _).alloc _).alloc _⟩
set_option maxHeartbeats 1000000 in
theorem alikeT_ne (x1 x2 y1 y2 : Int) (h : ¬ (x1 = y1 ∧ x2 = y2)) (w : World) : Calls Try.prog 13 #[.agg #[.int .i64 x1, .int .i64 x2], .agg #[.int .i64 y1, .int .i64 y2]] w fun e w' => e = .returned (.bool false) ∧ Keeps w w' := by
  by_cases h1 : x1 = y1
  · have h2 : ¬ x2 = y2 := fun e => h ⟨h1, e⟩
    subst h1
    have e2 : (x2 == y2) = false := beq_eq_false_iff_ne.2 h2
    clear h h2
    go_enter Try.func13, Try.ntmps13
    go_wp2
    go_ret
    exact ⟨rfl, ((Keeps.refl _).alloc _).alloc _⟩
  · have e1 : (x1 == y1) = false := beq_eq_false_iff_ne.2 h1
    clear h h1
    go_enter Try.func13, Try.ntmps13
    go_wp2
    go_ret
    exact ⟨rfl, ((Keeps.refl _).alloc _).alloc _⟩

/-- All of it is alike: that is so, whatever is asked one by one. -/
theorem four_step {w w' : World} {w0 : World} {b o b2 o2 k : Nat} {x1 x2 : Int}
    (h : w.cell? ⟨b, o + k * 2, none⟩ = some (.int .i64 x1) ∧ w.cell? ⟨b, o + k * 2 + 1, none⟩ = some (.int .i64 x2) ∧ w.cell? ⟨b2, o2 + k * 2, none⟩ = some (.int .i64 x1) ∧ w.cell? ⟨b2, o2 + k * 2 + 1, none⟩ = some (.int .i64 x2) ∧ b < w.heap.size ∧ b2 < w.heap.size ∧ Keeps w0 w) (hk : Keeps w w') :
    w'.cell? ⟨b, o + k * 2, none⟩ = some (.int .i64 x1) ∧ w'.cell? ⟨b, o + k * 2 + 1, none⟩ = some (.int .i64 x2) ∧ w'.cell? ⟨b2, o2 + k * 2, none⟩ = some (.int .i64 x1) ∧ w'.cell? ⟨b2, o2 + k * 2 + 1, none⟩ = some (.int .i64 x2) ∧ b < w'.heap.size ∧ b2 < w'.heap.size ∧ Keeps w0 w' := by
  obtain ⟨h1, h2, h3, h4, h5, h6, h7⟩ := h
  refine ⟨?_, ?_, ?_, ?_, Nat.lt_of_lt_of_le h5 hk.size, Nat.lt_of_lt_of_le h6 hk.size, h7.trans hk⟩
  · exact (Below.cell (p := ⟨b, _, none⟩) hk h5).trans h1
  · exact (Below.cell (p := ⟨b, _, none⟩) hk h5).trans h2
  · exact (Below.cell (p := ⟨b2, _, none⟩) hk h6).trans h3
  · exact (Below.cell (p := ⟨b2, _, none⟩) hk h6).trans h4

set_option maxRecDepth 100000 in
set_option maxHeartbeats 4000000 in
theorem sameT_inner (A B : Option Addr) (xs : List (Int × Int)) (c d : Nat) (w : World) (ha : HoldsT w A xs) (hb : HoldsT w B xs) (hl : xs.length ≤ 1000000) :
    Calls Try.prog 12 #[.slice A xs.length c, .slice B xs.length d, .func (Fn.func 13) #[] #[]] w fun e w' => e = .returned (.bool true) ∧ Keeps w w' := by
  have HA := hide ha
  have HB := hide hb
  clear ha hb
  generalize hn : xs.length = n at *
  have HN := hide hn
  clear hn
  go_enter Try.func12, Try.ntmps12
  go_wp2
  go_loopw [7] (fun i wr => ∃ k : Nat, k ≤ n ∧ i = .int .i64 k ∧ Keeps w wr) (fun i _ => n - (intOf i).toNat)
  case atStart => exact ⟨0, by omega, rfl, Keeps.refl _⟩
  case round =>
    obtain ⟨k, hk, rfl, hkk⟩ := hrel
    by_cases hlt : k < n
    · have hkx : k < xs.length := by rw [unhide HN]; exact hlt
      obtain ⟨b, o, rfl, hc1, hc2, hc5⟩ := ((unhide HA).keeps hkk).at_ hkx
      obtain ⟨b2, o2, rfl, hc3, hc4, hc6⟩ := ((unhide HB).keeps hkk).at_ hkx
      clear hkx
      generalize (xs.getD k (0, 0)).1 = x1 at *
      generalize (xs.getD k (0, 0)).2 = x2 at *
      go_wp2
      go_region_held3 (fun w' => w'.cell? ⟨b, o + k * 2, none⟩ = some (.int .i64 x1) ∧ w'.cell? ⟨b, o + k * 2 + 1, none⟩ = some (.int .i64 x2) ∧ w'.cell? ⟨b2, o2 + k * 2, none⟩ = some (.int .i64 x1) ∧ w'.cell? ⟨b2, o2 + k * 2 + 1, none⟩ = some (.int .i64 x2) ∧ b < w'.heap.size ∧ b2 < w'.heap.size ∧ Keeps w w')
        (first | exact four_step (by assumption) hb | exact ⟨hc1, hc2, hc3, hc4, hc5, hc6, hkk.drew⟩)
        (first | (go_at_call 13; refine (alikeT_eq _ _ _).mono ?_; rintro e wn ⟨rfl, hb⟩))
      have hkn := (by assumption : _ ∧ _ ∧ _ ∧ _ ∧ _ ∧ _ ∧ Keeps w _).2.2.2.2.2.2
      go_wp2
      exact ⟨⟨k + 1, by omega, by go_num, hkn⟩, by simp [intOf]; omega⟩
    · obtain rfl : k = n := by omega
      go_wp2
      go_ret
      exact ⟨rfl, hkk⟩

set_option maxHeartbeats 2000000 in
theorem plainT_any (A B : Option Addr) (xs : List (Int × Int)) (c d : Nat) (w : World) (ha : HoldsT w A xs) (hb : HoldsT w B xs) (hl : xs.length ≤ 1000000) :
    Calls Try.prog 8 #[.slice A xs.length c, .slice B xs.length d] w fun e w' => e = .returned (.bool true) ∧ Keeps w w' := by
  go_enter Try.func8, Try.ntmps8
  go_wp2_with fail
  refine (sameT_inner A B xs c d w ha hb hl).mono ?_
  rintro e w1 ⟨rfl, hk⟩
  go_wp2
  go_ret
  exact ⟨rfl, hk⟩

theorem holdsT_of_own {w : World} {base : Nat} {A : Option Addr} {c : Nat} {ts : List (Int × Int)} (h : w.ownsRow base 26 2 (.slice A ts.length c) ts.length (TagL ts)) : HoldsT w A ts := by
  rcases h.2 with ⟨e, hn⟩ | ⟨g, cap, cur, e, _, _, _, _⟩
  · injection e with e1 e2 e3
    have : ts = [] := List.eq_nil_of_length_eq_zero hn
    subst this
    exact HoldsT.empty _ _
  · exact Reads.of_own h

end Go.Proofs.Ytknmcodpnhdghab
