/- Contracts of package bounds and of its reference. -/
import Derived.Test.YtknmcodpnhdghaaRows
import Derived.Test.YtknmcodpnhdghaaBase
namespace Go.Proofs.Ytknmcodpnhdghaa
open Go.ChangeShapes Go.WideShapes Go.ChangeAt Go.RowKit

def crossedB (hl hh : Bool) (l u : Int) : Bool := hl && hh && decide (u < l)
def beyondB (x : Int) : Bool := decide (x < 0) || decide (70000 < x)
def noSizeB (hl hh : Bool) (l u : Int) : Bool := !hl || beyondB l || (hh && beyondB u)
def checkE (h hl hh s : Bool) (l u : Int) : Int := if h && (crossedB hl hh l u || (s && noSizeB hl hh l u)) then 11 else 0
def spanOk (h hl hh : Bool) (l u : Int) : Bool := h && hl && hh && !decide (u < l)
def withinB (h hl hh : Bool) (l u v : Int) : Bool := !h || ((!hl || decide (l ≤ v)) && (!hh || decide (v ≤ u)))
abbrev Con (h hl hh m : Bool) (l u : Int) : Value := .agg #[.bool h, .bool hl, .bool hh, .bool m, .int .i64 l, .int .i64 u]


set_option maxHeartbeats 400000 in
theorem crossed_any (h hl hh m s : Bool) (l u : Int) (w : World) :
    Calls Try.prog 70 #[.agg #[.bool h, .bool hl, .bool hh, .bool m, .int .i64 l, .int .i64 u, .bool s]] w fun e w' => e = .returned (.bool (crossedB hl hh l u)) ∧ Keeps w w' := by
  cases hl <;> cases hh
  all_goals
    go_enter Try.func70, Try.ntmps70
    go_wp2
    go_ret
    exact ⟨ret_bool (by simp [crossedB]), (Keeps.refl _).alloc _⟩

set_option maxHeartbeats 400000 in
theorem beyond_any (x : Int) (w : World) :
    Calls Try.prog 79 #[.int .i64 x] w fun e w' => e = .returned (.bool (beyondB x)) ∧ w = w' := by
  by_cases h : x < 0
  all_goals
    go_enter Try.func79, Try.ntmps79
    go_wp2
    go_ret
    exact ⟨ret_bool (by first | (simp [beyondB, h]; done) | (simp [beyondB]; omega)), rfl⟩

set_option maxHeartbeats 400000 in
theorem noSize_any (h hl hh m s : Bool) (l u : Int) (w : World) :
    Calls Try.prog 71 #[.agg #[.bool h, .bool hl, .bool hh, .bool m, .int .i64 l, .int .i64 u, .bool s]] w fun e w' => e = .returned (.bool (noSizeB hl hh l u)) ∧ Keeps w w' := by
  unfold noSizeB
  generalize hbl : beyondB l = bl
  generalize hbu : beyondB u = bu
  have Hl := hide hbl
  have Hu := hide hbu
  clear hbl hbu
  cases hl <;> cases hh <;> cases bl <;> cases bu
  all_goals
    go_enter Try.func71, Try.ntmps71
    go_wp2_with (go_at_call 79; refine (beyond_any _ _).mono ?_; rintro e w' ⟨rfl, rfl⟩; first | rw [unhide Hl] | rw [unhide Hu])
    go_ret
    exact ⟨ret_bool (by simp), (Keeps.refl _).alloc _⟩

set_option maxHeartbeats 400000 in
theorem check_any (h hl hh m s : Bool) (l u : Int) (w : World) :
    Calls Try.prog 44 #[Con h hl hh m l u, .bool s] w fun e w' => e = .returned (.int .i64 (checkE h hl hh s l u)) ∧ Keeps w w' := by
  unfold checkE
  generalize hbl : crossedB hl hh l u = bl
  generalize hbu : noSizeB hl hh l u = bu
  have Hl := hide hbl
  have Hu := hide hbu
  clear hbl hbu
  cases h <;> cases bl <;> cases s <;> cases bu
  all_goals
    go_enter Try.func44, Try.ntmps44
    go_wp2_with (first | (go_at_call 70; refine (crossed_any _ _ _ _ _ _ _ _).mono ?_; rintro e w1 ⟨rfl, hb1⟩; rw [unhide Hl]; obtain ⟨hc1, hf1⟩ := hb1.cells) | (go_at_call 71; refine (noSize_any _ _ _ _ _ _ _ _).mono ?_; rintro e w2 ⟨rfl, hb2⟩; rw [unhide Hu]; obtain ⟨hc2, hf2⟩ := hb2.cells))
    go_ret
    first
      | exact ⟨ret_int (by simp), ((Keeps.refl _).alloc _).alloc _⟩
      | exact ⟨ret_int (by simp), Keeps.trans (((Keeps.refl _).alloc _).alloc _) (Keeps.trans hb1 hb2)⟩
      | exact ⟨ret_int (by simp), Keeps.trans (((Keeps.refl _).alloc _).alloc _) hb1⟩

end Go.Proofs.Ytknmcodpnhdghaa
