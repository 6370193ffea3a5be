/- Contracts of package bounds' reference. -/
import Derived.Test.YtknmcodpnhdghaaBnd
namespace Go.Proofs.Ytknmcodpnhdghaa
open Go.ChangeShapes Go.WideShapes Go.ChangeAt Go.RowKit

set_option maxHeartbeats 800000 in
theorem refCheck_any (h hl hh m s : Bool) (l u : Int) (w : World) :
    Calls Try.prog 45 #[Con h hl hh m l u, .bool s] w fun e w' => e = .returned (.int .i64 (checkE h hl hh s l u)) ∧ Keeps w w' := by
  cases h <;> cases hl <;> cases hh <;> cases s
  all_goals
    go_enter Try.func45, Try.ntmps45
    go_wp2
    all_goals
      go_ret
      refine ⟨ret_int ?_, ((Keeps.refl _).alloc _)⟩
      simp [checkE, crossedB, noSizeB, beyondB]
      try (split <;> omega)
      try omega

set_option maxHeartbeats 400000 in
theorem within_any (h hl hh m : Bool) (l u v : Int) (w : World) :
    Calls Try.prog 46 #[Con h hl hh m l u, .int .i64 v] w fun e w' => e = .returned (.bool (withinB h hl hh l u v)) ∧ Keeps w w' := by
  cases h <;> cases hl <;> cases hh
  all_goals
    go_enter Try.func46, Try.ntmps46
    go_wp2
    all_goals
      go_ret
      refine ⟨ret_bool ?_, ((Keeps.refl _).alloc _)⟩
      simp [withinB]
      try omega

set_option maxHeartbeats 400000 in
theorem refWithin_any (h hl hh m : Bool) (l u v : Int) (w : World) :
    Calls Try.prog 47 #[Con h hl hh m l u, .int .i64 v] w fun e w' => e = .returned (.bool (withinB h hl hh l u v)) ∧ Keeps w w' := by
  cases h <;> cases hl <;> cases hh
  all_goals
    go_enter Try.func47, Try.ntmps47
    go_wp2
    all_goals
      go_ret
      refine ⟨ret_bool ?_, ((Keeps.refl _).alloc _)⟩
      simp [withinB]
      try omega

end Go.Proofs.Ytknmcodpnhdghaa
