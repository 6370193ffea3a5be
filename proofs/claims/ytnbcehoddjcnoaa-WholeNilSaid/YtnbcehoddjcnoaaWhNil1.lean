/- The walk of WholeNil. -/
import Derived.Test.YtnbcehoddjcnoaaWhS
namespace Go.Proofs.Ytnbcehoddjcnoaa
open Go.ChangeShapes Go.WideShapes Go.ChangeAt Go.RowKit

set_option maxRecDepth 100000 in
set_option maxHeartbeats 2000000 in
theorem wholeNil_any (v n : Int) (h0 : 0 ≤ v) (h1 : v ≤ 18446744073709551615) (h2 : n ≤ 9223372036854775807) (w : World) : Calls Try.prog 7 #[.int .u64 v, .int .i64 n] w fun e w' => e = .returned (.bool true) ∧ Keeps w w' := by
  have HK0 := hide ((Keeps.refl w).alloc (.cells #[.int .u8 1] 5))
  go_enter Try.func7, Try.ntmps7
  go_wp2_with (first | (go_at_call 19; refine (wBitsNil_any _ _ _).mono ?_; rintro e w1 ⟨rfl, hw1⟩; rw [hw1]; clear hw1) | (go_at_call 12; refine (wOctetsNil_any _ _ _ _).mono ?_; rintro e w1 ⟨rfl, hw1⟩; rw [hw1]; clear hw1) | (go_at_call 15; refine (wBetweenNil_any _ _ _ h0 h1).mono ?_; rintro e w1 ⟨rfl, hw1⟩; rw [hw1]; clear hw1))
  refine (wSmallNil_any _ _ h2).mono ?_
  rintro e w1 ⟨rfl, hk1⟩
  have HK1 := hide ((unhide HK0).trans hk1)
  clear hk1
  go_wp2_with (go_at_call 35; refine (failNil_any _ _).mono ?_; rintro e w1 ⟨rfl, hw1⟩; rw [hw1]; clear hw1)
  refine (awake17_any _).mono ?_
  rintro e w2 ⟨rfl, hk2⟩
  have HK2 := hide ((unhide HK1).trans hk2)
  clear hk2
  go_wp2_with (first | (go_at_call 21; refine (wLenNil_any _).mono ?_; rintro e w1 ⟨rfl, rfl⟩) | (go_at_call 10; refine (wBytesNil_any _).mono ?_; rintro e w1 ⟨rfl, rfl⟩) | (go_at_call 37; refine (rBitsNil_any _ _).mono ?_; rintro e w1 ⟨rfl, rfl⟩) | (go_at_call 29; refine (rOctetsNil_any _ _).mono ?_; rintro e w1 ⟨rfl, rfl⟩) | (go_at_call 31; refine (rBetweenNil_any _ _).mono ?_; rintro e w1 ⟨rfl, rfl⟩) | (go_at_call 33; refine (rSmallNil_any _).mono ?_; rintro e w1 ⟨rfl, rfl⟩) | (go_at_call 39; refine (rLeftNil_any _).mono ?_; rintro e w1 ⟨rfl, rfl⟩) | (go_at_call 41; refine (rErrNil_any _).mono ?_; rintro e w1 ⟨rfl, rfl⟩) | (go_at_call 27; refine (rEndNil_any _).mono ?_; rintro e w1 ⟨rfl, rfl⟩))
  go_ret
  exact ⟨rfl, unhide HK2⟩
end Go.Proofs.Ytnbcehoddjcnoaa
