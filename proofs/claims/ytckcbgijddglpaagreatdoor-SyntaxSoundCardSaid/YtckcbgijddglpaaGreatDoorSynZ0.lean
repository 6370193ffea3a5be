/- Two modules that hold nothing are alike. -/
import Derived.Test.YtckcbgijddglpaaGreatDoorSynM
namespace Go.Proofs.YtckcbgijddglpaaGreatDoor
open Go.ChangeShapes Go.WideShapes Go.ChangeAt Go.RowKit Go.PlainAid
set_option linter.unusedVariables false
set_option linter.unusedSimpArgs false
set_option linter.unnecessarySimpa false
theorem sameStr_nil (fv : Value) (w : World) : Calls Tryz.prog 38 #[.slice none 0 0, .slice none 0 0, fv] w fun e w' => e = .returned (.bool true) ∧ Keeps w w' := by
  go_enter Tryz.func38, Tryz.ntmps38
  go_wp2
  go_loop [7] (fun iv => iv = .int .i64 0) (fun _ => 0)
  case atStart => rfl
  case round =>
    subst hrel
    go_wp2
    go_ret
    exact ⟨rfl, Keeps.refl _⟩
theorem sameInt_nil (fv : Value) (w : World) : Calls Tryz.prog 40 #[.slice none 0 0, .slice none 0 0, fv] w fun e w' => e = .returned (.bool true) ∧ Keeps w w' := by
  go_enter Tryz.func40, Tryz.ntmps40
  go_wp2
  go_loop [7] (fun iv => iv = .int .i64 0) (fun _ => 0)
  case atStart => rfl
  case round =>
    subst hrel
    go_wp2
    go_ret
    exact ⟨rfl, Keeps.refl _⟩
theorem sameNode_nil (fv : Value) (w : World) : Calls Tryz.prog 23 #[.slice none 0 0, .slice none 0 0, fv] w fun e w' => e = .returned (.bool true) ∧ Keeps w w' := by
  go_enter Tryz.func23, Tryz.ntmps23
  go_wp2
  go_loop [7] (fun iv => iv = .int .i64 0) (fun _ => 0)
  case atStart => rfl
  case round =>
    subst hrel
    go_wp2
    go_ret
    exact ⟨rfl, Keeps.refl _⟩
theorem plainStr_nil (w : World) : Calls Tryz.prog 21 #[.slice none 0 0, .slice none 0 0] w fun e w' => e = .returned (.bool true) ∧ Keeps w w' := by
  go_enter Tryz.func21, Tryz.ntmps21
  go_wp2_with fail
  refine (sameStr_nil _ _).mono ?_
  rintro e w1 ⟨rfl, hk⟩
  go_wp2
  go_ret
  exact ⟨rfl, hk⟩
theorem plainInt_nil (w : World) : Calls Tryz.prog 22 #[.slice none 0 0, .slice none 0 0] w fun e w' => e = .returned (.bool true) ∧ Keeps w w' := by
  go_enter Tryz.func22, Tryz.ntmps22
  go_wp2_with fail
  refine (sameInt_nil _ _).mono ?_
  rintro e w1 ⟨rfl, hk⟩
  go_wp2
  go_ret
  exact ⟨rfl, hk⟩
abbrev zeroMod : Value := .agg #[.string ⟨#[]⟩, .int .i64 0, .slice none 0 0, .slice none 0 0, .slice none 0 0]
set_option maxRecDepth 100000 in
set_option maxHeartbeats 4000000 in
theorem sameModule_nil (w : World) : Calls Tryz.prog 9 #[zeroMod, zeroMod] w fun e w' => e = .returned (.bool true) ∧ Keeps w w' := by
  have HB1 := hide (Blk.new w 27 #[.string ⟨#[]⟩, .int .i64 0, .slice none 0 0, .slice none 0 0, .slice none 0 0])
  have HK1 := hide ((Keeps.refl w).alloc (.cells #[.string ⟨#[]⟩, .int .i64 0, .slice none 0 0, .slice none 0 0, .slice none 0 0] 27))
  generalize hw1 : w.alloc (.cells #[.string ⟨#[]⟩, .int .i64 0, .slice none 0 0, .slice none 0 0, .slice none 0 0] 27) = w1 at *
  have HB2 := hide (Blk.new w1 27 #[.string ⟨#[]⟩, .int .i64 0, .slice none 0 0, .slice none 0 0, .slice none 0 0])
  have HK2 := hide ((Keeps.refl w1).alloc (.cells #[.string ⟨#[]⟩, .int .i64 0, .slice none 0 0, .slice none 0 0, .slice none 0 0] 27))
  have hs1 : w1.heap.size = w.heap.size + 1 := by rw [← hw1]; exact World.size_alloc _ _
  rw [hs1] at HB2
  clear hs1
  subst hw1
  go_enter Tryz.func9, Tryz.ntmps9
  go_wp2_with fail
  refine (plainStr_nil _).mono ?_
  rintro e w3 ⟨rfl, hk3⟩
  have HK3 := hide ((unhide HK2).trans hk3)
  obtain ⟨hac, haf, -⟩ := ((unhide HB1).keeps (unhide HK3)).facts
  obtain ⟨hbc, hbf, -⟩ := ((unhide HB2).keeps hk3).facts
  have HKa := hide hk3
  clear hk3
  go_wp2_with fail
  refine (plainInt_nil _).mono ?_
  rintro e w4 ⟨rfl, hk4⟩
  have HK4 := hide ((unhide HK3).trans hk4)
  obtain ⟨hac, haf, -⟩ := ((unhide HB1).keeps (unhide HK4)).facts
  obtain ⟨hbc, hbf, -⟩ := ((unhide HB2).keeps ((unhide HKa).trans hk4)).facts
  clear hk4
  go_wp2_with fail
  refine (sameNode_nil _ _).mono ?_
  rintro e w5 ⟨rfl, hk5⟩
  go_wp2
  go_ret
  exact ⟨rfl, ((unhide HK1).trans (unhide HK4)).trans hk5⟩
end Go.Proofs.YtckcbgijddglpaaGreatDoor
