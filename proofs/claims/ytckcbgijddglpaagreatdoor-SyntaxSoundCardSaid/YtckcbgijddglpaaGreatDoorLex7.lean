/- Signs, words, kinds; one token. -/
import Derived.Test.YtckcbgijddglpaaGreatDoorLex6
namespace Go.Proofs.YtckcbgijddglpaaGreatDoor
open Go.ChangeShapes Go.WideShapes Go.ChangeAt Go.RowKit Go.PlainAid
set_option linter.unusedVariables false
set_option linter.unusedSimpArgs false

theorem isWord_eq (s : ByteArray) : isWord s = ((s.toList == [68, 69, 70, 73, 78, 73, 84, 73, 79, 78, 83]) || ((s.toList == [69, 88, 80, 76, 73, 67, 73, 84]) || ((s.toList == [73, 77, 80, 76, 73, 67, 73, 84]) || ((s.toList == [65, 85, 84, 79, 77, 65, 84, 73, 67]) || ((s.toList == [84, 65, 71, 83]) || ((s.toList == [66, 69, 71, 73, 78]) || ((s.toList == [69, 78, 68]) || ((s.toList == [66, 79, 79, 76, 69, 65, 78]) || ((s.toList == [73, 78, 84, 69, 71, 69, 82]) || ((s.toList == [69, 78, 85, 77, 69, 82, 65, 84, 69, 68]) || ((s.toList == [78, 85, 76, 76]) || ((s.toList == [79, 67, 84, 69, 84]) || ((s.toList == [83, 84, 82, 73, 78, 71]) || ((s.toList == [85, 84, 70, 56, 83, 116, 114, 105, 110, 103]) || ((s.toList == [83, 69, 81, 85, 69, 78, 67, 69]) || ((s.toList == [83, 69, 84]) || ((s.toList == [67, 72, 79, 73, 67, 69]) || ((s.toList == [79, 70]) || ((s.toList == [79, 80, 84, 73, 79, 78, 65, 76]) || ((s.toList == [68, 69, 70, 65, 85, 76, 84]) || ((s.toList == [83, 73, 90, 69]) || ((s.toList == [77, 73, 78]) || ((s.toList == [77, 65, 88]) || ((s.toList == [84, 82, 85, 69]) || ((s.toList == [70, 65, 76, 83, 69])))))))))))))))))))))))))) := by
  simp only [isWord, wordsL, List.any_cons, List.any_nil, Bool.or_false, ByteArray.toList_eq, Bool.or_assoc]
set_option maxRecDepth 100000 in
set_option maxHeartbeats 8000000 in
theorem word_any (s : ByteArray) (w : World) : Calls Tryz.prog 83 #[.string s] w fun e w' => e = .returned (.bool (isWord s)) ∧ w' = w := by
  have HW := hide (isWord_eq s)
  by_cases q0 : (s.toList == [68, 69, 70, 73, 78, 73, 84, 73, 79, 78, 83]) = true
  · have HV : Hid (isWord s = true) := by rw [Hid, unhide HW]; simp only [q0, Bool.true_or, Bool.or_true]
    go_enter Tryz.func83, Tryz.ntmps83
    go_wp2
    go_ret
    exact ⟨ret_bool (unhide HV).symm, rfl⟩
  have f0 : (s.toList == [68, 69, 70, 73, 78, 73, 84, 73, 79, 78, 83]) = false := by simpa using q0
  clear q0
  by_cases q1 : (s.toList == [69, 88, 80, 76, 73, 67, 73, 84]) = true
  · have HV : Hid (isWord s = true) := by rw [Hid, unhide HW]; simp only [q1, Bool.true_or, Bool.or_true]
    go_enter Tryz.func83, Tryz.ntmps83
    go_wp2
    go_ret
    exact ⟨ret_bool (unhide HV).symm, rfl⟩
  have f1 : (s.toList == [69, 88, 80, 76, 73, 67, 73, 84]) = false := by simpa using q1
  clear q1
  by_cases q2 : (s.toList == [73, 77, 80, 76, 73, 67, 73, 84]) = true
  · have HV : Hid (isWord s = true) := by rw [Hid, unhide HW]; simp only [q2, Bool.true_or, Bool.or_true]
    go_enter Tryz.func83, Tryz.ntmps83
    go_wp2
    go_ret
    exact ⟨ret_bool (unhide HV).symm, rfl⟩
  have f2 : (s.toList == [73, 77, 80, 76, 73, 67, 73, 84]) = false := by simpa using q2
  clear q2
  by_cases q3 : (s.toList == [65, 85, 84, 79, 77, 65, 84, 73, 67]) = true
  · have HV : Hid (isWord s = true) := by rw [Hid, unhide HW]; simp only [q3, Bool.true_or, Bool.or_true]
    go_enter Tryz.func83, Tryz.ntmps83
    go_wp2
    go_ret
    exact ⟨ret_bool (unhide HV).symm, rfl⟩
  have f3 : (s.toList == [65, 85, 84, 79, 77, 65, 84, 73, 67]) = false := by simpa using q3
  clear q3
  by_cases q4 : (s.toList == [84, 65, 71, 83]) = true
  · have HV : Hid (isWord s = true) := by rw [Hid, unhide HW]; simp only [q4, Bool.true_or, Bool.or_true]
    go_enter Tryz.func83, Tryz.ntmps83
    go_wp2
    go_ret
    exact ⟨ret_bool (unhide HV).symm, rfl⟩
  have f4 : (s.toList == [84, 65, 71, 83]) = false := by simpa using q4
  clear q4
  by_cases q5 : (s.toList == [66, 69, 71, 73, 78]) = true
  · have HV : Hid (isWord s = true) := by rw [Hid, unhide HW]; simp only [q5, Bool.true_or, Bool.or_true]
    go_enter Tryz.func83, Tryz.ntmps83
    go_wp2
    go_ret
    exact ⟨ret_bool (unhide HV).symm, rfl⟩
  have f5 : (s.toList == [66, 69, 71, 73, 78]) = false := by simpa using q5
  clear q5
  by_cases q6 : (s.toList == [69, 78, 68]) = true
  · have HV : Hid (isWord s = true) := by rw [Hid, unhide HW]; simp only [q6, Bool.true_or, Bool.or_true]
    go_enter Tryz.func83, Tryz.ntmps83
    go_wp2
    go_ret
    exact ⟨ret_bool (unhide HV).symm, rfl⟩
  have f6 : (s.toList == [69, 78, 68]) = false := by simpa using q6
  clear q6
  by_cases q7 : (s.toList == [66, 79, 79, 76, 69, 65, 78]) = true
  · have HV : Hid (isWord s = true) := by rw [Hid, unhide HW]; simp only [q7, Bool.true_or, Bool.or_true]
    go_enter Tryz.func83, Tryz.ntmps83
    go_wp2
    go_ret
    exact ⟨ret_bool (unhide HV).symm, rfl⟩
  have f7 : (s.toList == [66, 79, 79, 76, 69, 65, 78]) = false := by simpa using q7
  clear q7
  by_cases q8 : (s.toList == [73, 78, 84, 69, 71, 69, 82]) = true
  · have HV : Hid (isWord s = true) := by rw [Hid, unhide HW]; simp only [q8, Bool.true_or, Bool.or_true]
    go_enter Tryz.func83, Tryz.ntmps83
    go_wp2
    go_ret
    exact ⟨ret_bool (unhide HV).symm, rfl⟩
  have f8 : (s.toList == [73, 78, 84, 69, 71, 69, 82]) = false := by simpa using q8
  clear q8
  by_cases q9 : (s.toList == [69, 78, 85, 77, 69, 82, 65, 84, 69, 68]) = true
  · have HV : Hid (isWord s = true) := by rw [Hid, unhide HW]; simp only [q9, Bool.true_or, Bool.or_true]
    go_enter Tryz.func83, Tryz.ntmps83
    go_wp2
    go_ret
    exact ⟨ret_bool (unhide HV).symm, rfl⟩
  have f9 : (s.toList == [69, 78, 85, 77, 69, 82, 65, 84, 69, 68]) = false := by simpa using q9
  clear q9
  by_cases q10 : (s.toList == [78, 85, 76, 76]) = true
  · have HV : Hid (isWord s = true) := by rw [Hid, unhide HW]; simp only [q10, Bool.true_or, Bool.or_true]
    go_enter Tryz.func83, Tryz.ntmps83
    go_wp2
    go_ret
    exact ⟨ret_bool (unhide HV).symm, rfl⟩
  have f10 : (s.toList == [78, 85, 76, 76]) = false := by simpa using q10
  clear q10
  by_cases q11 : (s.toList == [79, 67, 84, 69, 84]) = true
  · have HV : Hid (isWord s = true) := by rw [Hid, unhide HW]; simp only [q11, Bool.true_or, Bool.or_true]
    go_enter Tryz.func83, Tryz.ntmps83
    go_wp2
    go_ret
    exact ⟨ret_bool (unhide HV).symm, rfl⟩
  have f11 : (s.toList == [79, 67, 84, 69, 84]) = false := by simpa using q11
  clear q11
  by_cases q12 : (s.toList == [83, 84, 82, 73, 78, 71]) = true
  · have HV : Hid (isWord s = true) := by rw [Hid, unhide HW]; simp only [q12, Bool.true_or, Bool.or_true]
    go_enter Tryz.func83, Tryz.ntmps83
    go_wp2
    go_ret
    exact ⟨ret_bool (unhide HV).symm, rfl⟩
  have f12 : (s.toList == [83, 84, 82, 73, 78, 71]) = false := by simpa using q12
  clear q12
  by_cases q13 : (s.toList == [85, 84, 70, 56, 83, 116, 114, 105, 110, 103]) = true
  · have HV : Hid (isWord s = true) := by rw [Hid, unhide HW]; simp only [q13, Bool.true_or, Bool.or_true]
    go_enter Tryz.func83, Tryz.ntmps83
    go_wp2
    go_ret
    exact ⟨ret_bool (unhide HV).symm, rfl⟩
  have f13 : (s.toList == [85, 84, 70, 56, 83, 116, 114, 105, 110, 103]) = false := by simpa using q13
  clear q13
  by_cases q14 : (s.toList == [83, 69, 81, 85, 69, 78, 67, 69]) = true
  · have HV : Hid (isWord s = true) := by rw [Hid, unhide HW]; simp only [q14, Bool.true_or, Bool.or_true]
    go_enter Tryz.func83, Tryz.ntmps83
    go_wp2
    go_ret
    exact ⟨ret_bool (unhide HV).symm, rfl⟩
  have f14 : (s.toList == [83, 69, 81, 85, 69, 78, 67, 69]) = false := by simpa using q14
  clear q14
  by_cases q15 : (s.toList == [83, 69, 84]) = true
  · have HV : Hid (isWord s = true) := by rw [Hid, unhide HW]; simp only [q15, Bool.true_or, Bool.or_true]
    go_enter Tryz.func83, Tryz.ntmps83
    go_wp2
    go_ret
    exact ⟨ret_bool (unhide HV).symm, rfl⟩
  have f15 : (s.toList == [83, 69, 84]) = false := by simpa using q15
  clear q15
  by_cases q16 : (s.toList == [67, 72, 79, 73, 67, 69]) = true
  · have HV : Hid (isWord s = true) := by rw [Hid, unhide HW]; simp only [q16, Bool.true_or, Bool.or_true]
    go_enter Tryz.func83, Tryz.ntmps83
    go_wp2
    go_ret
    exact ⟨ret_bool (unhide HV).symm, rfl⟩
  have f16 : (s.toList == [67, 72, 79, 73, 67, 69]) = false := by simpa using q16
  clear q16
  by_cases q17 : (s.toList == [79, 70]) = true
  · have HV : Hid (isWord s = true) := by rw [Hid, unhide HW]; simp only [q17, Bool.true_or, Bool.or_true]
    go_enter Tryz.func83, Tryz.ntmps83
    go_wp2
    go_ret
    exact ⟨ret_bool (unhide HV).symm, rfl⟩
  have f17 : (s.toList == [79, 70]) = false := by simpa using q17
  clear q17
  by_cases q18 : (s.toList == [79, 80, 84, 73, 79, 78, 65, 76]) = true
  · have HV : Hid (isWord s = true) := by rw [Hid, unhide HW]; simp only [q18, Bool.true_or, Bool.or_true]
    go_enter Tryz.func83, Tryz.ntmps83
    go_wp2
    go_ret
    exact ⟨ret_bool (unhide HV).symm, rfl⟩
  have f18 : (s.toList == [79, 80, 84, 73, 79, 78, 65, 76]) = false := by simpa using q18
  clear q18
  by_cases q19 : (s.toList == [68, 69, 70, 65, 85, 76, 84]) = true
  · have HV : Hid (isWord s = true) := by rw [Hid, unhide HW]; simp only [q19, Bool.true_or, Bool.or_true]
    go_enter Tryz.func83, Tryz.ntmps83
    go_wp2
    go_ret
    exact ⟨ret_bool (unhide HV).symm, rfl⟩
  have f19 : (s.toList == [68, 69, 70, 65, 85, 76, 84]) = false := by simpa using q19
  clear q19
  by_cases q20 : (s.toList == [83, 73, 90, 69]) = true
  · have HV : Hid (isWord s = true) := by rw [Hid, unhide HW]; simp only [q20, Bool.true_or, Bool.or_true]
    go_enter Tryz.func83, Tryz.ntmps83
    go_wp2
    go_ret
    exact ⟨ret_bool (unhide HV).symm, rfl⟩
  have f20 : (s.toList == [83, 73, 90, 69]) = false := by simpa using q20
  clear q20
  by_cases q21 : (s.toList == [77, 73, 78]) = true
  · have HV : Hid (isWord s = true) := by rw [Hid, unhide HW]; simp only [q21, Bool.true_or, Bool.or_true]
    go_enter Tryz.func83, Tryz.ntmps83
    go_wp2
    go_ret
    exact ⟨ret_bool (unhide HV).symm, rfl⟩
  have f21 : (s.toList == [77, 73, 78]) = false := by simpa using q21
  clear q21
  by_cases q22 : (s.toList == [77, 65, 88]) = true
  · have HV : Hid (isWord s = true) := by rw [Hid, unhide HW]; simp only [q22, Bool.true_or, Bool.or_true]
    go_enter Tryz.func83, Tryz.ntmps83
    go_wp2
    go_ret
    exact ⟨ret_bool (unhide HV).symm, rfl⟩
  have f22 : (s.toList == [77, 65, 88]) = false := by simpa using q22
  clear q22
  by_cases q23 : (s.toList == [84, 82, 85, 69]) = true
  · have HV : Hid (isWord s = true) := by rw [Hid, unhide HW]; simp only [q23, Bool.true_or, Bool.or_true]
    go_enter Tryz.func83, Tryz.ntmps83
    go_wp2
    go_ret
    exact ⟨ret_bool (unhide HV).symm, rfl⟩
  have f23 : (s.toList == [84, 82, 85, 69]) = false := by simpa using q23
  clear q23
  by_cases q24 : (s.toList == [70, 65, 76, 83, 69]) = true
  · have HV : Hid (isWord s = true) := by rw [Hid, unhide HW]; simp only [q24, Bool.true_or, Bool.or_true]
    go_enter Tryz.func83, Tryz.ntmps83
    go_wp2
    go_ret
    exact ⟨ret_bool (unhide HV).symm, rfl⟩
  have f24 : (s.toList == [70, 65, 76, 83, 69]) = false := by simpa using q24
  clear q24
  have HV : Hid (isWord s = false) := by rw [Hid, unhide HW]; simp only [f0, f1, f2, f3, f4, f5, f6, f7, f8, f9, f10, f11, f12, f13, f14, f15, f16, f17, f18, f19, f20, f21, f22, f23, f24, Bool.or_false]
  go_enter Tryz.func83, Tryz.ntmps83
  go_wp2
  go_ret
  exact ⟨ret_bool (unhide HV).symm, rfl⟩
theorem kindOf_any (s : ByteArray) (hs : 0 < s.size) (w : World) : Calls Tryz.prog 59 #[.string s] w fun e w' => e = .returned (.int .i64 (kindOf s)) ∧ w' = w := by
  have hb := get_bt s
  have hsi : (0 : Int) < (s.size : Int) := by omega
  have HW := hide (word_any s)
  unfold kindOf
  by_cases q : isWord s = true
  · rw [q] at HW
    clear hb hsi hs
    rw [if_pos q]
    clear q
    go_enter Tryz.func59, Tryz.ntmps59
    go_wp2_with fail
    with_reducible refine (unhide HW _).mono ?_
    rintro e w1 ⟨rfl, rfl⟩
    go_wp2
    go_ret
    exact ⟨rfl, rfl⟩
  · have q2 : isWord s = false := by simpa using q
    rw [q2] at HW
    rw [if_neg q]
    clear q q2
    by_cases q : bt s 0 ≤ 90
    · rw [if_pos q]
      go_enter Tryz.func59, Tryz.ntmps59
      go_wp2_with fail
      with_reducible refine (unhide HW _).mono ?_
      rintro e w1 ⟨rfl, rfl⟩
      go_wp2
      go_ret
      exact ⟨rfl, rfl⟩
    · rw [if_neg q]
      go_enter Tryz.func59, Tryz.ntmps59
      go_wp2_with fail
      with_reducible refine (unhide HW _).mono ?_
      rintro e w1 ⟨rfl, rfl⟩
      go_wp2
      go_ret
      exact ⟨rfl, rfl⟩
end Go.Proofs.YtckcbgijddglpaaGreatDoor
