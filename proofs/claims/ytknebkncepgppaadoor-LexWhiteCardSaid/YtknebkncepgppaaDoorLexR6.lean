/- The reference: words. -/
import Derived.Test.YtknebkncepgppaaDoorLexR2
namespace Go.Proofs.YtknebkncepgppaaDoor
open Go.ChangeShapes Go.WideShapes Go.ChangeAt Go.RowKit Go.PlainAid
set_option linter.unusedVariables false
set_option linter.unusedSimpArgs false

/-- A row of texts. -/
def StrRow (w : World) (b : Nat) (l : List ByteArray) : Prop := ∀ k x, l[k]? = some x → w.cell? ⟨b, k, none⟩ = some (.string x)
theorem any_take {α : Type} (p : α → Bool) (l : List α) {k : Nat} (h : k < l.length) (h0 : (l.take k).any p = false) : (l.take (k + 1)).any p = p l[k] := by
  rw [List.take_add_one, List.any_append, h0, List.getElem?_eq_getElem h]; simp
set_option maxRecDepth 100000 in
set_option maxHeartbeats 4000000 in
theorem inStr_any (s : ByteArray) (b : Nat) (l : List ByteArray) (c : Nat) (w : World) (h : StrRow w b l) (hl : l.length ≤ 1000000) :
    Calls Tryd.prog 25 #[.slice (some ⟨b, 0, none⟩) l.length c, .string s] w fun e w' => e = .returned (.bool (l.any fun x => x.toList == s.toList)) ∧ w' = w := by
  have HH := hide h
  clear h
  generalize hn : l.length = n at *
  have HN := hide hn
  clear hn
  go_enter Tryd.func25, Tryd.ntmps25
  go_wp2
  go_loopg [5] n (fun k iv wr => ∃ j : Nat, iv = .int .i64 (j : Nat) ∧ j ≤ n ∧ k = n - j ∧ w = wr ∧ ((l.take j).any fun x => x.toList == s.toList) = false)
  case atStart => exact ⟨0, rfl, Nat.zero_le _, rfl, rfl, rfl⟩
  case round =>
    obtain ⟨j, rfl, hj, hk, rfl, hf⟩ := hrel
    have HK := hide hk
    have HF := hide hf
    clear hk hf
    by_cases hlt : j < n
    · have hltI : (j : Int) < (n : Int) := by omega
      have hlt2 : j < l.length := by rw [unhide HN]; exact hlt
      have h0 := unhide HH j l[j] (List.getElem?_eq_getElem hlt2)
      have HS := hide (any_take _ l hlt2 (unhide HF))
      generalize l[j] = x at *
      by_cases q : (x.toList == s.toList) = true
      · have HR := hide (show (l.any fun x => x.toList == s.toList) = true by
          have h1 := unhide HS
          rw [q] at h1
          obtain ⟨y, hy, h2⟩ := List.any_eq_true.1 h1
          exact List.any_eq_true.2 ⟨y, List.mem_of_mem_take hy, h2⟩)
        go_wp2
        go_ret
        exact ⟨ret_bool (unhide HR).symm, rfl⟩
      · have q2 : (x.toList == s.toList) = false := by simpa using q
        have HR := hide ((unhide HS).trans q2)
        clear q
        go_wp2
        go_roundg (n - (j + 1))
        case measure => have := unhide HK; omega
        case rel => exact ⟨j + 1, rfl, by omega, rfl, rfl, unhide HR⟩
    · have hltI : ¬ (j : Int) < (n : Int) := by omega
      have HR := hide (show (l.any fun x => x.toList == s.toList) = false by have := unhide HF; rwa [List.take_of_length_le (by rw [unhide HN]; omega)] at this)
      go_wp2
      go_ret
      exact ⟨ret_bool (unhide HR).symm, rfl⟩
theorem words_any (w : World) : Calls Tryd.prog 26 #[] w fun e w' => e = .returned (.slice (some ⟨w.heap.size, 0, none⟩) 25 25) ∧ StrRow w' w.heap.size wordsL ∧ Keeps w w' := by
  have HB := hide (Blk.new w 9 #[.string ⟨#[68, 69, 70, 73, 78, 73, 84, 73, 79, 78, 83]⟩, .string ⟨#[69, 88, 80, 76, 73, 67, 73, 84]⟩, .string ⟨#[73, 77, 80, 76, 73, 67, 73, 84]⟩, .string ⟨#[65, 85, 84, 79, 77, 65, 84, 73, 67]⟩, .string ⟨#[84, 65, 71, 83]⟩, .string ⟨#[66, 69, 71, 73, 78]⟩, .string ⟨#[69, 78, 68]⟩, .string ⟨#[66, 79, 79, 76, 69, 65, 78]⟩, .string ⟨#[73, 78, 84, 69, 71, 69, 82]⟩, .string ⟨#[69, 78, 85, 77, 69, 82, 65, 84, 69, 68]⟩, .string ⟨#[78, 85, 76, 76]⟩, .string ⟨#[79, 67, 84, 69, 84]⟩, .string ⟨#[83, 84, 82, 73, 78, 71]⟩, .string ⟨#[85, 84, 70, 56, 83, 116, 114, 105, 110, 103]⟩, .string ⟨#[83, 69, 81, 85, 69, 78, 67, 69]⟩, .string ⟨#[83, 69, 84]⟩, .string ⟨#[67, 72, 79, 73, 67, 69]⟩, .string ⟨#[79, 70]⟩, .string ⟨#[79, 80, 84, 73, 79, 78, 65, 76]⟩, .string ⟨#[68, 69, 70, 65, 85, 76, 84]⟩, .string ⟨#[83, 73, 90, 69]⟩, .string ⟨#[77, 73, 78]⟩, .string ⟨#[77, 65, 88]⟩, .string ⟨#[84, 82, 85, 69]⟩, .string ⟨#[70, 65, 76, 83, 69]⟩])
  have HK := hide ((Keeps.refl w).alloc (.cells #[.string ⟨#[68, 69, 70, 73, 78, 73, 84, 73, 79, 78, 83]⟩, .string ⟨#[69, 88, 80, 76, 73, 67, 73, 84]⟩, .string ⟨#[73, 77, 80, 76, 73, 67, 73, 84]⟩, .string ⟨#[65, 85, 84, 79, 77, 65, 84, 73, 67]⟩, .string ⟨#[84, 65, 71, 83]⟩, .string ⟨#[66, 69, 71, 73, 78]⟩, .string ⟨#[69, 78, 68]⟩, .string ⟨#[66, 79, 79, 76, 69, 65, 78]⟩, .string ⟨#[73, 78, 84, 69, 71, 69, 82]⟩, .string ⟨#[69, 78, 85, 77, 69, 82, 65, 84, 69, 68]⟩, .string ⟨#[78, 85, 76, 76]⟩, .string ⟨#[79, 67, 84, 69, 84]⟩, .string ⟨#[83, 84, 82, 73, 78, 71]⟩, .string ⟨#[85, 84, 70, 56, 83, 116, 114, 105, 110, 103]⟩, .string ⟨#[83, 69, 81, 85, 69, 78, 67, 69]⟩, .string ⟨#[83, 69, 84]⟩, .string ⟨#[67, 72, 79, 73, 67, 69]⟩, .string ⟨#[79, 70]⟩, .string ⟨#[79, 80, 84, 73, 79, 78, 65, 76]⟩, .string ⟨#[68, 69, 70, 65, 85, 76, 84]⟩, .string ⟨#[83, 73, 90, 69]⟩, .string ⟨#[77, 73, 78]⟩, .string ⟨#[77, 65, 88]⟩, .string ⟨#[84, 82, 85, 69]⟩, .string ⟨#[70, 65, 76, 83, 69]⟩] 9))
  go_enter Tryd.func26, Tryd.ntmps26
  go_wp2
  go_ret
  refine ⟨rfl, fun k x hk => ?_, unhide HK⟩
  rw [Blk.cell (unhide HB) k]
  have : (#[.string ⟨#[68, 69, 70, 73, 78, 73, 84, 73, 79, 78, 83]⟩, .string ⟨#[69, 88, 80, 76, 73, 67, 73, 84]⟩, .string ⟨#[73, 77, 80, 76, 73, 67, 73, 84]⟩, .string ⟨#[65, 85, 84, 79, 77, 65, 84, 73, 67]⟩, .string ⟨#[84, 65, 71, 83]⟩, .string ⟨#[66, 69, 71, 73, 78]⟩, .string ⟨#[69, 78, 68]⟩, .string ⟨#[66, 79, 79, 76, 69, 65, 78]⟩, .string ⟨#[73, 78, 84, 69, 71, 69, 82]⟩, .string ⟨#[69, 78, 85, 77, 69, 82, 65, 84, 69, 68]⟩, .string ⟨#[78, 85, 76, 76]⟩, .string ⟨#[79, 67, 84, 69, 84]⟩, .string ⟨#[83, 84, 82, 73, 78, 71]⟩, .string ⟨#[85, 84, 70, 56, 83, 116, 114, 105, 110, 103]⟩, .string ⟨#[83, 69, 81, 85, 69, 78, 67, 69]⟩, .string ⟨#[83, 69, 84]⟩, .string ⟨#[67, 72, 79, 73, 67, 69]⟩, .string ⟨#[79, 70]⟩, .string ⟨#[79, 80, 84, 73, 79, 78, 65, 76]⟩, .string ⟨#[68, 69, 70, 65, 85, 76, 84]⟩, .string ⟨#[83, 73, 90, 69]⟩, .string ⟨#[77, 73, 78]⟩, .string ⟨#[77, 65, 88]⟩, .string ⟨#[84, 82, 85, 69]⟩, .string ⟨#[70, 65, 76, 83, 69]⟩] : Array Value) = (wordsL.map Value.string).toArray := rfl
  rw [this, List.getElem?_toArray, List.getElem?_map, hk]; rfl
theorem isWord_any (s : ByteArray) : (wordsL.any fun x => x.toList == s.toList) = isWord s := by
  unfold isWord
  congr 1
  funext x
  rw [ByteArray.toList_eq, ByteArray.toList_eq, Bool.eq_iff_iff, beq_iff_eq, beq_iff_eq]
  exact ⟨Eq.symm, Eq.symm⟩
theorem refWord_any (s : ByteArray) (w : World) : Calls Tryd.prog 14 #[.string s] w fun e w' => e = .returned (.bool (isWord s)) ∧ Keeps w w' := by
  have HW := hide (words_any w)
  go_enter Tryd.func14, Tryd.ntmps14
  go_wp2_with fail
  refine (unhide HW).mono ?_
  rintro e w1 ⟨rfl, hr, hk⟩
  have HK := hide hk
  have HI := hide (inStr_any s w.heap.size wordsL 25 w1 hr (by decide))
  clear hr hk
  go_wp2_with fail
  refine (unhide HI).mono ?_
  rintro e w2 ⟨rfl, rfl⟩
  go_wp2
  go_ret
  exact ⟨ret_bool (isWord_any s), unhide HK⟩
end Go.Proofs.YtknebkncepgppaaDoor
