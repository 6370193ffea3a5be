/- The lexer: the reader's small calls, and the reference's. -/
import Derived.Test.YtckcbgijddglpaaGreatDoorStr
import Derived.Test.YtckcbgijddglpaaGreatDoorLexN2
import Derived.Test.YtckcbgijddglpaaGreatDoorShelf
import Derived.Test.YtckcbgijddglpaaGreatDoorLexLib
import Derived.PlainAid
import Derived.WalkSpells
import Derived.BigQuiet
import Derived.Deep.QuietTactic
namespace Go.Proofs.YtckcbgijddglpaaGreatDoor
open Go.ChangeShapes Go.WideShapes Go.ChangeAt Go.RowKit Go.PlainAid
set_option linter.unusedVariables false

/-- The reader at g stands at a place of the text s; its tokens are the list v. -/
def LX (w : World) (g : Nat) (s : ByteArray) (a : Nat) (v : Value) : Prop := Blk w g 80 #[.string s, .int .i64 (a : Nat), v]
theorem letter_any (c : Int) (w : World) (h0 : 0 ≤ c) (h1 : c ≤ 255) : Calls Tryz.prog 57 #[.int .u8 c] w fun e w' => e = .returned (.bool (isLet c)) ∧ w' = w := by
  unfold isLet
  by_cases a : 97 ≤ c <;> by_cases b : c ≤ 122 <;> by_cases d : 65 ≤ c <;> by_cases f : c ≤ 90 <;>
  (go_enter Tryz.func57, Tryz.ntmps57
   go_wp2
   go_ret
   exact ⟨by simp [a, b, d, f], rfl⟩)
theorem digit_any (c : Int) (w : World) (h0 : 0 ≤ c) (h1 : c ≤ 255) : Calls Tryz.prog 60 #[.int .u8 c] w fun e w' => e = .returned (.bool (isDig c)) ∧ w' = w := by
  unfold isDig
  by_cases a : 48 ≤ c <;> by_cases b : c ≤ 57 <;>
  (go_enter Tryz.func60, Tryz.ntmps60
   go_wp2
   go_ret
   exact ⟨by simp [a, b], rfl⟩)
theorem refLetter_any (c : Int) (w : World) (h0 : 0 ≤ c) (h1 : c ≤ 255) : Calls Tryz.prog 46 #[.int .u8 c] w fun e w' => e = .returned (.bool (isLet c)) ∧ w' = w := by
  unfold isLet
  by_cases a : 97 ≤ c <;> by_cases b : c ≤ 122 <;> by_cases d : 65 ≤ c <;> by_cases f : c ≤ 90 <;>
  (go_enter Tryz.func46, Tryz.ntmps46
   go_wp2
   go_ret
   exact ⟨by simp [a, b, d, f], rfl⟩)
theorem refDigit_any (c : Int) (w : World) (h0 : 0 ≤ c) (h1 : c ≤ 255) : Calls Tryz.prog 49 #[.int .u8 c] w fun e w' => e = .returned (.bool (isDig c)) ∧ w' = w := by
  unfold isDig
  by_cases a : 48 ≤ c <;> by_cases b : c ≤ 57 <;>
  (go_enter Tryz.func49, Tryz.ntmps49
   go_wp2
   go_ret
   exact ⟨by simp [a, b], rfl⟩)
theorem peek_any (k : Nat) {w : World} {g : Nat} {s : ByteArray} {a : Nat} {v : Value} (h : LX w g s a v) (hk : k ≤ 10) (ha : a ≤ 1000000000) (hs : s.size ≤ 1000000000) :
    Calls Tryz.prog 54 #[.pointer (some ⟨g, 0, none⟩), .int .i64 (k : Nat)] w fun e w' => e = .returned (.int .u8 (bt s (a + k))) ∧ ∃ m, w' = w.drewN m := by
  have hb := get_bt s
  have h0 : w.cell? ⟨g, 0, none⟩ = some (.string s) := Blk.cell h 0
  have h1 : w.cell? ⟨g, 1, none⟩ = some (.int .i64 (a : Nat)) := Blk.cell h 1
  clear h
  by_cases hlt : a + k < s.size
  · go_enter Tryz.func54, Tryz.ntmps54
    go_wp2
    go_quiet (fail)
    go_wp2
    go_quiet (fail)
    go_wp2
    go_ret
    exact ⟨rfl, _, World.drewN_drewN _ _ _⟩
  · have e := bt_end s (k := a + k) (by omega)
    rw [e]
    go_enter Tryz.func54, Tryz.ntmps54
    go_wp2
    go_quiet (fail)
    go_wp2
    go_ret
    exact ⟨rfl, _, rfl⟩
theorem refAt_any (s : ByteArray) (i : Nat) (w : World) (hi : i ≤ 1000000000) (hs : s.size ≤ 1000000000) :
    Calls Tryz.prog 45 #[.string s, .int .i64 (i : Nat)] w fun e w' => e = .returned (.int .u8 (bt s i)) ∧ ∃ m, w' = w.drewN m := by
  have hb := get_bt s
  by_cases hlt : i < s.size
  · have h2 : (i : Int) < (s.size : Int) := by omega
    go_enter Tryz.func45, Tryz.ntmps45
    go_wp2
    go_ret
    exact ⟨rfl, 0, rfl⟩
  · have e := bt_end s (k := i) (by omega)
    have h2 : ¬ (i : Int) < (s.size : Int) := by omega
    rw [e]
    go_enter Tryz.func45, Tryz.ntmps45
    go_wp2
    go_ret
    exact ⟨rfl, 0, rfl⟩
theorem follows_any (x : ByteArray) {w : World} {g : Nat} {s : ByteArray} {a : Nat} {v : Value} (h : LX w g s a v) (ha : a ≤ s.size) (hs : s.size ≤ 1000000000) :
    Calls Tryz.prog 55 #[.pointer (some ⟨g, 0, none⟩), .string x] w fun e w' => e = .returned (.bool (starts s a x)) ∧ ∃ m, w' = w.drewN m := by
  have h0 : w.cell? ⟨g, 0, none⟩ = some (.string s) := Blk.cell h 0
  have h1 : w.cell? ⟨g, 1, none⟩ = some (.int .i64 (a : Nat)) := Blk.cell h 1
  have HP : ∀ w, Calls Tryz.prog 81 #[.string (s.extract a s.size), .string x] w _ := fun w => Tryz.strings_HasPrefix (s.extract a s.size) x w
  have hE : Lib.hasPrefix (s.extract a s.size).data.toList x.data.toList = starts s a x := rfl
  rw [hE] at HP
  clear h hE
  generalize starts s a x = b at HP ⊢
  have HQ := hide HP
  clear HP
  go_enter Tryz.func55, Tryz.ntmps55
  go_wp2
  go_quiet (exact Calls.quiet_of_same (unhide HQ _))
  go_wp2
  go_ret
  exact ⟨rfl, _, rfl⟩
end Go.Proofs.YtckcbgijddglpaaGreatDoor
