/- The lexer: the reader's small calls, and the reference's. -/
import Derived.Test.YtckcbgijddglpaaDoorStr
import Derived.Test.YtckcbgijddglpaaDoorLexN2
import Derived.Test.YtckcbgijddglpaaDoorShelf
import Derived.Test.YtckcbgijddglpaaDoorLexLib
import Derived.PlainAid
import Derived.WalkSpells
import Derived.BigQuiet
import Derived.Deep.QuietTactic
namespace Go.Proofs.YtckcbgijddglpaaDoor
open Go.ChangeShapes Go.WideShapes Go.ChangeAt Go.RowKit Go.PlainAid
set_option linter.unusedVariables false

/-- The reader at g stands at a place of the text s; its tokens are the list v. -/
def LX (w : World) (g : Nat) (s : ByteArray) (a : Nat) (v : Value) : Prop := Blk w g 61 #[.string s, .int .i64 (a : Nat), v]
theorem letter_any (c : Int) (w : World) (h0 : 0 ≤ c) (h1 : c ≤ 255) : Calls Tryd.prog 26 #[.int .u8 c] w fun e w' => e = .returned (.bool (isLet c)) ∧ w' = w := by
  unfold isLet
  by_cases a : 97 ≤ c <;> by_cases b : c ≤ 122 <;> by_cases d : 65 ≤ c <;> by_cases f : c ≤ 90 <;>
  (go_enter Tryd.func26, Tryd.ntmps26
   go_wp2
   go_ret
   exact ⟨by simp [a, b, d, f], rfl⟩)
theorem digit_any (c : Int) (w : World) (h0 : 0 ≤ c) (h1 : c ≤ 255) : Calls Tryd.prog 29 #[.int .u8 c] w fun e w' => e = .returned (.bool (isDig c)) ∧ w' = w := by
  unfold isDig
  by_cases a : 48 ≤ c <;> by_cases b : c ≤ 57 <;>
  (go_enter Tryd.func29, Tryd.ntmps29
   go_wp2
   go_ret
   exact ⟨by simp [a, b], rfl⟩)
theorem peek_any (k : Nat) {w : World} {g : Nat} {s : ByteArray} {a : Nat} {v : Value} (h : LX w g s a v) (hk : k ≤ 10) (ha : a ≤ 1000000000) (hs : s.size ≤ 1000000000) :
    Calls Tryd.prog 23 #[.pointer (some ⟨g, 0, none⟩), .int .i64 (k : Nat)] w fun e w' => e = .returned (.int .u8 (bt s (a + k))) ∧ ∃ m, w' = w.drewN m := by
  have hb := get_bt s
  have h0 : w.cell? ⟨g, 0, none⟩ = some (.string s) := Blk.cell h 0
  have h1 : w.cell? ⟨g, 1, none⟩ = some (.int .i64 (a : Nat)) := Blk.cell h 1
  clear h
  by_cases hlt : a + k < s.size
  · go_enter Tryd.func23, Tryd.ntmps23
    go_wp2
    go_quiet (fail)
    go_wp2
    go_quiet (fail)
    go_wp2
    go_ret
    exact ⟨rfl, _, World.drewN_drewN _ _ _⟩
  · have e := bt_end s (k := a + k) (by omega)
    rw [e]
    go_enter Tryd.func23, Tryd.ntmps23
    go_wp2
    go_quiet (fail)
    go_wp2
    go_ret
    exact ⟨rfl, _, rfl⟩
theorem follows_any (x : ByteArray) {w : World} {g : Nat} {s : ByteArray} {a : Nat} {v : Value} (h : LX w g s a v) (ha : a ≤ s.size) (hs : s.size ≤ 1000000000) :
    Calls Tryd.prog 24 #[.pointer (some ⟨g, 0, none⟩), .string x] w fun e w' => e = .returned (.bool (starts s a x)) ∧ ∃ m, w' = w.drewN m := by
  have h0 : w.cell? ⟨g, 0, none⟩ = some (.string s) := Blk.cell h 0
  have h1 : w.cell? ⟨g, 1, none⟩ = some (.int .i64 (a : Nat)) := Blk.cell h 1
  have HP : ∀ w, Calls Tryd.prog 39 #[.string (s.extract a s.size), .string x] w _ := fun w => Tryd.strings_HasPrefix (s.extract a s.size) x w
  have hE : Lib.hasPrefix (s.extract a s.size).data.toList x.data.toList = starts s a x := rfl
  rw [hE] at HP
  clear h hE
  generalize starts s a x = b at HP ⊢
  have HQ := hide HP
  clear HP
  go_enter Tryd.func24, Tryd.ntmps24
  go_wp2
  go_quiet (exact Calls.quiet_of_same (unhide HQ _))
  go_wp2
  go_ret
  exact ⟨rfl, _, rfl⟩
end Go.Proofs.YtckcbgijddglpaaDoor
