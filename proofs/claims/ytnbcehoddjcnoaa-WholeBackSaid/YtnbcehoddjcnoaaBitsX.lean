/- The contracts of Writer.Bit, Len and Bytes. -/
import Derived.Test.YtnbcehoddjcnoaaBitsW
namespace Go.Proofs.Ytnbcehoddjcnoaa
open Go.ChangeShapes Go.WideShapes Go.ChangeAt Go.RowKit

theorem len_any (g base : Nat) (N : Int) (n m room : Nat) (A : Option Addr) (c : Nat) (w : World) (hg : WrV base w g N n m room A c) :
    Calls Try.prog 54 #[.pointer (some ⟨g, 0, none⟩)] w fun e w' => e = .returned (.int .i64 (n : Nat)) ∧ w' = w := by
  have hg1 : w.cell? ⟨g, 1, none⟩ = some (.int .i64 n) := hg.2.1.cell 1
  clear hg
  go_enter Try.func54, Try.ntmps54
  go_wp2
  go_ret
  exact ⟨rfl, rfl⟩
theorem lenNil_any (w : World) : Calls Try.prog 54 #[.pointer none] w fun e w' => e = .returned (.int .i64 0) ∧ w' = w := by
  go_enter Try.func54, Try.ntmps54
  go_wp2
  go_ret
  exact ⟨rfl, rfl⟩
theorem bit_any (x : Int) (g base : Nat) (N0 : Int) (n0 m0 room0 : Nat) (A0 : Option Addr) (c0 : Nat) (hn0 : n0 ≤ 10000000) (w : World) (hb : base ≤ w.heap.size) (hg : WrV base w g N0 n0 m0 room0 A0 c0) (hroom : room0 < 8) :
    Calls Try.prog 77 #[.pointer (some ⟨g, 0, none⟩), .int .i64 x] w fun e w' => e = .returned (.tuple #[]) ∧ BitsR base w g N0 (if x = 0 then 0 else 1) n0 1 A0 0 w' := by
  have H0 := hide (bits_any 0 1 g base N0 n0 m0 room0 1 A0 c0 (by omega) (by omega) (by omega) hn0 w hb hg hroom)
  have H1 := hide (bits_any 1 1 g base N0 n0 m0 room0 1 A0 c0 (by omega) (by omega) (by omega) hn0 w hb hg hroom)
  clear hg
  by_cases hx : x = 0
  · subst hx
    rw [if_pos rfl]
    go_enter Try.func77, Try.ntmps77
    go_wp2_with fail
    with_reducible refine (unhide H0).mono ?_
    rintro e w1 ⟨rfl, hR⟩
    have HR := hide hR
    clear hR
    go_wp2
    go_end0
    exact ⟨rfl, unhide HR⟩
  · rw [if_neg hx]
    have e1 : (x == 0) = false := beq_eq_false_iff_ne.2 hx
    clear hx
    go_enter Try.func77, Try.ntmps77
    go_wp2_with fail
    with_reducible refine (unhide H1).mono ?_
    rintro e w1 ⟨rfl, hR⟩
    have HR := hide hR
    clear hR
    go_wp2
    go_end0
    exact ⟨rfl, unhide HR⟩
theorem bitNil_any (x : Int) (w : World) : Calls Try.prog 77 #[.pointer none, .int .i64 x] w fun e w' => e = .returned (.tuple #[]) ∧ w' = w := by
  by_cases hx : x = 0
  · subst hx
    go_enter Try.func77, Try.ntmps77
    go_wp2_with fail
    refine (bitsNil_any _ _ _).mono ?_
    rintro e w1 ⟨rfl, rfl⟩
    go_wp2
    go_end0
    exact ⟨rfl, rfl⟩
  · have e1 : (x == 0) = false := beq_eq_false_iff_ne.2 hx
    clear hx
    go_enter Try.func77, Try.ntmps77
    go_wp2_with fail
    refine (bitsNil_any _ _ _).mono ?_
    rintro e w1 ⟨rfl, rfl⟩
    go_wp2
    go_end0
    exact ⟨rfl, rfl⟩
end Go.Proofs.Ytnbcehoddjcnoaa
