/- Contracts of Span, its reference, Width and its reference, and awake of layer 8. -/
import Derived.Test.YtknmcodpnhdghaaBnd
import Derived.Test.YtknmcodpnhdghaaShelf
namespace Go.Proofs.Ytknmcodpnhdghaa
open Go.ChangeShapes Go.WideShapes Go.ChangeAt Go.RowKit

def spanN (h hl hh : Bool) (l u : Int) : Int := if spanOk h hl hh l u then (u - l) % 18446744073709551616 else 0

theorem ret_two {k : IntKind} {a b : Int} {c d : Bool} (h : a = b) (h2 : c = d) : Ending.returned (.tuple #[.int k a, .bool c]) = .returned (.tuple #[.int k b, .bool d]) := by rw [h, h2]
theorem ck_span (l u : Int) : checkE true true true false l u = if u < l then 11 else 0 := by simp [checkE, crossedB]

theorem sub_u64 (u l : Int) : IntKind.u64.wrap (IntKind.u64.wrap u - IntKind.u64.wrap l) = (u - l) % 18446744073709551616 := by
  simp only [IntKind.wrap_u64]; omega

set_option maxHeartbeats 400000 in
theorem span_any (h hl hh m : Bool) (l u : Int) (w : World) :
    Calls Try.prog 41 #[Con h hl hh m l u] w fun e w' => e = .returned (.tuple #[.int .u64 (spanN h hl hh l u), .bool (spanOk h hl hh l u)]) ∧ Keeps w w' := by
  have H1 : Hid (∀ l u, checkE true true true false l u = if u < l then 11 else 0) := ck_span
  by_cases hlt : u < l <;> cases h <;> cases hl <;> cases hh
  all_goals
    go_enter Try.func41, Try.ntmps41
    go_wp2_with (go_at_call 44; refine (check_any _ _ _ _ _ _ _ _).mono ?_; rintro e w1 ⟨rfl, hb1⟩; obtain ⟨hc1, hf1⟩ := hb1.cells; rw [unhide H1]; first | rw [if_pos hlt] | rw [if_neg hlt])
    go_ret2
    refine ⟨ret_two ?_ ?_, ?_⟩
    · first
        | (simp [spanN, spanOk]; done)
        | (simp [spanN, spanOk, hlt]; done)
        | (rw [sub_u64]; simp [spanN, spanOk]; omega)
    · first
        | (simp [spanOk]; done)
        | (simp [spanOk]; omega)
    · first
        | exact (Keeps.refl _).alloc _
        | exact Keeps.trans ((Keeps.refl _).alloc _) hb1

set_option maxHeartbeats 400000 in
theorem refSpan_any (h hl hh m : Bool) (l u : Int) (w : World) :
    Calls Try.prog 42 #[Con h hl hh m l u] w fun e w' => e = .returned (.tuple #[.int .u64 (spanN h hl hh l u), .bool (spanOk h hl hh l u)]) ∧ Keeps w w' := by
  cases h <;> cases hl <;> cases hh
  all_goals
    go_enter Try.func42, Try.ntmps42
    go_wp2
    all_goals
      go_ret2
      refine ⟨ret_two ?_ ?_, (Keeps.refl _).alloc _⟩
      · first
          | (simp [spanN, spanOk]; done)
          | (simp [spanN, spanOk]; omega)
          | (rw [sub_u64]; simp [spanN, spanOk]; omega)
      · first
          | (simp [spanOk]; done)
          | (simp [spanOk]; omega)

/-- The bits of a number, counted by halving, from the next one on. -/
theorem bitLen_next (n : Nat) (h0 : n ≠ 0) (h : n < 18446744073709551616) : Lib.bitLen n = 1 + Lib.bitLen (n / 2) := Lib.bitLen_half n h0 h

theorem width_any (n : Int) (w : World) (h0 : 0 ≤ n) (h1 : n ≤ 18446744073709551615) :
    Calls Try.prog 48 #[.int .u64 n] w fun e w' => e = .returned (.int .i64 (Lib.bitLen n.toNat)) ∧ w = w' := by
  go_enter Try.func48, Try.ntmps48
  go_wp2_with (go_at_call 72; refine (Try.bits_Len64 _ _ h0 h1).mono ?_; rintro e w1 ⟨rfl, rfl⟩)
  go_ret
  exact ⟨rfl, rfl⟩

theorem bitLen_zero : Lib.bitLen 0 = 0 := rfl

set_option maxHeartbeats 400000 in
theorem refWidth_any (n : Int) (w : World) (h0 : 0 ≤ n) (h1 : n ≤ 18446744073709551615) :
    Calls Try.prog 49 #[.int .u64 n] w fun e w' => e = .returned (.int .i64 (Lib.bitLen n.toNat)) ∧ w = w' := by
  obtain ⟨N, rfl⟩ := Int.eq_ofNat_of_zero_le h0
  have hB := Lib.bitLen_le N 64 (Nat.le_refl _) (by omega)
  go_enter Try.func49, Try.ntmps49
  go_wp2
  go_loop [0, 3] (fun x y => ∃ k m : Nat, k ≤ N ∧ x = .int .u64 k ∧ y = .int .i64 m ∧ m + Lib.bitLen k = Lib.bitLen N) (fun x _ => (intOf x).toNat)
  case atStart => exact ⟨N, 0, Nat.le_refl _, rfl, rfl, by omega⟩
  case round =>
    obtain ⟨k, m, hk, rfl, rfl, hm⟩ := hrel
    have HM := hide hm
    have hm2 : m ≤ 64 := by omega
    clear hm
    by_cases hz : 0 < k
    · go_wp2
      go_round
      case rel => exact ⟨k / 2, m + 1, by omega, congrArg (Value.int IntKind.u64) (by omega), by go_num, by have := bitLen_next k (by omega) (by omega); have := unhide HM; omega⟩
      case measure => simp [intOf]; omega
    · obtain rfl : k = 0 := by omega
      go_wp2
      go_ret
      exact ⟨ret_int (by have := unhide HM; rw [bitLen_zero] at this; omega), rfl⟩

set_option maxHeartbeats 400000 in
theorem awake8_any (w : World) : Calls Try.prog 43 #[] w fun e w' => e = .returned (.bool true) ∧ Keeps w w' := by
  have H1 : Hid (spanN true true true 0 7 = 7) := rfl
  have H2 : Hid (spanOk true true true 0 7 = true) := rfl
  have H3 : Hid (Lib.bitLen (7 : Int).toNat = 3) := rfl
  go_enter Try.func43, Try.ntmps43
  go_wp2_with (first | (go_at_call 41; refine (span_any _ _ _ _ _ _ _).mono ?_; rintro e w1 ⟨rfl, hb1⟩; rw [unhide H1, unhide H2]) | (go_at_call 48; refine (width_any _ _ (by omega) (by omega)).mono ?_; rintro e w2 ⟨rfl, rfl⟩; rw [unhide H3]))
  go_ret
  exact ⟨rfl, hb1⟩

end Go.Proofs.Ytknmcodpnhdghaa
