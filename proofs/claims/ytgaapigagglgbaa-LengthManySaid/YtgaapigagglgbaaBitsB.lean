/- The contract of Writer.Bytes. -/
import Derived.Test.YtgaapigagglgbaaBitsC
namespace Go.Proofs.Ytgaapigagglgbaa
open Go.ChangeShapes Go.WideShapes Go.ChangeAt Go.RowKit

theorem wr_holds {base : Nat} {w : World} {g : Nat} {N : Int} {n m room : Nat} {A : Option Addr} {c : Nat} (h : WrV base w g N n m room A c) : Holds w A (lo m (N * 2 ^ room)) := by
  have := Reads.of_own h.2.2
  unfold Holds
  rw [lo_length]
  exact this
theorem bytes_any (g base : Nat) (N : Int) (n m room : Nat) (A : Option Addr) (c : Nat) (hm : m ≤ 10000000) (w : World) (hg : WrV base w g N n m room A c) :
    Calls Try.prog 42 #[.pointer (some ⟨g, 0, none⟩)] w (GivesBytes 5 (lo m (N * 2 ^ room)) w) := by
  have hg0 : w.cell? ⟨g, 0, none⟩ = some (.slice A m c) := hg.2.1.cell 0
  have HC := hide (clone_any A (lo m (N * 2 ^ room)) m c (lo_length _ _) hm w (wr_holds hg))
  clear hg
  go_enter Try.func42, Try.ntmps42
  go_wp2_with fail
  with_reducible refine (unhide HC).mono ?_
  rintro e w1 ⟨B, d, rfl, hd, hf⟩
  have HF := hide hf
  clear hf
  rw [lo_length] at hd ⊢
  go_wp2
  go_ret
  exact ⟨B, d, (by show Ending.returned (Value.slice B m d) = _; rw [lo_length]), by rw [lo_length]; exact hd, unhide HF⟩
theorem bytesNil_any (w : World) : Calls Try.prog 42 #[.pointer none] w fun e w' => e = .returned (.slice none 0 0) ∧ w' = w := by
  go_enter Try.func42, Try.ntmps42
  go_wp2
  go_ret
  exact ⟨rfl, rfl⟩
theorem octetsNil_any (A : Option Addr) (n c : Nat) (w : World) : Calls Try.prog 57 #[.pointer none, .slice A n c] w fun e w' => e = .returned (.tuple #[]) ∧ w' = w := by
  go_enter Try.func57, Try.ntmps57
  go_wp2
  refine bodyPost_ret (results_none rfl _ _ _) rfl ?_
  exact ⟨rfl, rfl⟩
end Go.Proofs.Ytgaapigagglgbaa
