/- The contracts of bytes.Clone and Writer.Bytes. -/
import Derived.Test.YtgaapigagglgbaaBitsX
import Derived.Lib.SliceRun
namespace Go.Proofs.Ytgaapigagglgbaa
open Go.ChangeShapes Go.WideShapes Go.ChangeAt Go.RowKit

set_option maxHeartbeats 1000000 in
theorem clone_any (A : Option Addr) (xs : List Int) (n c : Nat) (hn : xs.length = n) (hl : n ≤ 10000000) (w : World) (hh : Holds w A xs) :
    Calls Try.prog 59 #[.slice A n c] w (GivesBytes 5 xs w) := by
  obtain ⟨i0, hi0, hz0, hz1, hz2⟩ := info_parts u8_info
  have hnil : ∀ (w : World) (a : Option Addr) (n c n' c' : Nat), (binOp .eql 28 (.slice a n c) (.slice none n' c')).run Try.prog w = .ok (.bool a.isNone) w := fun w a n c n' c' => Lib.run_eql_slice_nil w _ _ a n c n' c' Try.underlying28
  cases A with
  | none =>
    have hx : xs = [] := by
      rcases Nat.eq_zero_or_pos xs.length with h0 | h0
      · exact List.eq_nil_of_length_eq_zero h0
      · obtain ⟨ad, e, _⟩ := hh.2 h0; cases e
    subst hx
    subst hn
    go_enter Try.func59, Try.ntmps59
    go_wp2
    go_ret
    exact ⟨none, 0, rfl, by simp, ⟨by simp, .inl ⟨rfl, rfl⟩⟩, Keeps.refl _⟩
  | some a =>
    have hown0 : (w.alloc (.cells #[] 5)).ownsRow w.heap.size 5 1 (.slice (some ⟨w.heap.size, 0, none⟩) 0 0) 0 [] := by
      simpa using World.ownsRow_lit (base := w.heap.size) (e := 5) (size := 1) w #[] 0 (Nat.le_refl _) (by simp only [maxLen]; omega) (by simp)
    have hrd := hh.keeps ((Keeps.refl w).alloc (.cells #[] 5))
    unfold Holds at hrd
    rw [hn] at hrd
    go_enter Try.func59, Try.ntmps59
    go_wp2_with (at_builtin; go_loud (refine wpList_append_any _ rfl (.tmp 5) (.tmp 6) _ rfl w.heap.size 5 i0 _ 1 1 Try.underlying28 hi0 hz0 hz1 hz2 rfl (by omega) _ 0 [] rfl hown0 _ _ n c _ rfl hrd (ints_oneCell _ _) (by simp only [maxLen]; omega) (by omega) (by rw [World.size_alloc]; omega) ?_; intro v' w1 hown1 hg1 _hat1; have hf : Fresh 5 w w1 v' xs := ⟨by rw [hn]; simpa using hown1, ((Keeps.refl _).alloc _).grown hg1 (fun k hk => by injection hk with hk; subst hk; exact Nat.le_refl _)⟩; have HF := hide hf; clear hf hown1 hg1 _hat1))
    go_ret
    exact (unhide HF).gives
end Go.Proofs.Ytgaapigagglgbaa
