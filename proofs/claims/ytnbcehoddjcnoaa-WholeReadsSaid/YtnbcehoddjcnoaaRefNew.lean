/- The reference's New of layer 17; Small, whatever its first bit. -/
import Derived.Test.YtnbcehoddjcnoaaRefSm1
namespace Go.Proofs.Ytnbcehoddjcnoaa
open Go.ChangeShapes Go.WideShapes Go.ChangeAt Go.RowKit

theorem xSmall_any {w : World} {g : Nat} {A : Option Addr} {c : Nat} {xs : List Int} {at_ : Nat} {f : Int} (hR : QV w g A c xs at_ f) (hx : B8 xs) (hl : xs.length ≤ 10000000) (ha : at_ ≤ 8 * xs.length) :
    Calls Try.prog 34 #[.pointer (some ⟨g, 0, none⟩)] w fun e w' => e = .returned (.int .i64 (slV xs at_ f)) ∧ QV w' g A c xs (slA xs at_ f) (slF xs at_ f) ∧ Fr g none w w' := by
  by_cases h0 : rdVal xs at_ f 1 = 0
  · exact xSmall0_any hR hx hl ha h0
  · by_cases hok : f = 0 ∧ at_ + 1 ≤ 8 * xs.length
    · obtain ⟨rfl, h1⟩ := hok
      refine xSmall1_any hR hx hl h1 ?_
      have hr := rd_range xs at_ 1
      rw [Int.pow_one] at hr
      unfold rdVal at h0
      rw [if_pos ⟨rfl, h1⟩] at h0
      omega
    · exact absurd (if_neg hok) h0
set_option maxRecDepth 100000 in
set_option maxHeartbeats 1000000 in
theorem xNew_any (A : Option Addr) (xs : List Int) (n c : Nat) (hn : xs.length = n) (hl : n ≤ 10000000) (w : World) (hh : Holds w A xs) :
    Calls Try.prog 26 #[.slice A n c] w fun e w' => ∃ g A' c', e = .returned (.pointer (some ⟨g, 0, none⟩)) ∧ QV w' g A' c' xs 0 0 ∧ w.heap.size ≤ g ∧ g < w'.heap.size ∧ (∀ b, rowOf A' = some b → w.heap.size ≤ b ∧ b < g) ∧ Keeps w w' := by
  obtain ⟨i0, hi0, hz0, hz1, hz2⟩ := info_parts u8_info
  have hown0 : w.ownsRow w.heap.size 5 1 (.slice none 0 0) 0 [] := World.ownsRow_nil _ _ _ _
  have hrd := hh
  unfold Holds at hrd
  rw [hn] at hrd
  have HRD := hide hrd
  have HN := hide hn
  clear hh hn hrd
  go_enter Try.func26, Try.ntmps26
  go_wp2_with (at_builtin; refine wpList_append_any _ rfl (.const (.slice none 0 0)) (.tmp 3) _ rfl w.heap.size 5 i0 _ 1 1 Try.underlying23 hi0 hz0 hz1 hz2 rfl (by omega) _ 0 [] rfl hown0 _ A n c _ rfl (unhide HRD) (ints_oneCell _ _) (by simp only [maxLen]; omega) (by omega) (by omega) ?_; intro v' w1 hown1 hg1 _hat1; have hf : Fresh 5 w w1 v' xs := ⟨by rw [unhide HN]; simpa using hown1, (Keeps.refl _).grown hg1 (fun k hk => by cases hk)⟩; obtain ⟨B, d, rfl, hcc⟩ := own_form hf.1; have HF := hide hf; clear hf hown1 hg1 _hat1 hcc)
  go_ret
  have hrow : ∀ b, rowOf B = some b → w.heap.size ≤ b ∧ b < w1.heap.size := fun b e => (unhide HF).1.lt b ((own_row rfl).trans e)
  exact ⟨w1.heap.size, B, d, rfl, ⟨Blk.new w1 _ _, (unhide HF).holds.alloc _, fun _ b e => by have := (hrow b e).2; omega⟩, (unhide HF).2.size, by rw [World.size_alloc]; omega, hrow, (unhide HF).2.alloc _⟩
end Go.Proofs.Ytnbcehoddjcnoaa
