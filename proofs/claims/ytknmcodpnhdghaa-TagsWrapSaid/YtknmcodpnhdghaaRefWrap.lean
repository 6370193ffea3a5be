/- The contract of the reference's Wrap. -/
import Derived.Test.YtknmcodpnhdghaaWrap
namespace Go.Proofs.Ytknmcodpnhdghaa
open Go.ChangeShapes Go.WideShapes Go.ChangeAt Go.RowKit

theorem one_own (w : World) (n : Int) : (w.alloc (.cells #[.int .i64 2, .int .i64 n] 71)).ownsRow w.heap.size 71 2 (.slice (some ⟨w.heap.size, 0, none⟩) 1 1) 1 (TagL [(2, n)]) := by
  simpa [TagL, tagCells] using World.ownsRow_lit (base := w.heap.size) (e := 71) (size := 2) w #[.int .i64 2, .int .i64 n] 1 (Nat.le_refl _) (by simp only [maxLen]; omega) (by simp)
theorem refwrap_end {w w1 : World} {n : Int} {v' : Value} {ys : List (Int × Int)} {o : Obj} (hown : w1.ownsRow w.heap.size 71 2 v' (1 + ys.length) (TagL [(2, n)] ++ TagL ys))
    (hg : (w.alloc o).grownBy w1 (some w.heap.size)) : ∃ A c, v' = .slice A (ys.length + 1) c ∧ GivesT2 ((2, n) :: ys, 0) w (.returned (.tuple #[.slice A (ys.length + 1) c, .int .i64 0])) w1 := by
  rw [← tagL_append, Nat.add_comm] at hown
  obtain ⟨A, c, rfl, hc⟩ := own_form2 hown
  exact ⟨A, c, rfl, A, c, rfl, hc, hown, ((Keeps.refl _).alloc _).grown hg (fun k hk => by injection hk with hk; omega)⟩

set_option maxRecDepth 100000 in
set_option maxHeartbeats 4000000 in
theorem refWrap_bad (A : Option Addr) (ts : List (Int × Int)) (c : Nat) (number mode : Int) (h : number < 0 ∨ 268435456 < number) (w : World) :
    Calls Try.prog 59 #[.slice A ts.length c, .int .i64 number, .int .i64 mode] w (GivesT2 (wrapT ts number mode) w) := by
  have HW : Hid (wrapT ts number mode = ([], 12)) := by unfold wrapT; rw [if_pos h]; rfl
  by_cases h0 : number < 0
  · clear h
    go_enter Try.func59, Try.ntmps59
    go_wp2
    go_ret2
    rw [unhide HW]; exact givesT2_nil w w 12 (Keeps.refl _)
  · have h1 : 268435456 < number := by omega
    clear h
    go_enter Try.func59, Try.ntmps59
    go_wp2
    go_ret2
    rw [unhide HW]; exact givesT2_nil w w 12 (Keeps.refl _)

set_option maxRecDepth 100000 in
set_option maxHeartbeats 4000000 in
theorem refWrap_none (A : Option Addr) (c : Nat) (number : Int) (h0 : 0 ≤ number) (h1 : number ≤ 268435456) (w : World) :
    Calls Try.prog 59 #[.slice A 0 c, .int .i64 number, .int .i64 1] w (GivesT2 (wrapT [] number 1) w) := by
  have HW : Hid (wrapT [] number 1 = ([], 12)) := by unfold wrapT; rw [if_neg (by omega), if_pos rfl]; rfl
  go_enter Try.func59, Try.ntmps59
  go_wp2
  go_ret2
  rw [unhide HW]; exact givesT2_nil w w 12 (Keeps.refl _)

set_option maxRecDepth 100000 in
set_option maxHeartbeats 4000000 in
theorem refWrap_expl (A : Option Addr) (ts : List (Int × Int)) (c : Nat) (number mode : Int) (h0 : 0 ≤ number) (h1 : number ≤ 268435456) (hm : mode ≠ 1) (hl : ts.length ≤ 5000) (w : World) (hh : HoldsT w A ts) :
    Calls Try.prog 59 #[.slice A ts.length c, .int .i64 number, .int .i64 mode] w (GivesT2 (wrapT ts number mode) w) := by
  obtain ⟨i0, hi0, hz0, hz1, hz2⟩ := info_parts tag_info
  have HW : Hid (wrapT ts number mode = ((2, number) :: ts, 0)) := by unfold wrapT; rw [if_neg (by omega), if_neg hm]; rfl
  have e1 : (mode == 1) = false := beq_eq_false_iff_ne.2 hm
  have hread := HoldsT.keeps hh ((Keeps.refl _).alloc (.cells #[.int .i64 2, .int .i64 number] 71))
  clear hm
  go_enter Try.func59, Try.ntmps59
  go_wp2_with (at_builtin; refine wpList_append_any _ rfl (.tmp 33) (.tmp 34) _ rfl w.heap.size 71 i0 _ 2 16 Try.underlying73 hi0 hz0 hz1 hz2 rfl (by omega) _ 1 _ rfl (one_own w number) _ A ts.length c (TagL ts) rfl hread (tagL_one _) (by simp only [maxLen]; omega) (by omega) (by simp) ?_; intro v' w1 hown1 hg1 hat1)
  obtain ⟨A1, c1, rfl, hr⟩ := refwrap_end hown1 hg1
  have HR := hide hr
  clear hr hown1 hg1 hat1 hread
  go_wp2
  go_ret2
  rw [unhide HW]
  exact unhide HR

set_option maxRecDepth 100000 in
set_option maxHeartbeats 4000000 in
theorem refWrap_impl (A : Option Addr) (t : Int × Int) (ys : List (Int × Int)) (c : Nat) (number : Int) (h0 : 0 ≤ number) (h1 : number ≤ 268435456) (hl : ys.length ≤ 5000) (hc : ys.length + 1 ≤ c) (w : World) (hh : HoldsT w A (t :: ys)) :
    Calls Try.prog 59 #[.slice A (ys.length + 1) c, .int .i64 number, .int .i64 1] w (GivesT2 (wrapT (t :: ys) number 1) w) := by
  obtain ⟨i0, hi0, hz0, hz1, hz2⟩ := info_parts tag_info
  have HW : Hid (wrapT (t :: ys) number 1 = ((2, number) :: ys, 0)) := by unfold wrapT; rw [if_neg (by omega), if_pos rfl]; rfl
  obtain ⟨b, o, rfl, ht⟩ := hh.first
  clear hh
  have e0 : ((ys.length : Int) + 1 == 0) = false := beq_eq_false_iff_ne.2 (by omega)
  by_cases hc1 : c = 1
  · have hy : ys = [] := List.eq_nil_of_length_eq_zero (by omega)
    subst hy
    subst hc1
    have hread : HoldsT (w.alloc (.cells #[.int .i64 2, .int .i64 number] 71)) (some ⟨b, o, none⟩) [] := HoldsT.empty _ _
    go_enter Try.func59, Try.ntmps59
    go_wp2_with (at_builtin; refine wpList_append_any _ rfl (.tmp 29) (.tmp 31) _ rfl w.heap.size 71 i0 _ 2 16 Try.underlying73 hi0 hz0 hz1 hz2 rfl (by omega) _ 1 _ rfl (one_own w number) _ (some ⟨b, o, none⟩) 0 0 (TagL []) rfl hread (tagL_one _) (by simp only [maxLen]; omega) (by omega) (by simp) ?_; intro v' w1 hown1 hg1 hat1)
    obtain ⟨A1, c1, rfl, hr⟩ := refwrap_end (ys := []) hown1 hg1
    have HR := hide hr
    clear hr hown1 hg1 hat1 hread
    go_wp2
    go_ret2
    rw [unhide HW]
    exact unhide HR
  · have hcc : 1 < c := by omega
    have hread := HoldsT.keeps ht ((Keeps.refl _).alloc (.cells #[.int .i64 2, .int .i64 number] 71))
    go_enter Try.func59, Try.ntmps59
    go_wp2_with (at_builtin; refine wpList_append_any _ rfl (.tmp 29) (.tmp 31) _ rfl w.heap.size 71 i0 _ 2 16 Try.underlying73 hi0 hz0 hz1 hz2 rfl (by omega) _ 1 _ rfl (one_own w number) _ (some ⟨b, o + 2, none⟩) ys.length (c - 1) (TagL ys) rfl hread (tagL_one _) (by simp only [maxLen]; omega) (by omega) (by simp) ?_; intro v' w1 hown1 hg1 hat1)
    obtain ⟨A1, c1, rfl, hr⟩ := refwrap_end hown1 hg1
    have HR := hide hr
    clear hr hown1 hg1 hat1 hread
    go_wp2
    go_ret2
    rw [unhide HW]
    exact unhide HR

theorem refWrap_any (A : Option Addr) (ts : List (Int × Int)) (c : Nat) (number mode : Int) (hl : ts.length ≤ 5000) (hc : ts.length ≤ c) (w : World) (hh : HoldsT w A ts) :
    Calls Try.prog 59 #[.slice A ts.length c, .int .i64 number, .int .i64 mode] w (GivesT2 (wrapT ts number mode) w) := by
  by_cases hb : number < 0 ∨ 268435456 < number
  · exact refWrap_bad A ts c number mode hb w
  · by_cases hm : mode = 1
    · subst hm
      cases ts with
      | nil => exact refWrap_none A c number (by omega) (by omega) w
      | cons t ys => exact refWrap_impl A t ys c number (by omega) (by omega) (by simp at hl; omega) hc w hh
    · exact refWrap_expl A ts c number mode (by omega) (by omega) hm hl w hh

end Go.Proofs.Ytknmcodpnhdghaa
