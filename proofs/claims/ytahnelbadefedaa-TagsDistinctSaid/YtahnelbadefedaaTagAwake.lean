/- awake of layer 9. -/
import Derived.Test.YtahnelbadefedaaWrap
import Derived.Deep.RegionHeld3
import Derived.Lib.SmallJoins
namespace Go.Proofs.Ytahnelbadefedaa
open Go.ChangeShapes Go.WideShapes Go.ChangeAt Go.RowKit

set_option maxHeartbeats 2000000 in
theorem uni8_any (w : World) : Calls Try.prog 6 #[.int .i64 8] w fun e w' => e = .returned (.agg #[.int .i64 0, .int .i64 17]) ∧ Keeps w w' := by
  go_enter Try.func6, Try.ntmps6
  go_wp2
  exact bodyPost_ret (v := .agg #[.int .i64 0, .int .i64 17]) (by simp [results, Try.results6, go_sem]) rfl ⟨rfl, ((Keeps.refl _).alloc _)⟩

theorem tag0_held (w : World) : HoldsT (w.alloc (.cells #[.int .i64 0, .int .i64 2] 23)) (some ⟨w.heap.size, 0, none⟩) [(0, 2)] := by
  have hb := Blk.new w 23 #[.int .i64 0, .int .i64 2]
  refine ⟨by simp [TagL, tagCells], fun _ => ⟨_, rfl, hb.lt, fun j u hu => ?_⟩⟩
  rw [show ((⟨w.heap.size, 0, none⟩ : Addr).add j) = ⟨w.heap.size, j, none⟩ from by unfold Addr.add; split <;> simp_all, hb.cell]
  simpa [TagL, tagCells] using hu

/-- The cells of the first tag. -/
theorem own_first {w : World} {base : Nat} {A : Option Addr} {c : Nat} {t : Int × Int} {ys : List (Int × Int)} (h : w.ownsRow base 23 2 (.slice A (ys.length + 1) c) (ys.length + 1) (TagL (t :: ys))) :
    ∃ g, A = some ⟨g, 0, none⟩ ∧ w.cell? ⟨g, 0, none⟩ = some (.int .i64 t.1) ∧ w.cell? ⟨g, 1, none⟩ = some (.int .i64 t.2) := by
  rcases h.2 with ⟨_, hn⟩ | ⟨g, cap, cur, e, hb, hh, r⟩
  · omega
  · injection e with e1 e2 e3
    subst e1
    refine ⟨g, rfl, ?_, ?_⟩
    · rw [h.cellAt 0 (by omega)]; simp [TagL, tagCells]
    · rw [h.cellAt 1 (by omega)]; simp [TagL, tagCells]

set_option maxRecDepth 100000 in
set_option maxHeartbeats 2000000 in
theorem awake09_any (w : World) : Calls Try.prog 5 #[] w fun e w' => e = .returned (.bool true) ∧ Keeps w w' := by
  have HW : Hid (∀ w A c, HoldsT w A [(0, 2)] → 1 ≤ c → Calls Try.prog 13 #[.slice A 1 c, .int .i64 3, .int .i64 1] w (GivesT2 ([(2, 3)], 0) w)) := by
    intro w A c h hc
    have := wrap_any A [(0, 2)] c 3 1 (by simp) hc w h
    rwa [show wrapT [(0, 2)] 3 1 = ([(2, 3)], 0) from by decide] at this
  have hfd : ∀ w : World, (Instr.field 23 (.agg #[.int .i64 0, .int .i64 17]) 1).run Try.prog w = .ok (.int .i64 17) w := fun _ => by kernel_rfl
  go_enter Try.func5, Try.ntmps5
  go_wp2_with fail
  refine (unhide HW _ _ _ (tag0_held w) (Nat.le_refl _)).mono ?_
  rintro e w1 ⟨A, c, rfl, hc, hown, hk⟩
  obtain ⟨g, rfl, h0, h1⟩ := own_first (ys := []) hown
  replace hk := ((Keeps.refl w).alloc (.cells #[.int .i64 0, .int .i64 2] 23)).trans hk
  clear hown hc
  simp only [List.length_cons, List.length_nil]
  go_wp2_with (go_at_call 6; refine (uni8_any _).mono ?_; rintro e w2 ⟨rfl, hk2⟩)
  go_ret
  exact ⟨rfl, hk.trans hk2⟩

set_option maxHeartbeats 2000000 in
theorem uni2_any (w : World) : Calls Try.prog 6 #[.int .i64 2] w fun e w' => e = .returned (.agg #[.int .i64 0, .int .i64 2]) ∧ Keeps w w' := by
  go_enter Try.func6, Try.ntmps6
  go_wp2
  exact bodyPost_ret (v := .agg #[.int .i64 0, .int .i64 2]) (by simp [results, Try.results6, go_sem]) rfl ⟨rfl, ((Keeps.refl _).alloc _)⟩

end Go.Proofs.Ytahnelbadefedaa
