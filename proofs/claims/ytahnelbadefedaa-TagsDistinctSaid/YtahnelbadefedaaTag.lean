/- Lists of tags in memory, and the contract of slices.Grow at tags. -/
import Derived.Test.YtahnelbadefedaaRows
import Derived.Test.YtahnelbadefedaaBase
import Derived.Lib.AppendZerosOnto
import Derived.Lib.SliceRun
import Derived.WalkKit
namespace Go.Proofs.Ytahnelbadefedaa
open Go.ChangeShapes Go.WideShapes Go.ChangeAt Go.RowKit Go.Lib

def tagCells (t : Int × Int) : List Value := [.int .i64 t.1, .int .i64 t.2]
def TagL (ts : List (Int × Int)) : List Value := ts.flatMap tagCells
theorem tagL_length (ts : List (Int × Int)) : (TagL ts).length = ts.length * 2 := by
  induction ts with
  | nil => rfl
  | cons t ts ih => simp [TagL, tagCells] at ih ⊢; omega
theorem tagL_append (xs ys : List (Int × Int)) : TagL (xs ++ ys) = TagL xs ++ TagL ys := by simp [TagL]
theorem tagL_one (ts : List (Int × Int)) : ∀ u ∈ TagL ts, u.oneCell' = true := by
  intro u hu
  simp only [TagL, List.mem_flatMap, tagCells] at hu
  obtain ⟨t, _, hu⟩ := hu
  simp at hu
  rcases hu with rfl | rfl <;> rfl
/-- The slice '.slice A n c' holds the tags ts. -/
def HoldsT (w : World) (A : Option Addr) (ts : List (Int × Int)) : Prop := Reads w w.heap.size 2 A ts.length (TagL ts)
theorem HoldsT.keeps {w w' : World} {A : Option Addr} {ts : List (Int × Int)} (h : HoldsT w A ts) (hk : Keeps w w') : HoldsT w' A ts := (Reads.keeps h hk (Nat.le_refl _)).more hk.size
theorem HoldsT.nil (w : World) : HoldsT w none [] := ⟨by simp [TagL], fun h => absurd h (by simp)⟩
def GivesT (ts : List (Int × Int)) (w : World) (e : Ending) (w' : World) : Prop :=
  ∃ A c, e = .returned (.slice A ts.length c) ∧ ts.length ≤ c ∧ w'.ownsRow w.heap.size 23 2 (.slice A ts.length c) ts.length (TagL ts) ∧ Keeps w w'

theorem tag_info : (Try.prog.info? 23).map (fun i => (i.zero, i.size, i.bytes)) = some (some (.agg #[.int .i64 0, .int .i64 0]), 2, 16) := by kernel_rfl

def GivesRoom (n : Nat) (w : World) (e : Ending) (w' : World) : Prop :=
  ∃ g cap, e = .returned (.slice (some ⟨g, 0, none⟩) 0 cap) ∧ n ≤ cap ∧ w'.ownsRow w.heap.size 23 2 (.slice (some ⟨g, 0, none⟩) 0 cap) 0 [] ∧ Keeps w w'

set_option maxRecDepth 100000 in
set_option maxHeartbeats 4000000 in
theorem grow_any (n : Nat) (hn : 1 ≤ n) (hn2 : n ≤ 1000000) (w : World) :
    Calls Try.prog 15 #[.slice none 0 0, .int .i64 n] w (GivesRoom n w) := by
  obtain ⟨i0, hi0, hz0, hz1, hz2⟩ := info_parts tag_info
  have hold : (Builtin.firstCells i0.size 0 (.slice none 0 0)).run Try.prog w.drew = .ok #[] w.drew := run_firstCells_none w.drew i0.size 0 0 0
  have hrz : ∀ ty, (Builtin.append_ #[26, 3] ty #[.slice none 0 0, .int .i64 (n : Int)]).run Try.prog w =
      .ok (.slice (some ⟨w.heap.size, 0, none⟩) n (grownCap w n 0 23)) (w.drew.alloc (.cells ((#[] : Array Value) ++ Builtin.zeroCells (Value.agg #[.int .i64 0, .int .i64 0]).cells n ++ Builtin.zeroCells (Value.agg #[.int .i64 0, .int .i64 0]).cells (grownCap w n 0 23 - n)) 23)) := fun ty => by
    have h := Lib.run_append_grow_zeros w 26 3 ty 23 i0 _ .i64 .i64 Try.underlying26 Try.underlying3 hi0 hz0 none 0 0 [] hold n (by omega) (by omega) (by omega) (by omega)
      (by rw [hz2]; omega)
      (by rw [hz2]; exact growslice_fits (by omega) (by omega))
    simpa using h
  have hG : n ≤ grownCap w n 0 23 := grownCap_ge w _ _ _
  have hG2 := grownCap_le_maxLen w n 0 23 (by unfold maxLen; omega)
  have HM := hide hG2
  unfold maxLen at hG2
  generalize grownCap w n 0 23 = G at *
  have hcells : ((#[] : Array Value) ++ Builtin.zeroCells (Value.agg #[.int .i64 0, .int .i64 0]).cells n ++ Builtin.zeroCells (Value.agg #[.int .i64 0, .int .i64 0]).cells (G - n)).size = G * 2 := by
    simp [size_zeroCells, Value.cells]; omega
  generalize ((#[] : Array Value) ++ Builtin.zeroCells (Value.agg #[.int .i64 0, .int .i64 0]).cells n ++ Builtin.zeroCells (Value.agg #[.int .i64 0, .int .i64 0]).cells (G - n)) = cur at *
  have HC := hide hcells
  clear hcells hz1 hz2 hi0 hz0 hold
  go_enter Try.func15, Try.ntmps15
  go_wp2_with (at_builtin; refine Lib.wpList_append_run _ rfl _ _ _ _ rfl _ _ rfl rfl _ _ (hrz _) ?_)
  go_ret
  refine ⟨w.heap.size, G, rfl, hG, ?_, ((Keeps.refl _).drew).alloc _⟩
  exact World.ownsRow_made (base := w.heap.size) (e := 23) (size := 2) w.drew cur G (Nat.le_refl _) (unhide HM) (unhide HC)

end Go.Proofs.Ytahnelbadefedaa
