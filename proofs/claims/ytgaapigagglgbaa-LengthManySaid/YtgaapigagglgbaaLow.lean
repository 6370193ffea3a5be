/- The contract of octets.lowest: the lowest octets of a number, as a fresh slice. -/
import Derived.Test.YtgaapigagglgbaaStr
import Derived.Test.YtgaapigagglgbaaNum
import Derived.Laws.MakeOwn
namespace Go.Proofs.Ytgaapigagglgbaa
open Go.ChangeShapes Go.WideShapes Go.ChangeAt Go.RowKit

theorem u8_info : (Try.prog.info? 5).map (fun i => (i.zero, i.size, i.bytes)) = some (some (.int .u8 0), 1, 1) := by kernel_rfl

/-- make([]byte, n). -/
theorem run_make_bytes (n : Nat) (hn : n ≤ 1000000) (w : World) :
    (Instr.makeSlice 28 (.int .i64 (n : Int)) (.int .i64 (n : Int))).run Try.prog w = .ok (.slice (some ⟨w.heap.size, 0, none⟩) n n) (w.alloc (.cells (madeCells #[.int .u8 0] n) 5)) := by
  obtain ⟨i0, hi0, hz0, hz1, hz2⟩ := info_parts u8_info
  have hb : (i0.bytes : Int) * (n : Int) ≤ 281474976710656 := by rw [hz2]; omega
  have hr := run_make (P := Try.prog) w 28 5 i0 (.int .u8 0) Try.underlying28 hi0 hz0 .i64 .i64 n n (by omega) (by omega) hb (by omega)
  simp only [Int.toNat_natCast, hz1, Nat.mul_one] at hr
  exact hr
theorem made_own (w : World) (n : Nat) (hn : n ≤ 1000000) :
    (w.alloc (.cells (madeCells #[.int .u8 0] n) 5)).ownsRow w.heap.size 5 1 (.slice (some ⟨w.heap.size, 0, none⟩) n n) n ((List.replicate n (0 : Int)).map (Value.int .u8)) := by
  have h := World.ownsRow_lit (base := w.heap.size) (e := 5) (size := 1) w (madeCells #[.int .u8 0] n) n (Nat.le_refl _) (by simp only [maxLen]; omega) (by simp [size_madeCells])
  rw [toList_madeCells_one] at h
  simpa using h

/-- Behind j octets that are still to come: what stands there. -/
def lowC (v : Int) (n j : Nat) : List Int := List.replicate j 0 ++ lo (n - j) v
theorem lowC_length (v : Int) (n j : Nat) (h : j ≤ n) : (lowC v n j).length = n := by simp [lowC, lo_length]; omega
theorem lowC_step (v : Int) (n j : Nat) (h : j < n) : (lowC v n (j + 1)).set j (v / 256 ^ (n - (j + 1)) % 256) = lowC v n j := by
  unfold lowC
  rw [show n - j = (n - (j + 1)) + 1 from by omega, lo_head, List.replicate_succ', List.append_assoc, List.set_append]
  simp
theorem lowV_step (v : Int) (n j : Nat) (h : j < n) : v / 256 ^ (n - (j + 1)) / 256 = v / 256 ^ (n - j) := by
  rw [show n - j = (n - (j + 1)) + 1 from by omega, Int.pow_succ, Int.ediv_ediv_of_nonneg (Int.le_of_lt (Int.pow_pos (by omega)))]
theorem lowV_nonneg (v : Int) (k : Nat) (h : 0 ≤ v) : 0 ≤ v / 256 ^ k := Int.ediv_nonneg h (Int.le_of_lt (Int.pow_pos (by omega)))
theorem lowV_le (v : Int) (k : Nat) (h : 0 ≤ v) (h1 : v ≤ 18446744073709551615) : v / 256 ^ k ≤ 18446744073709551615 := by
  have := Int.ediv_le_self (256 ^ k) h
  omega

def LowRel (w wr : World) (v : Int) (n : Nat) (q : Int) : Prop :=
  wr.ownsRow w.heap.size 5 1 (.slice (some ⟨w.heap.size, 0, none⟩) n n) n ((lowC v n (q + 1).toNat).map (Value.int .u8)) ∧ Keeps w wr

theorem low_start (v : Int) (n : Nat) (hn : n ≤ 16) (w : World) : LowRel w (w.alloc (.cells (madeCells #[.int .u8 0] n) 5)) v n ((n : Int) - 1) := by
  have h := made_own w n (by omega)
  refine ⟨?_, (Keeps.refl _).alloc _⟩
  rw [show ((n : Int) - 1 + 1).toNat = n from by omega]
  simpa [lowC, lo] using h
theorem low_step {v : Int} {n j : Nat} {w wr : World} (h : LowRel w wr v n (j : Int)) (hj : j < n) (x : Int) (hx : x = v / 256 ^ (n - (j + 1)) % 256) :
    LowRel w (wr.setCell ⟨w.heap.size, j, none⟩ (.int .u8 x)) v n ((j : Int) - 1) := by
  subst hx
  obtain ⟨h1, h2⟩ := h
  have hs := (h1.stored j (.int .u8 (v / 256 ^ (n - (j + 1)) % 256))).1
  refine ⟨?_, h2.setCell (Nat.le_refl _) _⟩
  rw [show ((j : Int) - 1 + 1).toNat = j from by omega]
  rw [show ((j : Int) + 1).toNat = j + 1 from by omega, ← List.map_set, lowC_step v n j hj] at hs
  exact hs
theorem low_cell {v : Int} {n j : Nat} {w wr : World} (h : LowRel w wr v n (j : Int)) (hj : j < n) :
    (∃ u : Int, wr.cell? ⟨w.heap.size, j, none⟩ = some (.int .u8 u)) ∧ wr.frozen? ⟨w.heap.size, j, none⟩ = false := by
  obtain ⟨h1, h2⟩ := h
  have hc := h1.cellAt j (by omega)
  have hl : j < (lowC v n ((j : Int) + 1).toNat).length := by rw [lowC_length _ _ _ (by omega)]; exact hj
  exact ⟨⟨_, by rw [hc, List.getElem?_map, List.getElem?_eq_getElem hl]; rfl⟩, h1.frozenAt j⟩

end Go.Proofs.Ytgaapigagglgbaa
