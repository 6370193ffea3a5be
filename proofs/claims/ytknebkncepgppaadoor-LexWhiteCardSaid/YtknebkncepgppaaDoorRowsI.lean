/- Arguments that are slices of ints: what each cell holds. -/
import Derived.Test.YtknebkncepgppaaDoorRows
import Derived.Test.YtknebkncepgppaaDoorBase
import Derived.Deep.Grids
import Derived.ChangeSlices
namespace Go.Proofs.YtknebkncepgppaaDoor
open Go.ChangeShapes Go.WideShapes Go.ChangeAt Go.RowKit Go.Deep

theorem cell_lt1 {w : World} {a : Addr} {v : Value} (h : w.cell? a = some v) : a.block < w.heap.size := by
  rcases Nat.lt_or_ge a.block w.heap.size with h1 | h1
  · exact h1
  · have hn : w.heap[a.block]? = none := Array.getElem?_eq_none h1
    simp [World.cell?, hn] at h
/-- The slice '.slice A n c' holds the one-cell values xs. -/
def Row1 (w : World) (A : Option Addr) (n : Nat) (f : Nat → Value) : Prop := ∀ k, k < n → ∃ b o, A = some ⟨b, o, none⟩ ∧ b < w.heap.size ∧ w.cell? ⟨b, o + k, none⟩ = some (f k)
theorem Row1.keeps {w w' : World} {A : Option Addr} {n : Nat} {f : Nat → Value} (h : Row1 w A n f) (hk : Keeps w w') : Row1 w' A n f := fun k hkn => by
  obtain ⟨b, o, e, hb, hc⟩ := h k hkn
  exact ⟨b, o, e, Nat.lt_of_lt_of_le hb hk.size, (Below.cell (p := ⟨b, _, none⟩) hk hb).trans hc⟩
theorem row1_of {w : World} {x : Addr} {n : Nat} {f : Nat → Value} (h : ∀ i, i < n → w.cell? (x.add i) = some (f i)) : Row1 w (some x) n f := by
  intro k hk
  obtain ⟨b, o, spot⟩ := x
  have h0 := h 0 (by omega)
  rw [show (⟨b, o, spot⟩ : Addr).add 0 = ⟨b, o, spot⟩ from by simp [Addr.add]] at h0
  have hs := World.cell?_spot h0
  simp only at hs
  subst hs
  refine ⟨b, o, rfl, cell_lt1 h0, ?_⟩
  rw [← h k hk]
  congr 1
  unfold Addr.add
  split <;> simp_all
set_option maxRecDepth 100000 in
/-- An argument that is a slice of ints. -/
theorem open_introw {H : Type} {enc : TypeId × Value → H} {W : World} {b0 : Nat} {v : Value} {d : DataW H} {p : List MemPlace}
    (hv : Value.okWide Tryd.prog W .any b0 32 v) (h : DataW.Trod enc Tryd.prog W 0 (fun _ => true) true 32 v d p) :
    ∃ (A : Option Addr) (n c : Nat) (f : Nat → Int), v = .slice A n c ∧ Row1 W A n (fun i => .int .i64 (f i)) ∧ n ≤ maxLen ∧ n ≤ c ∧ ∀ i, i < n → -9223372036854775808 ≤ f i ∧ f i ≤ 9223372036854775807 := by
  obtain ⟨a, n, c, rfl⟩ := okWide_slice Tryd.underlying32 hv
  obtain ⟨fuel, hf⟩ := h
  rcases open_ints Tryd.underlying32 Tryd.underlying3 (by kernel_rfl) hf with ⟨hcs, _⟩ | ⟨x, l, cc, zs, hcs, _, hl, hm, hz, hx, hcell, hwz⟩
  · simp [Value.cells] at hcs
    obtain ⟨rfl, rfl, rfl⟩ := hcs
    exact ⟨none, 0, 0, fun _ => 0, rfl, fun k hk => absurd hk (by omega), by simp, by simp, fun k hk => absurd hk (by omega)⟩
  · simp [Value.cells] at hcs
    obtain ⟨rfl, rfl, rfl⟩ := hcs
    have hzl : zs.length = c := by simpa using hz
    refine ⟨some x, n, c, fun i => zs.getD i 0, rfl, row1_of fun i hi => hcell i (by omega), by omega, hl, fun i hi => ?_⟩
    have := hwz (zs.getD i 0) (by
      rw [show zs.getD i 0 = zs[i]'(by omega) from by simp [show i < zs.length from by omega]]
      exact List.getElem_mem _)
    exact bounds_i64 this
end Go.Proofs.YtknebkncepgppaaDoor
