/- The walk of BitsOctets. -/
import Derived.Test.YtgaapigagglgbaaBitsSt
namespace Go.Proofs.Ytgaapigagglgbaa
open Go.ChangeShapes Go.WideShapes Go.ChangeAt Go.RowKit

theorem WrV.row_ne {base : Nat} {w : World} {g : Nat} {N : Int} {n m room : Nat} {A : Option Addr} {c : Nat} (h : WrV base w g N n m room A c) {g' : Nat} {t : TypeId} {cs : Array Value} (hb : Blk w g' t cs) (ht : 5 ≠ t) : rowOf A ≠ some g' := fun e => by
  rcases h.2.2.2 with ⟨h, _⟩ | ⟨b, _, cur, h, _, hcur, _⟩
  · injection h with h1; subst h1; cases e
  · injection h with h1; subst h1
    injection e with e
    change b = g' at e
    subst e
    unfold Blk at hb
    rw [hcur] at hb
    injection hb with hb; injection hb with _ h2; exact ht h2
theorem WrV.fr {base : Nat} {w w' : World} {g g' : Nat} {row' : Option Nat} {N : Int} {n m room : Nat} {A : Option Addr} {c : Nat} (h : WrV base w g N n m room A c) (hf : Fr g' row' w w') (h1 : g ≠ g') (h2 : row' ≠ some g)
    (h3 : rowOf A ≠ some g') (h4 : ∀ b, rowOf A = some b → row' ≠ some b) : WrV base w' g N n m room A c := by
  refine ⟨h.1, fr_blk hf h.2.1 h1 h2, own_kept h.2.2 fun b e => ?_⟩
  rw [own_row rfl] at e
  exact hf.2.2.2.2 b (h.row_lt b e).2 (fun e2 => h3 (e2 ▸ e)) (h4 b e)
theorem flat_len (ps : List Part) (k : Nat) (L : Nat) (h : ∀ i q, i < k → ps[i]? = some q → q.2.2.length ≤ L) : (flat (ps.take k)).length ≤ L * k := by
  induction k with
  | zero => simp [flat]
  | succ k ih =>
    have h1 := ih (fun i q hi hq => h i q (by omega) hq)
    cases hq : ps[k]? with
    | none =>
      rw [List.take_add_one, hq]
      simp only [Option.toList_none, List.append_nil]
      rw [Nat.mul_succ]; omega
    | some q =>
      rw [flat_takeP ps k q hq, List.length_append]
      have := h k q (by omega) hq
      rw [Nat.mul_succ]; omega

theorem wrap_rangeB (z : Int) : 0 ≤ IntKind.u64.wrap z ∧ IntKind.u64.wrap z ≤ 18446744073709551615 := by
  rw [IntKind.wrap_u64]; omega
theorem cut_offB (c : Int) (n : Nat) (h : 1 ≤ n) : ∃ k : Nat, IntKind.u64.wrap c % (n : Int) = k ∧ k < n := by
  have h0 := Int.emod_nonneg (IntKind.u64.wrap c) (show (n : Int) ≠ 0 by omega)
  have h1 := Int.emod_lt_of_pos (IntKind.u64.wrap c) (show (0 : Int) < n by omega)
  exact ⟨(IntKind.u64.wrap c % (n : Int)).toNat, by omega, by omega⟩

end Go.Proofs.Ytgaapigagglgbaa
