/- The contracts of the reference's Signed, Unsigned and Groups. -/
import Derived.Test.YtgaapigagglgbaaOct
namespace Go.Proofs.Ytgaapigagglgbaa
open Go.ChangeShapes Go.WideShapes Go.ChangeAt Go.RowKit

/-- A list of the call's own, growing at its front. -/
def Grows (w wr : World) (out : Value) (xs : List Int) : Prop := wr.ownsRow w.heap.size 5 1 out xs.length (xs.map (Value.int .u8)) ∧ Keeps w wr
theorem grows_one (w : World) (x : Int) : Grows w (w.alloc (.cells #[.int .u8 x] 5)) (.slice (some ⟨w.heap.size, 0, none⟩) 1 1) [x] := by
  have h := World.ownsRow_lit (base := w.heap.size) (e := 5) (size := 1) w #[.int .u8 x] 1 (Nat.le_refl _) (by simp only [maxLen]; omega) (by simp)
  exact ⟨by simpa using h, (Keeps.refl _).alloc _⟩
theorem sAux_q (q : Int) : (q / 128 = 0 ∨ q / 128 = -1) ↔ (-128 ≤ q ∧ q ≤ 127) := by omega

theorem own_one {w wr : World} (hk : w.heap.size ≤ wr.heap.size) (x : Int) :
    (wr.alloc (.cells #[.int .u8 x] 5)).ownsRow w.heap.size 5 1 (.slice (some ⟨wr.heap.size, 0, none⟩) 1 1) 1 [.int .u8 x] := by
  simpa using World.ownsRow_lit (base := w.heap.size) (e := 5) (size := 1) wr #[.int .u8 x] 1 hk (by simp only [maxLen]; omega) (by simp)
theorem grows_read {w wr : World} {A : Option Addr} {n c : Nat} {xs : List Int} (hg : Grows w wr (.slice A n c) xs) (hn : xs.length = n) : Reads wr wr.heap.size 1 A n (xs.map (Value.int .u8)) := by
  subst hn
  exact Reads.of_own hg.1
theorem grows_gives {w wr : World} {A : Option Addr} {n c : Nat} {xs : List Int} (hg : Grows w wr (.slice A n c) xs) (hn : xs.length = n) : GivesBytes 5 xs w (.returned (.slice A n c)) wr := by
  subst hn
  obtain ⟨A', c', e, hc⟩ := own_form hg.1
  injection e with e1 e2 e3
  subst e3
  exact ⟨A, c, rfl, hc, hg⟩
theorem grows_next {w wr w1 : World} {A : Option Addr} {n c : Nat} {xs : List Int} {x : Int} {v' : Value} (hg : Grows w wr (.slice A n c) xs) (hn : xs.length = n)
    (hown : w1.ownsRow w.heap.size 5 1 v' (1 + n) ([Value.int .u8 x] ++ xs.map (Value.int .u8))) (hgr : (wr.alloc (.cells #[.int .u8 x] 5)).grownBy w1 (some wr.heap.size)) :
    ∃ A' c', v' = .slice A' (n + 1) c' ∧ n + 1 ≤ c' ∧ Grows w w1 (.slice A' (n + 1) c') (x :: xs) := by
  subst hn
  rw [Nat.add_comm] at hown
  obtain ⟨A', c', rfl, hc⟩ := own_form hown
  exact ⟨A', c', rfl, hc, by simpa using hown, (hg.2.alloc _).grown hgr (fun k hk => by injection hk with hk; subst hk; exact hg.2.size)⟩

theorem pow_div (v b : Int) (hb : 0 < b) (k : Nat) : v / b ^ k / b = v / b ^ (k + 1) := by
  rw [Int.pow_succ, Int.ediv_ediv_of_nonneg (Int.le_of_lt (Int.pow_pos hb))]

end Go.Proofs.Ytgaapigagglgbaa
