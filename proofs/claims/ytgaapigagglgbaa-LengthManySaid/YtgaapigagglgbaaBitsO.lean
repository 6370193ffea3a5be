/- Octets behind bits: numbers alone, and the states of Writer.Octets. -/
import Derived.Test.YtgaapigagglgbaaBitsB
namespace Go.Proofs.Ytgaapigagglgbaa
open Go.ChangeShapes Go.WideShapes Go.ChangeAt Go.RowKit

/-- Octets behind the bits of N. -/
def appB (N : Int) (xs : List Int) : Int := xs.foldl (fun v o => v * 256 + o) N
theorem appB_snoc (N : Int) (xs : List Int) (x : Int) : appB N (xs ++ [x]) = appB N xs * 256 + x := by simp [appB]
theorem appB_app (N : Int) (xs ys : List Int) : appB N (xs ++ ys) = appB (appB N xs) ys := by simp [appB]
theorem lo_one (m : Nat) (N x : Int) (h : 0 ≤ x ∧ x ≤ 255) : lo m N ++ [x] = lo (m + 1) (N * 256 + x) := by
  simp only [lo]
  rw [show (N * 256 + x) / 256 = N from by omega, show (N * 256 + x) % 256 = x from by omega]
theorem appB_lo (xs : List Int) : ∀ (m : Nat) (N : Int), (∀ x ∈ xs, 0 ≤ x ∧ x ≤ 255) → lo m N ++ xs = lo (m + xs.length) (appB N xs) := by
  induction xs with
  | nil => intro m N _; simp [appB]
  | cons x xs ih =>
    intro m N hx
    have e : lo m N ++ x :: xs = (lo m N ++ [x]) ++ xs := by simp
    rw [e, lo_one m N x (hx x (by simp)), ih (m + 1) _ (fun y hy => hx y (by simp [hy]))]
    rw [List.length_cons, show m + 1 + xs.length = m + (xs.length + 1) from by omega]
    rfl
theorem tot_octet (N x : Int) (h0 : 0 ≤ x) (h1 : x ≤ 255) : tot N x 8 = N * 256 + x := by
  unfold tot
  rw [show (2 : Int) ^ 8 = 256 from by decide]
  omega

end Go.Proofs.Ytgaapigagglgbaa
