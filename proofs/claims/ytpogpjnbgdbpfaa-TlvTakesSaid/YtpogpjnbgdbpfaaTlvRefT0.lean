/- What the reference's TakeHead answers: words. -/
import Derived.Test.YtpogpjnbgdbpfaaTlvNum
import Derived.Test.YtpogpjnbgdbpfaaTakeGRef
import Derived.Test.YtpogpjnbgdbpfaaTakeR
namespace Go.Proofs.Ytpogpjnbgdbpfaa
open Go.ChangeShapes Go.WideShapes Go.ChangeAt Go.RowKit

theorem takeHeadF_tag {xs : List Int} {cl nu : Int} {m : Nat} (h : takeTagF xs = ((cl, nu), (m : Int), 0)) :
    takeHeadF xs = if (takeLenF (xs.drop m)).2.2 ≠ 0 then ((0, 0), false, 0, 0, (takeLenF (xs.drop m)).2.2) else ((cl, nu), (xs.getD 0 0 / 32 % 2 * 32 != 0), (takeLenF (xs.drop m)).1, (m : Int) + (takeLenF (xs.drop m)).2.1, 0) := by
  unfold takeHeadF
  rw [h, if_neg (by simp)]
  simp only [Int.toNat_natCast]
theorem takeHeadF_bad {xs : List Int} {cl nu k e : Int} (h : takeTagF xs = ((cl, nu), k, e)) (he : e ≠ 0) : takeHeadF xs = ((0, 0), false, 0, 0, e) := by
  unfold takeHeadF
  rw [h, if_pos he]
theorem takeHeadF_l1 {xs : List Int} {cl nu : Int} {m : Nat} (h : takeTagF xs = ((cl, nu), (m : Int), 0)) (hm : xs.length ≤ m) : takeHeadF xs = ((0, 0), false, 0, 0, 3) := by
  rw [takeHeadF_tag h, show takeLenF (xs.drop m) = (0, 0, 3) from by unfold takeLenF; rw [if_pos (by rw [List.length_drop]; omega)], if_pos (by simp)]
theorem takeLenF_drop {xs : List Int} {m : Nat} {q : Int} (hm : m < xs.length) (hq : xs.getD m 0 = q) : takeLenF (xs.drop m) = if q < 128 then (q, 1, 0)
  else if q = 128 ∨ 136 < q then (0, 0, 4)
  else if ((xs.length - m : Nat) : Int) < 1 + (q - 128) then (0, 0, 3)
  else if (takeU ((xs.drop (m + 1)).take (q - 128).toNat)).2 ≠ 0 ∨ (takeU ((xs.drop (m + 1)).take (q - 128).toNat)).1 < 128 ∨ 2147483647 < (takeU ((xs.drop (m + 1)).take (q - 128).toNat)).1 then (0, 0, 4)
  else ((takeU ((xs.drop (m + 1)).take (q - 128).toNat)).1, 1 + (q - 128), 0) := by
  rw [takeLenF_pos (by rw [List.length_drop]; omega)]
  have e : (xs.drop m).getD 0 0 = q := by rw [← hq]; simp
  rw [e, List.drop_drop, List.length_drop]
end Go.Proofs.Ytpogpjnbgdbpfaa
