/- How long an argument that is a slice can be: what the form reaches. -/
import Derived.Test.YtahnelbadefedaaTagArgs
import Derived.SizedLaws
import Derived.Lib.SmallJoins
namespace Go.Proofs.Ytahnelbadefedaa
open Go.ChangeShapes Go.WideShapes Go.ChangeAt Go.RowKit

theorem sized_len {H : Type} {enc : TypeId × Value → H} {P : Program} {ts : List TypeId} {ds : List (DataW H)} (h : (DataW.weightsEach P ts ds).all (· ≤ reachBytes) = true) {j : Nat} {t e : TypeId} {d : DataW H} (ht : ts[j]? = some t) (hd : ds[j]? = some d)
    (hu : P.underlying t = some (.slice e)) {w : World} {b : Nat} {sp : Nat → Bool} {held : Bool} {a : Option Addr} {len cap : Nat} {ps : List MemPlace} (hT : DataW.Trod enc P w b sp held t (.slice a len cap) d ps) : len * P.bytesOf e ≤ reachBytes := by
  have hl := Joins.sliceLen_Trod hu hT
  cases d with
  | slice el spare =>
    have h1 := sized_slice h ht hd hu
    have : el.length = len := hl
    rw [← this]
    exact Nat.le_trans (Nat.mul_le_mul_right _ (by omega)) h1
  | _ =>
    have : 0 = len := hl
    rw [← this]; simp
theorem tags_sized {n : Nat} (h : n * Try.prog.bytesOf 23 ≤ reachBytes) : n ≤ 100000000000000 := by
  rw [show Try.prog.bytesOf 23 = 16 from by kernel_rfl] at h
  unfold reachBytes at h
  omega
end Go.Proofs.Ytahnelbadefedaa
