/- Slices of bytes as strings: what 'string(b)' gives, and when two are alike. -/
import Derived.Test.YtckcbgijddglpaaGreatDoorRows
import Derived.Test.YtckcbgijddglpaaGreatDoorBase
import Derived.Laws.BytesArg
import Derived.Laws.BytesString
namespace Go.Proofs.YtckcbgijddglpaaGreatDoor
open Go.ChangeShapes Go.WideShapes Go.ChangeAt Go.RowKit

theorem Holds.str {P : Program} {w : World} {A : Option Addr} {xs : List Int} (h : Holds w A xs) {src e dst : TypeId} (hs : P.underlying src = some (.slice e)) (he : P.underlying e = some (.int .u8)) (hd : P.underlying dst = some .string) (c : Nat) :
    (convert src dst (.slice A xs.length c)).run P w = .ok (.string (strOfNums xs)) w := by
  cases xs with
  | nil =>
    rw [run_convert_bytes_string w src dst e _ _ c hs he hd]
    cases A <;> simp [Conv.bytesToString, loadCells] <;> rfl
  | cons x xs =>
    obtain ⟨b, o, rfl, _⟩ := h.at_ (k := 0) (by simp)
    refine run_convert_bytes_arg w src e hs he b o _ c (x :: xs) rfl (fun i hi => ?_) dst hd
    obtain ⟨b', o', e', hc⟩ := h.at_ (k := i) hi
    injection e' with e'; injection e' with e1 e2 e3
    subst e1; subst e2
    exact hc

/-- All numbers are bytes. -/
def Bytes8 (xs : List Int) : Prop := ∀ x ∈ xs, 0 ≤ x ∧ x ≤ 255

theorem byte_inj {x y : Int} (hx : 0 ≤ x ∧ x ≤ 255) (hy : 0 ≤ y ∧ y ≤ 255) (h : UInt8.ofNat x.toNat = UInt8.ofNat y.toNat) : x = y := by
  have := congrArg UInt8.toNat h
  simp only [UInt8.toNat_ofNat'] at this
  omega

theorem bytes_inj : ∀ (xs ys : List Int), Bytes8 xs → Bytes8 ys → (xs.map fun n => UInt8.ofNat n.toNat) = (ys.map fun n => UInt8.ofNat n.toNat) → xs = ys
  | [], [], _, _, _ => rfl
  | [], _ :: _, _, _, h => by simp at h
  | _ :: _, [], _, _, h => by simp at h
  | x :: xs, y :: ys, hx, hy, h => by
    simp only [List.map_cons, List.cons.injEq] at h
    rw [byte_inj (hx x (by simp)) (hy y (by simp)) h.1, bytes_inj xs ys (fun z hz => hx z (by simp [hz])) (fun z hz => hy z (by simp [hz])) h.2]

theorem str_inj {xs ys : List Int} (hx : Bytes8 xs) (hy : Bytes8 ys) : (strOfNums xs = strOfNums ys) ↔ xs = ys := by
  constructor
  · intro h
    exact bytes_inj xs ys hx hy (by rw [← strOfNums_data, ← strOfNums_data, h])
  · rintro rfl; rfl

theorem str_toList (xs : List Int) : (strOfNums xs).toList = xs.map fun n => UInt8.ofNat n.toNat := by rw [ByteArray.toList_eq, strOfNums_data]
theorem str_beq {xs ys : List Int} (hx : Bytes8 xs) (hy : Bytes8 ys) : ((strOfNums xs).toList == (strOfNums ys).toList) = decide (xs = ys) := by
  rw [str_toList, str_toList]
  by_cases h : xs = ys
  · subst h; simp
  · rw [decide_eq_false h, beq_eq_false_iff_ne]
    exact fun e => h (bytes_inj xs ys hx hy e)

set_option maxHeartbeats 400000 in
theorem sameBytes_any (A B : Option Addr) (xs ys : List Int) (c d : Nat) (w : World) (ha : Holds w A xs) (hb : Holds w B ys) (hx : Bytes8 xs) (hy : Bytes8 ys) :
    Calls Tryz.prog 95 #[.slice A xs.length c, .slice B ys.length d] w fun e w' => e = .returned (.bool (decide (xs = ys))) ∧ w = w' := by
  have ka := ha.str Tryz.underlying41 Tryz.underlying5 Tryz.underlying9 c
  have kb := hb.str Tryz.underlying41 Tryz.underlying5 Tryz.underlying9 d
  have HE := hide (str_beq hx hy)
  clear ha hb hx hy
  go_enter Tryz.func95, Tryz.ntmps95
  go_wp2
  go_ret
  exact ⟨ret_bool (unhide HE), rfl⟩

end Go.Proofs.YtckcbgijddglpaaGreatDoor
