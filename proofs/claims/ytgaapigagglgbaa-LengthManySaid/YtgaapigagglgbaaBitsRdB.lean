/- The contracts of a reader's Left, Err, Bits, Bit and End, and of New. -/
import Derived.Test.YtgaapigagglgbaaBitsRdR
namespace Go.Proofs.Ytgaapigagglgbaa
open Go.ChangeShapes Go.WideShapes Go.ChangeAt Go.RowKit
variable {t : TypeId}

/-- Where a reader of T bits stands, and its fault, behind n bits asked for. -/
def rdAt (T at_ : Nat) (f : Int) (n : Nat) : Nat := if f = 0 ∧ at_ + n ≤ T then at_ + n else at_
def rdF (T at_ : Nat) (f : Int) (n : Nat) : Int := if f = 0 then (if at_ + n ≤ T then 0 else 3) else f
def rdVal (xs : List Int) (at_ : Nat) (f : Int) (n : Nat) : Int := if f = 0 ∧ at_ + n ≤ 8 * xs.length then rd xs at_ n else 0
theorem rdAt_le {T at_ : Nat} {f : Int} {n : Nat} (h : at_ ≤ T) : rdAt T at_ f n ≤ T := by unfold rdAt; split <;> omega

section
variable {w : World} {g : Nat} {A : Option Addr} {c : Nat} {xs : List Int} {at_ : Nat} {f : Int}
theorem rdLeft_any (hR : RV t w g A c xs at_ f) (hl : xs.length ≤ 10000000) (ha : at_ ≤ 8 * xs.length) :
    Calls Try.prog 50 #[.pointer (some ⟨g, 0, none⟩)] w fun e w' => e = .returned (.int .i64 ((8 * xs.length - at_ : Nat) : Int)) ∧ w' = w.drew := by
  have HL := hide (left_any g _ A xs.length c at_ _ w hR.1 hl ha)
  clear hR
  go_enter Try.func50, Try.ntmps50
  go_wp2_with fail
  with_reducible refine (unhide HL).mono ?_
  rintro e w1 ⟨rfl, rfl⟩
  go_wp2
  go_ret
  exact ⟨rfl, rfl⟩
theorem rdErr_any (hR : RV t w g A c xs at_ f) :
    Calls Try.prog 60 #[.pointer (some ⟨g, 0, none⟩)] w fun e w' => e = .returned (.int .i64 f) ∧ w' = w := by
  have hg2 : w.cell? ⟨g, 2, none⟩ = some (.int .i64 f) := hR.1.cell 2
  clear hR
  go_enter Try.func60, Try.ntmps60
  go_wp2
  go_ret
  exact ⟨rfl, rfl⟩
theorem frame_fault (hR : RV t w g A c xs at_ f) (f2 : Int) : RV t (w.drew.setCell ⟨g, 2, none⟩ (.int .i64 f2)) g A c xs at_ f2 ∧ Fr g none w (w.drew.setCell ⟨g, 2, none⟩ (.int .i64 f2)) :=
  ⟨hR.drew.fault f2, (Fr.refl g none w).drew.setCell _ _ (.inl rfl)⟩

set_option maxRecDepth 100000 in
set_option maxHeartbeats 1000000 in
theorem rdBits_any (k : Int) (n : Nat) (hk : min (max k 0) 32 = (n : Int)) (hR : RV t w g A c xs at_ f) (hx : B8 xs) (hl : xs.length ≤ 10000000) (ha : at_ ≤ 8 * xs.length) :
    Calls Try.prog 51 #[.pointer (some ⟨g, 0, none⟩), .int .i64 k] w fun e w' => e = .returned (.int .u32 (rdVal xs at_ f n)) ∧ RV t w' g A c xs (rdAt (8 * xs.length) at_ f n) (rdF (8 * xs.length) at_ f n) ∧ Fr g none w w' := by
  have HK := hide hk
  have h32 : n ≤ 32 := by omega
  by_cases hf : f = 0
  · subst hf
    have HH := hide (has_any (n : Int) hR hl ha)
    have HR := hide hR
    have HX := hide hx
    have hgl := hR.1.lt
    by_cases hn : at_ + n ≤ 8 * xs.length
    · have HN := hide (next_any g _ A xs c at_ n _ w.drew hR.drew.1 hR.drew.2.1 hx hR.2.2 hl h32 hn)
      have HV := hide (show rdVal xs at_ 0 n = rd xs at_ n from if_pos ⟨rfl, hn⟩)
      have HA := hide (show rdAt (8 * xs.length) at_ 0 n = at_ + n from if_pos ⟨rfl, hn⟩)
      have HF := hide (show rdF (8 * xs.length) at_ 0 n = 0 from by unfold rdF; rw [if_pos rfl, if_pos hn])
      have HNN := hide hn
      clear hk hR hx hn ha
      go_enter Try.func51, Try.ntmps51
      go_wp2_with fail
      refine (within_any _ _ _).mono ?_
      rintro e w1 ⟨rfl, hw1⟩
      rw [hw1, unhide HK]
      clear hw1
      go_wp2_with fail
      with_reducible refine (unhide HH).mono ?_
      rintro e w1 (⟨_, rfl, rfl⟩ | ⟨hbad, _⟩)
      · go_wp2_with fail
        with_reducible refine (unhide HN).mono ?_
        rintro e w2 ⟨rfl, hb2, hf2⟩
        have HB2 := hide hb2
        have HF2 := hide hf2
        clear hb2 hf2
        go_wp2
        go_ret
        rw [unhide HV, unhide HA, unhide HF]
        have hfr : Fr g none w w2 := (Fr.refl g none w).drew.trans (unhide HF2) (fun x e => by cases e)
        exact ⟨rfl, ⟨unhide HB2, (unhide HR).2.1.fr hfr (fun b e => ⟨(unhide HR).2.2 b e, fun h => by cases h⟩), (unhide HR).2.2⟩, hfr⟩
      · exfalso; have := unhide HNN; omega
    · have HV := hide (show rdVal xs at_ 0 n = 0 from if_neg (fun h => hn h.2))
      have HA := hide (show rdAt (8 * xs.length) at_ 0 n = at_ from if_neg (fun h => hn h.2))
      have HF := hide (show rdF (8 * xs.length) at_ 0 n = 3 from by unfold rdF; rw [if_pos rfl, if_neg hn])
      have HNN := hide hn
      clear hk hR hx hn ha
      go_enter Try.func51, Try.ntmps51
      go_wp2_with fail
      refine (within_any _ _ _).mono ?_
      rintro e w1 ⟨rfl, hw1⟩
      rw [hw1, unhide HK]
      clear hw1
      go_wp2_with fail
      with_reducible refine (unhide HH).mono ?_
      rintro e w1 (⟨hbad, _⟩ | ⟨_, rfl, hw1⟩)
      · exfalso; have := unhide HNN; omega
      · have HW := hide hw1
        clear hw1
        go_wp2
        go_ret
        rw [unhide HV, unhide HA, unhide HF, unhide HW]
        exact ⟨rfl, frame_fault (unhide HR) 3⟩
  · have HH := hide (hasF_any f (n : Int) hR hf)
    have HV := hide (show rdVal xs at_ f n = 0 from if_neg (fun h => hf h.1))
    have HA := hide (show rdAt (8 * xs.length) at_ f n = at_ from if_neg (fun h => hf h.1))
    have HF := hide (show rdF (8 * xs.length) at_ f n = f from if_neg hf)
    have HR := hide hR
    clear hk hR hx ha hf
    go_enter Try.func51, Try.ntmps51
    go_wp2_with fail
    refine (within_any _ _ _).mono ?_
    rintro e w1 ⟨rfl, hw1⟩
    rw [hw1, unhide HK]
    clear hw1
    go_wp2_with fail
    with_reducible refine (unhide HH).mono ?_
    rintro e w1 ⟨rfl, hw1⟩
    rw [hw1]
    clear hw1
    go_wp2
    go_ret
    rw [unhide HV, unhide HA, unhide HF]
    exact ⟨rfl, unhide HR, Fr.refl _ _ _⟩
end

set_option maxRecDepth 100000 in
set_option maxHeartbeats 1000000 in
/-- New: a reader of a copy. -/
theorem new_any (A : Option Addr) (xs : List Int) (c : Nat) (w : World) (hh : Holds w A xs) (hl : xs.length ≤ 10000000) :
    Calls Try.prog 44 #[.slice A xs.length c] w fun e w' => ∃ g A' c', e = .returned (.pointer (some ⟨g, 0, none⟩)) ∧ RV 74 w' g A' c' xs 0 0 ∧ w.heap.size ≤ g ∧ (∀ b, rowOf A' = some b → w.heap.size ≤ b ∧ b < g) ∧ Keeps w w' ∧ xs.length ≤ c' := by
  have HC := hide (clone_any A xs xs.length c rfl hl w hh)
  clear hh
  go_enter Try.func44, Try.ntmps44
  go_wp2_with fail
  with_reducible refine (unhide HC).mono ?_
  rintro e w1 ⟨B, d, rfl, hd, hf⟩
  have HF := hide hf
  clear hf
  go_wp2
  go_ret
  have hrow : ∀ b, rowOf B = some b → w.heap.size ≤ b ∧ b < w1.heap.size := fun b e => (unhide HF).1.lt b ((own_row rfl).trans e)
  exact ⟨w1.heap.size, B, d, rfl, ⟨Blk.new w1 _ _, (unhide HF).holds.alloc _, fun b e => by have := (hrow b e).2; omega⟩, (unhide HF).2.size, hrow, (unhide HF).2.alloc _, hd⟩
end Go.Proofs.Ytgaapigagglgbaa
