/- The contracts of a reader's left, has, Left, Err, Bits and Bit. -/
import Derived.Test.YtgaapigagglgbaaBitsRdN
import Derived.Test.YtgaapigagglgbaaBitsRN
namespace Go.Proofs.Ytgaapigagglgbaa
open Go.ChangeShapes Go.WideShapes Go.ChangeAt Go.RowKit
variable {t : TypeId}

set_option maxRecDepth 100000 in
set_option maxHeartbeats 1000000 in
theorem left_any (g : Nat) (t : TypeId) (A : Option Addr) (L c at_ : Nat) (rest : List Value) (w : World) (hb : Blk w g t (srcCells A L c at_ rest)) (hl : L ≤ 10000000) (ha : at_ ≤ 8 * L) :
    Calls Try.prog 64 #[.pointer (some ⟨g, 0, none⟩)] w fun e w' => e = .returned (.int .i64 ((8 * L - at_ : Nat) : Int)) ∧ w' = w.drew := by
  obtain ⟨hgc, hgf, hgl⟩ := hb.facts
  have hg0 : w.cell? ⟨g, 0, none⟩ = some (.slice A L c) := hgc 0
  have hg1 : w.cell? ⟨g, 1, none⟩ = some (.int .i64 (at_ : Nat)) := hgc 1
  have HE := hide (show ((8 * L - at_ : Nat) : Int) = 8 * (L : Int) - at_ from by omega)
  clear hb hgc
  go_enter Try.func64, Try.ntmps64
  go_wp2
  go_region
  go_wp2
  go_ret
  exact ⟨ret_int (unhide HE).symm, rfl⟩

/-- The reader at g: its octets xs lie at A, it stands at a place, and has a fault. -/
def RV (t : TypeId) (w : World) (g : Nat) (A : Option Addr) (c : Nat) (xs : List Int) (at_ : Nat) (f : Int) : Prop :=
  Blk w g t (srcCells A xs.length c at_ [.int .i64 f]) ∧ Holds w A xs ∧ ∀ b, rowOf A = some b → b ≠ g
theorem RV.fault {w : World} {g : Nat} {A : Option Addr} {c : Nat} {xs : List Int} {at_ : Nat} {f : Int} (h : RV t w g A c xs at_ f) (f2 : Int) : RV t (w.setCell ⟨g, 2, none⟩ (.int .i64 f2)) g A c xs at_ f2 := by
  refine ⟨by simpa [srcCells] using h.1.set_ 2 (.int .i64 f2), h.2.1.fr ((Fr.refl g none w).setCell _ _ (.inl rfl)) (fun b e => ⟨h.2.2 b e, fun e => by cases e⟩), h.2.2⟩
theorem RV.drew {w : World} {g : Nat} {A : Option Addr} {c : Nat} {xs : List Int} {at_ : Nat} {f : Int} (h : RV t w g A c xs at_ f) : RV t w.drew g A c xs at_ f := ⟨h.1.drew, h.2.1.drew, h.2.2⟩
theorem RV.fr {w w' : World} {g : Nat} {A : Option Addr} {c : Nat} {xs : List Int} {at_ : Nat} {f : Int} (h : RV t w g A c xs at_ f) {g' : Nat} {row' : Option Nat} (hf : Fr g' row' w w') (hg : g ≠ g') (hr : row' ≠ some g) (hA : ∀ b, rowOf A = some b → b ≠ g' ∧ row' ≠ some b) : RV t w' g A c xs at_ f :=
  ⟨fr_blk hf h.1 hg hr, h.2.1.fr hf hA, h.2.2⟩
theorem RV.keeps {w w' : World} {g : Nat} {A : Option Addr} {c : Nat} {xs : List Int} {at_ : Nat} {f : Int} (h : RV t w g A c xs at_ f) (hk : Keeps w w') : RV t w' g A c xs at_ f :=
  ⟨h.1.keeps hk, h.2.1.keeps hk, h.2.2⟩

section
variable {w : World} {g : Nat} {A : Option Addr} {c : Nat} {xs : List Int} {at_ : Nat}
/-- has: at a fault. -/
theorem hasF_any (f : Int) (n : Int) (hR : RV t w g A c xs at_ f) (hf : f ≠ 0) :
    Calls Try.prog 65 #[.pointer (some ⟨g, 0, none⟩), .int .i64 n] w fun e w' => e = .returned (.bool false) ∧ w' = w := by
  have hg2 : w.cell? ⟨g, 2, none⟩ = some (.int .i64 f) := hR.1.cell 2
  have e1 : (f != 0) = true := by rw [bne_iff_ne]; exact hf
  have e2 : (f == 0) = false := beq_eq_false_iff_ne.2 hf
  clear hR
  go_enter Try.func65, Try.ntmps65
  go_wp2
  go_ret
  exact ⟨rfl, rfl⟩
theorem has_any (n : Int) (hR : RV t w g A c xs at_ 0) (hl : xs.length ≤ 10000000) (ha : at_ ≤ 8 * xs.length) :
    Calls Try.prog 65 #[.pointer (some ⟨g, 0, none⟩), .int .i64 n] w fun e w' => (n ≤ 8 * xs.length - at_ ∧ e = .returned (.bool true) ∧ w' = w.drew) ∨ (8 * xs.length - at_ < n ∧ e = .returned (.bool false) ∧ w' = w.drew.setCell ⟨g, 2, none⟩ (.int .i64 3)) := by
  obtain ⟨hgc, hgf, hgl⟩ := hR.1.facts
  have hg2 : w.cell? ⟨g, 2, none⟩ = some (.int .i64 0) := hgc 2
  have HL := hide (left_any g _ A xs.length c at_ _ w hR.1 hl ha)
  have HE : ((8 * xs.length - at_ : Nat) : Int) = 8 * (xs.length : Int) - at_ := by omega
  have HEE := hide HE
  clear hR hgc
  generalize hT : 8 * xs.length - at_ = T at *
  clear HE hT ha hl
  by_cases hn : n ≤ T
  · go_enter Try.func65, Try.ntmps65
    go_wp2_with fail
    with_reducible refine (unhide HL).mono ?_
    rintro e w1 ⟨rfl, rfl⟩
    go_wp2
    go_ret
    exact .inl ⟨by rw [← unhide HEE]; exact hn, rfl, rfl⟩
  · have hn2 : (T : Int) < n := by omega
    go_enter Try.func65, Try.ntmps65
    go_wp2_with fail
    with_reducible refine (unhide HL).mono ?_
    rintro e w1 ⟨rfl, rfl⟩
    go_wp2
    go_ret
    exact .inr ⟨by rw [← unhide HEE]; exact hn2, rfl, rfl⟩
end
end Go.Proofs.Ytgaapigagglgbaa
