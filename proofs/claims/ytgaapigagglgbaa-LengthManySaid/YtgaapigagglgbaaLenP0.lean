/- Put and its reference: numbers, and the contracts of determine, Determinant, Put. -/
import Derived.Test.YtgaapigagglgbaaLenN
import Derived.Test.YtgaapigagglgbaaRefWh
import Derived.Test.YtgaapigagglgbaaJoin2
import Derived.Test.YtgaapigagglgbaaWhR3
namespace Go.Proofs.Ytgaapigagglgbaa
open Go.ChangeShapes Go.WideShapes Go.ChangeAt Go.RowKit
set_option linter.unusedVariables false

/-- The bits of a determinant, and what they are. -/
def detB (k : Nat) : Nat := if k < 128 then 8 else if k < 16384 then 16 else 8
def detV (k : Nat) : Int := if k < 128 then (k : Int) else if k < 16384 then ((32768 + k : Nat) : Int) else ((192 + k / 16384 : Nat) : Int)
theorem detB_le (k : Nat) : detB k ≤ 16 := by unfold detB; split <;> (try split) <;> omega
/-- One fragment behind what there is. -/
def oneN (N : Int) (k : Nat) (xs : List Int) : Int := appB (tot N (detV k) (detB k)) xs
def putN : Nat → Int → List Int → Int
  | 0, N, xs => oneN N xs.length xs
  | f + 1, N, xs => if xs.length < 16384 then oneN N xs.length xs else putN f (oneN N (cutI xs.length) (xs.take (cutI xs.length))) (xs.drop (cutI xs.length))
def putK : Nat → Nat → Nat
  | 0, l => detB l + 8 * l
  | f + 1, l => if l < 16384 then detB l + 8 * l else detB (cutI l) + 8 * cutI l + putK f (l - cutI l)
theorem putK_le (f : Nat) : ∀ l, putK f l ≤ 8 * l + 16 * (f + 1) := by
  induction f with
  | zero => intro l; have := detB_le l; simp only [putK]; omega
  | succ f ih =>
    intro l
    have h1 := detB_le l
    have h2 := detB_le (cutI l)
    have h3 := ih (l - cutI l)
    have h4 := cutI_le l
    simp only [putK]
    split <;> omega
theorem putN_last (f : Nat) (N : Int) (xs : List Int) (h : xs.length < 16384) : putN f N xs = oneN N (cutI xs.length) (xs.take (cutI xs.length)) := by
  rw [cutI_small h, List.take_length]
  cases f with
  | zero => rfl
  | succ f => exact if_pos h
theorem putK_last (f l : Nat) (h : l < 16384) : putK f l = detB (cutI l) + 8 * cutI l := by
  rw [cutI_small h]
  cases f with
  | zero => rfl
  | succ f => exact if_pos h
theorem put_go {f : Nat} {N NF : Int} {n nF : Nat} {xs : List Int} (hN : putN f N xs = NF) (hn : n + putK f xs.length = nF) (hf : xs.length < 16384 * (f + 1)) (hm : 16384 ≤ xs.length) :
    ∃ f', putN f' (oneN N (cutI xs.length) (xs.take (cutI xs.length))) (xs.drop (cutI xs.length)) = NF ∧ n + detB (cutI xs.length) + 8 * cutI xs.length + putK f' (xs.drop (cutI xs.length)).length = nF ∧ (xs.drop (cutI xs.length)).length < 16384 * (f' + 1) := by
  obtain ⟨f', rfl⟩ : ∃ f', f = f' + 1 := ⟨f - 1, by omega⟩
  have hb := cutI_big hm
  refine ⟨f', ?_, ?_, by rw [List.length_drop]; omega⟩
  · have : putN (f' + 1) N xs = putN f' (oneN N (cutI xs.length) (xs.take (cutI xs.length))) (xs.drop (cutI xs.length)) := if_neg (by omega)
    rw [← this]; exact hN
  · have : putK (f' + 1) xs.length = detB (cutI xs.length) + 8 * cutI xs.length + putK f' (xs.length - cutI xs.length) := if_neg (by omega)
    rw [this] at hn
    rw [List.length_drop]; omega

theorem Holds.cut {w : World} {A : Option Addr} {ys : List Int} (h : Holds w A ys) {m c : Nat} (hm : m ≤ ys.length) (hc : ys.length ≤ c) : Holds w (if c = m then A else A.map (·.add m)) (ys.drop m) := by
  have := Reads.cut h hm hc
  rw [Nat.mul_one, ← List.map_drop] at this
  have e : ys.length - m = (ys.drop m).length := by rw [List.length_drop]
  rw [e] at this
  exact this
theorem Holds.upto {w : World} {A : Option Addr} {ys : List Int} (h : Holds w A ys) (m : Nat) : Holds w A (ys.take m) := by
  refine ⟨by simp, fun hn => ?_⟩
  have h0 : 0 < ys.length := by rw [List.length_take] at hn; omega
  obtain ⟨ad, e, hb, hc⟩ := h.2 h0
  refine ⟨ad, e, hb, fun j u hu => hc j u ?_⟩
  rw [List.map_take, List.getElem?_take] at hu
  split at hu
  · exact hu
  · cases hu
theorem rowOf_cut (A : Option Addr) (c m : Nat) : rowOf (if c = m then A else A.map (·.add m)) = rowOf A := by
  split
  · rfl
  · cases A with
    | none => rfl
    | some a => simp [rowOf, block_of_add]
/-- What is read lies apart from the writer, and lay there ahead of it. -/
def Apart (w : World) (g : Nat) (A0 B : Option Addr) (n : Nat) : Prop := 0 < n → ∀ b, rowOf B = some b → b < w.heap.size ∧ b ≠ g ∧ rowOf A0 ≠ some b
theorem Apart.less {w : World} {g : Nat} {A0 B : Option Addr} {n m : Nat} (h : Apart w g A0 B n) (hm : m ≤ n) : Apart w g A0 B m := fun h0 => h (by omega)
theorem Apart.cut {w : World} {g : Nat} {A0 B : Option Addr} {n k c m : Nat} (h : Apart w g A0 B n) (hm : m ≤ n) : Apart w g A0 (if c = k then B else B.map (·.add k)) m := by
  intro h0 b e
  rw [rowOf_cut] at e
  exact h (by omega) b e
theorem apart_holds {w w' : World} {g : Nat} {A0 B : Option Addr} {xs : List Int} (h : Apart w g A0 B xs.length) (hh : Holds w B xs) (hf : Fr g (rowOf A0) w w') : Holds w' B xs := by
  rcases Nat.eq_zero_or_pos xs.length with h0 | h0
  · have : xs = [] := List.eq_nil_of_length_eq_zero h0
    subst this
    exact ⟨by simp, fun h => absurd h (by simp)⟩
  · exact hh.fr hf (fun b e => ⟨(h h0 b e).2.1, (h h0 b e).2.2⟩)
theorem apart_moved {w w' : World} {g : Nat} {A0 A B : Option Addr} {n : Nat} (h : Apart w g A0 B n) (hm : Moved w A0 A) (hs : w.heap.size ≤ w'.heap.size) : Apart w' g A B n := by
  intro h0 b e
  obtain ⟨h1, h2, h3⟩ := h h0 b e
  refine ⟨by omega, h2, fun e2 => ?_⟩
  rcases hm with h | ⟨x, h, hx⟩
  · exact h3 (h.symm.trans e2)
  · rw [h] at e2; injection e2 with e2; omega

theorem or_32768 (k : Nat) (h : k < 16384) : bits .or .u64 32768 (k : Int) = ((32768 + k : Nat) : Int) := by
  have := u64_or_nat 32768 k (by omega) (by omega)
  rw [nat_join 15 32768 k (by decide) (by omega)] at this
  exact this
theorem or_192 (k : Nat) (h : k ≤ 4) : bits .or .u64 192 (k : Int) = ((192 + k : Nat) : Int) := by
  have := u64_or_nat 192 k (by omega) (by omega)
  rw [nat_join 6 192 k (by decide) (by omega)] at this
  exact this

set_option maxRecDepth 100000 in
set_option maxHeartbeats 1000000 in
theorem det_st (k : Nat) (hk : k ≤ 65536) {base : Nat} {w wr : World} {g : Nat} {A0 : Option Addr} {N : Int} {n : Nat} (hS : St base w g A0 N n wr) (hb : base ≤ w.heap.size) (hn : n ≤ 9000000) :
    Calls Try.prog 38 #[.pointer (some ⟨g, 0, none⟩), .int .i64 (k : Nat)] wr fun e w' => e = .returned (.tuple #[]) ∧ St base w g A0 (tot N (detV k) (detB k)) (n + detB k) w' := by
  have H := hide fun (v z : Int) (J : Nat) (hz : z = (J : Int)) (hJ : J ≤ 64) (h0 : 0 ≤ v) (h1 : v ≤ 18446744073709551615) => wBits_st v z J hS hb h0 h1 (by omega) hn
  clear hS
  unfold detV detB
  by_cases h1 : k < 128
  · rw [if_pos h1, if_pos h1]
    have HC := hide (unhide H (k : Int) 8 8 (by omega) (by omega) (by omega) (by omega))
    go_enter Try.func38, Try.ntmps38
    go_wp2_with fail
    with_reducible refine (unhide HC).mono ?_
    rintro e w1 ⟨rfl, hR⟩
    have HF := hide hR
    clear hR
    go_wp2
    go_end0
    exact ⟨rfl, unhide HF⟩
  · rw [if_neg h1, if_neg h1]
    by_cases h2 : k < 16384
    · rw [if_pos h2, if_pos h2]
      have HC := hide (unhide H ((32768 + k : Nat) : Int) 16 16 (by omega) (by omega) (by omega) (by omega))
      have ho := or_32768 k h2
      generalize ((32768 + k : Nat) : Int) = v at *
      go_enter Try.func38, Try.ntmps38
      go_wp2_with fail
      with_reducible refine (unhide HC).mono ?_
      rintro e w1 ⟨rfl, hR⟩
      have HF := hide hR
      clear hR
      go_wp2
      go_end0
      exact ⟨rfl, unhide HF⟩
    · rw [if_neg h2, if_neg h2]
      have HC := hide (unhide H ((192 + k / 16384 : Nat) : Int) 8 8 (by omega) (by omega) (by omega) (by omega))
      have ho := or_192 (k / 16384) (by omega)
      have hq : ((k / 16384 : Nat) : Int) = (k : Int) / 16384 := by omega
      rw [hq] at ho
      generalize ((192 + k / 16384 : Nat) : Int) = v at *
      clear hq
      go_enter Try.func38, Try.ntmps38
      go_wp2_with fail
      with_reducible refine (unhide HC).mono ?_
      rintro e w1 ⟨rfl, hR⟩
      have HF := hide hR
      clear hR
      go_wp2
      go_end0
      exact ⟨rfl, unhide HF⟩
set_option maxRecDepth 100000 in
set_option maxHeartbeats 1000000 in
theorem refDet_st (k : Nat) (hk : k ≤ 65536) {base : Nat} {w wr : World} {g : Nat} {A0 : Option Addr} {N : Int} {n : Nat} (hS : RSt base w g A0 N n wr) (hb : base ≤ w.heap.size) (hn : n ≤ 9000000) :
    Calls Try.prog 27 #[.pointer (some ⟨g, 0, none⟩), .int .i64 (k : Nat)] wr fun e w' => e = .returned (.tuple #[]) ∧ RSt base w g A0 (tot N (detV k) (detB k)) (n + detB k) w' := by
  have H := hide fun (v z : Int) (J : Nat) (hz : z = (J : Int)) (hJ : J ≤ 64) (h0 : 0 ≤ v) (h1 : v ≤ 18446744073709551615) => xBits_st v z J hS hb h0 h1 (by omega) hn
  clear hS
  unfold detV detB
  by_cases h1 : k < 128
  · rw [if_pos h1, if_pos h1]
    have HC := hide (unhide H (k : Int) 8 8 (by omega) (by omega) (by omega) (by omega))
    go_enter Try.func27, Try.ntmps27
    go_wp2_with fail
    with_reducible refine (unhide HC).mono ?_
    rintro e w1 ⟨rfl, hR⟩
    have HF := hide hR
    clear hR
    go_wp2
    go_end0
    exact ⟨rfl, unhide HF⟩
  · rw [if_neg h1, if_neg h1]
    by_cases h2 : k < 16384
    · rw [if_pos h2, if_pos h2]
      have HC := hide (unhide H ((32768 + k : Nat) : Int) 16 16 (by omega) (by omega) (by omega) (by omega))
      rw [show ((32768 + k : Nat) : Int) = 32768 + (k : Int) from by omega] at HC ⊢
      go_enter Try.func27, Try.ntmps27
      go_wp2_with fail
      with_reducible refine (unhide HC).mono ?_
      rintro e w1 ⟨rfl, hR⟩
      have HF := hide hR
      clear hR
      go_wp2
      go_end0
      exact ⟨rfl, unhide HF⟩
    · rw [if_neg h2, if_neg h2]
      have HC := hide (unhide H ((192 + k / 16384 : Nat) : Int) 8 8 (by omega) (by omega) (by omega) (by omega))
      rw [show ((192 + k / 16384 : Nat) : Int) = 192 + (k : Int) / 16384 from by omega] at HC ⊢
      go_enter Try.func27, Try.ntmps27
      go_wp2_with fail
      with_reducible refine (unhide HC).mono ?_
      rintro e w1 ⟨rfl, hR⟩
      have HF := hide hR
      clear hR
      go_wp2
      go_end0
      exact ⟨rfl, unhide HF⟩
/-- Octets that lie apart. -/
theorem octs_st (B : Option Addr) (l c : Nat) (xs : List Int) {base : Nat} {w wr : World} {g : Nat} {A0 : Option Addr} {N : Int} {n : Nat} (hS : St base w g A0 N n wr) (hb : base ≤ w.heap.size) (hl : xs.length = l) (hx : B8 xs)
    (hh : Holds w B xs) (hB : Apart w g A0 B xs.length) (hn : n + 8 * l ≤ 10000000) :
    Calls Try.prog 39 #[.pointer (some ⟨g, 0, none⟩), .slice B l c] wr fun e w' => e = .returned (.tuple #[]) ∧ St base w g A0 (appB N xs) (n + 8 * l) w' := by
  have hfr := hS.fr
  obtain ⟨m, room, A, ca, h1, h2, h3, h4⟩ := hS
  have hz := hfr.2.2.2.1
  refine (wOctets_any B c l xs h1 h2 (by omega) hl hx (fun w' hf => apart_holds (apart_moved hB h4 hz) (apart_holds hB hh hfr) hf) hn).mono ?_
  rintro e w' ⟨rfl, hR⟩
  exact ⟨rfl, St.step h3 h4 hR⟩
theorem refOcts_st (B : Option Addr) (l c : Nat) (xs : List Int) {base : Nat} {w wr : World} {g : Nat} {A0 : Option Addr} {N : Int} {n : Nat} (hS : RSt base w g A0 N n wr) (hb : base ≤ w.heap.size) (hl : xs.length = l) (hx : B8 xs)
    (hh : Holds w B xs) (hB : Apart w g A0 B xs.length) (hn : n + 8 * l ≤ 10000000) :
    Calls Try.prog 40 #[.pointer (some ⟨g, 0, none⟩), .slice B l c] wr fun e w' => e = .returned (.tuple #[]) ∧ RSt base w g A0 (appB N xs) (n + 8 * l) w' := by
  have hfr := hS.fr
  obtain ⟨A, ca, h1, h3, h4⟩ := hS
  have hz := hfr.2.2.2.1
  refine (xOctets_any B c l xs h1 (by omega) hl hx (fun w' hf => apart_holds (apart_moved hB h4 hz) (apart_holds hB hh hfr) hf) hn).mono ?_
  rintro e w' ⟨rfl, hR⟩
  exact ⟨rfl, RSt.step h3 h4 hR⟩
end Go.Proofs.Ytgaapigagglgbaa
