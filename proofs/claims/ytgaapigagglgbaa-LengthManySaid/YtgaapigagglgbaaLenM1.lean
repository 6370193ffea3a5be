/- PutMany with the first function of LengthMany: the contracts. -/
import Derived.Test.YtgaapigagglgbaaLenB3
import Derived.Test.YtgaapigagglgbaaLenC
import Derived.Defers
import Derived.Recover
import Derived.Laws.Pointers
namespace Go.Proofs.Ytgaapigagglgbaa
open Go.ChangeShapes Go.WideShapes Go.ChangeAt Go.RowKit
set_option linter.unusedVariables false

/-! ### Slices of 64 bits -/
abbrev UL (l : List Int) : List Value := l.map (Value.int .u64)
def HoldsU (w : World) (A : Option Addr) (l : List Int) : Prop := Reads w w.heap.size 1 A l.length (UL l)
theorem HoldsU.keeps {w w' : World} {A : Option Addr} {l : List Int} (h : HoldsU w A l) (hk : Keeps w w') : HoldsU w' A l := (Reads.keeps h hk (Nat.le_refl _)).more hk.size
theorem HoldsU.at_ {w : World} {A : Option Addr} {xs : List Int} (h : HoldsU w A xs) {k : Nat} (hk : k < xs.length) : ∃ b o, A = some ⟨b, o, none⟩ ∧ w.cell? ⟨b, o + k, none⟩ = some (.int .u64 (xs.getD k 0)) := by
  obtain ⟨ad, u, e, _, hx, hc⟩ := Reads.at_ h hk
  obtain ⟨b, o, spot⟩ := ad
  have hu : u = .int .u64 (xs.getD k 0) := by
    rw [List.getElem?_map] at hx
    have : xs[k]? = some (xs.getD k 0) := by simp [hk]
    rw [this] at hx; simpa using hx.symm
  subst hu
  have hs : spot = none := by
    obtain ⟨ad', e', _, hall⟩ := h.2 (by omega)
    rw [e] at e'; injection e' with e'; subst e'
    have h0 : 0 < xs.length := by omega
    have hz : (xs.map (Value.int .u64))[0]? = some (.int .u64 (xs.getD 0 0)) := by simp [h0]
    have := hall 0 _ hz
    rw [show (⟨b, o, spot⟩ : Addr).add 0 = ⟨b, o, spot⟩ from by simp [Addr.add]] at this
    exact World.cell?_spot this
  subst hs
  exact ⟨b, o, e, by rw [← add_at]; exact hc⟩
theorem HoldsU.fr {w w' : World} {A : Option Addr} {l : List Int} {g : Nat} {row : Option Nat} (h : HoldsU w A l) (hf : Fr g row w w') (hA : ∀ b, rowOf A = some b → b ≠ g ∧ row ≠ some b) : HoldsU w' A l := by
  refine ⟨h.1, fun hn => ?_⟩
  obtain ⟨ad, e, hb, hc⟩ := h.2 hn
  have ha := hA ad.block (by rw [e]; rfl)
  exact ⟨ad, e, Nat.lt_of_lt_of_le hb hf.2.2.2.1, fun j u hu => (World.cell?_of_block (a := ad.add j) (by rw [block_of_add]; exact hf.2.2.2.2 _ hb ha.1 ha.2)).trans (hc j u hu)⟩
def U64 (l : List Int) : Prop := ∀ x ∈ l, 0 ≤ x ∧ x ≤ 18446744073709551615
theorem U64.at_ {l : List Int} (h : U64 l) (k : Nat) : 0 ≤ l.getD k 0 ∧ l.getD k 0 ≤ 18446744073709551615 := by
  rcases Nat.lt_or_ge k l.length with h1 | h1
  · have : l.getD k 0 = l[k] := by simp [h1]
    rw [this]; exact h _ (List.getElem_mem _)
  · rw [List.getD, List.getElem?_eq_none h1]; simp
/-- The first k values behind what there is, five bits each. -/
def manyN (N : Int) (al : List Int) (k : Nat) : Int := (al.take k).foldl (fun N v => tot N v 5) N
theorem manyN_succ (N : Int) (al : List Int) (k : Nat) (h : k < al.length) : manyN N al (k + 1) = tot (manyN N al k) (al.getD k 0) 5 := by
  unfold manyN
  rw [List.take_succ_eq_append_getElem h, List.foldl_append]
  simp [h]
theorem manyN_zero (N : Int) (al : List Int) : manyN N al 0 = N := rfl

/-! ### What is deferred -/
theorem putRec_any (u : FrameMode) (hu : u = .returning) (w : World) : CallsD Try.prog 53 #[] u w fun e u' w' => e = .returned (.tuple #[]) ∧ u' = .returning ∧ w' = w := by
  subst hu
  refine callsD_of_wpS Try.func53 rfl fun c₀ cs hu => ?_
  apply wpS_region
  cases c₀
  simp_all [wpOpsS, go_sem, recoverD, Try.ntmps53, bodyPostS, results, Try.results53]
theorem takeRec_any (p : Addr) (w : World) : CallsD Try.prog 54 #[.pointer (some p)] .returning w fun e u' w' => e = .returned (.tuple #[]) ∧ u' = .returning ∧ w' = w := by
  refine callsD_of_wpS Try.func54 rfl fun c₀ cs hu => ?_
  apply wpS_seq
  apply wpS_region
  simp [wpOpsS, go_sem, recoverD, hu, Try.ntmps54, Exit.thenS]
  refine wpS_cond (t := false) (by simp [Act.eval, Array.replicate]) ?_
  simp only [Bool.false_eq_true, if_false]
  refine wpS_of_wp (wp_skip ?_)
  cases c₀
  simp_all [bodyPostS, results, Try.results54]

/-- A list in a variable, apart from the writer. -/
def VarU (w : World) (ga : Nat) (B : Option Addr) (l c : Nat) (al : List Int) : Prop := Blk w ga 55 #[.slice B l c] ∧ HoldsU w B al ∧ al.length = l ∧ U64 al
def ApartU (w : World) (g : Nat) (A0 B : Option Addr) (ga : Nat) : Prop := (ga ≠ g ∧ rowOf A0 ≠ some ga) ∧ ∀ b, rowOf B = some b → b ≠ g ∧ rowOf A0 ≠ some b
theorem VarU.fr {w w' : World} {ga : Nat} {B : Option Addr} {l c : Nat} {al : List Int} {g : Nat} {A0 : Option Addr} (h : VarU w ga B l c al) (hf : Fr g (rowOf A0) w w') (hA : ApartU w g A0 B ga) : VarU w' ga B l c al :=
  ⟨fr_blk hf h.1 hA.1.1 hA.1.2, h.2.1.fr hf hA.2, h.2.2⟩
theorem VarU.keeps {w w' : World} {ga : Nat} {B : Option Addr} {l c : Nat} {al : List Int} (h : VarU w ga B l c al) (hk : Keeps w w') : VarU w' ga B l c al := ⟨h.1.keeps hk, h.2.1.keeps hk, h.2.2⟩
set_option maxRecDepth 100000 in
set_option maxHeartbeats 1000000 in
theorem clo1_any (ga j l c : Nat) (B : Option Addr) (al : List Int) {base : Nat} {w wr : World} {g : Nat} {A0 : Option Addr} {N : Int} {n : Nat} (hS : St base w g A0 N n wr) (hb : base ≤ w.heap.size) (hV : VarU w ga B l c al) (hA : ApartU w g A0 B ga) (hj : j < l) (hl : l ≤ 600) (hn : n ≤ 9000000) :
    Calls Try.prog 26 #[.pointer (some ⟨g, 0, none⟩), .int .i64 (j : Nat), .pointer (some ⟨ga, 0, none⟩)] wr fun e w' => e = .returned (.tuple #[]) ∧ St base w g A0 (tot N (al.getD j 0) 5) (n + 5) w' := by
  have hv := hV.fr hS.fr hA
  have hga : wr.cell? ⟨ga, 0, none⟩ = some (.slice B l c) := hv.1.cell 0
  obtain ⟨b, o, rfl, hc⟩ := hv.2.1.at_ (k := j) (by rw [hv.2.2.1]; exact hj)
  have hu := hv.2.2.2.at_ j
  have HC := hide (wBits_st (al.getD j 0) 5 5 hS hb hu.1 hu.2 (by omega) hn)
  clear hS hV hv hA
  generalize al.getD j 0 = v at *
  go_enter Try.func26, Try.ntmps26
  go_wp2_with fail
  with_reducible refine (unhide HC).mono ?_
  rintro e w1 ⟨rfl, hR⟩
  have HF := hide hR
  clear hR
  go_wp2
  go_end0
  exact ⟨rfl, unhide HF⟩
set_option maxRecDepth 100000 in
set_option maxHeartbeats 2000000 in
theorem putMany_any (ga l c : Nat) (B : Option Addr) (al : List Int) {base : Nat} {w : World} {g : Nat} {N : Int} {n m room c0 : Nat} {A0 : Option Addr} (hW : WrV base w g N n m room A0 c0) (hr : room < 8) (hb : base ≤ w.heap.size) (hV : VarU w ga B l c al) (hA : ApartU w g A0 B ga) (hl : l ≤ 600) (hn : n ≤ 1000000) :
    Calls Try.prog 25 #[.pointer (some ⟨g, 0, none⟩), .int .i64 (l : Nat), .func (Fn.func 26) #[] #[.pointer (some ⟨ga, 0, none⟩)]] w fun e w' => e = .returned (.tuple #[]) ∧ St base w g A0 (manyN (tot N (detV l) (detB l)) al l) (n + detB l + 5 * l) w' := by
  have hmf : ∀ (fn : Fn) (first cap : Array Value) (w : World), (Instr.makeFunc fn first cap).run Try.prog w = .ok (.func fn first cap) w := fun _ _ _ _ => rfl
  have hfn : ∀ (w : World), (binOp BinOp.eql 57 (.func (Fn.func 26) #[] #[.pointer (some ⟨ga, 0, none⟩)]) Value.nilFunc).run Try.prog w = .ok (.bool false) w := fun _ => rfl
  have HC1 := hide (cut_any (l : Int) w (by omega) (by omega))
  rw [show (l : Int).toNat = l from by omega, cutI_small (by omega)] at HC1
  have HC2 := hide (det_st l (by omega) (St.start hW hr) hb (by omega))
  have hdb := detB_le l
  have HCL := hide fun (j : Nat) (hj : j < l) (wr : World) (hS : St base w g A0 (manyN (tot N (detV l) (detB l)) al j) (n + detB l + 5 * j) wr) => (show Calls _ _ _ wr _ from by
    have hc := clo1_any ga j l c B al hS hb hV hA hj hl (by omega)
    rw [← manyN_succ _ al j (by rw [hV.2.2.1]; exact hj)] at hc
    exact hc)
  clear hW hV hA
  generalize tot N (detV l) (detB l) = N1 at *
  generalize n + detB l = n1 at *
  go_enter_defers Try.func25, Try.ntmps25
  go_wp2
  go_loopw [6] (fun i wr => i = .int .i64 0 ∧ wr = w) (fun _ _ => 0)
  case atStart => exact ⟨rfl, rfl⟩
  case round =>
    obtain ⟨rfl, rfl⟩ := hrel
    go_wp2_with fail
    with_reducible refine (unhide HC1).mono ?_
    rintro e w1 ⟨rfl, hw1⟩
    rw [hw1]
    clear hw1
    go_wp2_with fail
    with_reducible refine (unhide HC2).mono ?_
    rintro e w2 ⟨rfl, hS2⟩
    have HS2 := hide hS2
    clear hS2
    go_wp2
    go_loopw [6, 22] (fun i x wx => ∃ j : Nat, j ≤ l ∧ i = .int .i64 j ∧ x = .int .i64 j ∧ St base wr g A0 (manyN N1 al j) (n1 + 5 * j) wx) (fun _ x _ => l - (intOf x).toNat)
    case atStart => exact ⟨0, Nat.zero_le _, rfl, rfl, unhide HS2⟩
    case round =>
      obtain ⟨j, hj, rfl, rfl, hS⟩ := hrel
      by_cases hlt : j < l
      · have HC := hide (unhide HCL j hlt _ hS)
        clear hS
        go_wp2_with fail
        with_reducible refine (unhide HC).mono ?_
        rintro e w3 ⟨rfl, hS3⟩
        have HS3 := hide hS3
        clear hS3
        go_wp2
        exact ⟨⟨j + 1, by omega, by go_num, by go_num, unhide HS3⟩, by simp [intOf]; omega⟩
      · obtain rfl : j = l := by omega
        have HS := hide hS
        clear hS
        go_wp2
        refine leaves_cons (f := 53) (args := #[]) (by simp) (by simp [go_sem]) ?_
        refine (putRec_any .returning rfl _).mono ?_
        rintro e u' w'' ⟨rfl, rfl, rfl⟩
        exact ⟨_, results_none rfl _ _ _, rfl, unhide HS⟩
end Go.Proofs.Ytgaapigagglgbaa
