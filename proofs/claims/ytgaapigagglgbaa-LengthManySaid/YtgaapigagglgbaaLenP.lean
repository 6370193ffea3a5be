/- The contracts of Put and of its reference. -/
import Derived.Test.YtgaapigagglgbaaLenP0
namespace Go.Proofs.Ytgaapigagglgbaa
open Go.ChangeShapes Go.WideShapes Go.ChangeAt Go.RowKit
set_option linter.unusedVariables false

def slLen : Value → Nat
  | .slice _ n _ => n
  | _ => 0
/-- What is still to put. -/
def PutTo (f : Nat) (N : Int) (n : Nat) (ys : List Int) (NF : Int) (nF : Nat) : Prop := putN f N ys = NF ∧ n + putK f ys.length = nF ∧ ys.length < 16384 * (f + 1)
theorem PutTo.last {f : Nat} {N : Int} {n : Nat} {ys : List Int} {NF : Int} {nF : Nat} (h : PutTo f N n ys NF nF) (hl : ys.length < 16384) :
    appB (tot N (detV (cutI ys.length)) (detB (cutI ys.length))) (ys.take (cutI ys.length)) = NF ∧ n + detB (cutI ys.length) + 8 * cutI ys.length = nF := by
  obtain ⟨h1, h2, h3⟩ := h
  rw [putN_last f N ys hl] at h1
  rw [putK_last f _ hl] at h2
  exact ⟨h1, by omega⟩
theorem PutTo.more {f : Nat} {N : Int} {n : Nat} {ys : List Int} {NF : Int} {nF : Nat} (h : PutTo f N n ys NF nF) (hl : 16384 ≤ ys.length) :
    ∃ f', PutTo f' (appB (tot N (detV (cutI ys.length)) (detB (cutI ys.length))) (ys.take (cutI ys.length))) (n + detB (cutI ys.length) + 8 * cutI ys.length) (ys.drop (cutI ys.length)) NF nF ∧ f = f' + 1 := by
  obtain ⟨h1, h2, h3⟩ := h
  obtain ⟨f', rfl⟩ : ∃ f', f = f' + 1 := ⟨f - 1, by omega⟩
  have hb := cutI_big hl
  refine ⟨f', ⟨?_, ?_, by rw [List.length_drop]; omega⟩, rfl⟩
  · have : putN (f' + 1) N ys = putN f' (oneN N (cutI ys.length) (ys.take (cutI ys.length))) (ys.drop (cutI ys.length)) := if_neg (by omega)
    rw [this] at h1; exact h1
  · have : putK (f' + 1) ys.length = detB (cutI ys.length) + 8 * cutI ys.length + putK f' (ys.length - cutI ys.length) := if_neg (by omega)
    rw [this] at h2
    rw [List.length_drop]; omega

theorem own_ints1 {w : World} {base : Nat} {A : Option Addr} {c : Nat} {l : List Int} (h : w.ownsRow base 3 1 (.slice A l.length c) l.length (IL l)) : HoldsI w A l := Reads.of_own h
/-- A list of ints that lies ahead of the writer's new memory stays. -/
theorem apartI {w1 w' : World} {g sz : Nat} {A0 A : Option Addr} {l : List Int} (h : HoldsI w1 A l) (hr : ∀ b, rowOf A = some b → sz ≤ b ∧ b < w1.heap.size) (hg : g < sz) (hA : ∀ b, rowOf A0 = some b → b < sz) (hf : Fr g (rowOf A0) w1 w') : HoldsI w' A l := by
  refine ⟨h.1, fun hn => ?_⟩
  obtain ⟨ad, e, hb, hc⟩ := h.2 hn
  have hrow := hr ad.block (by rw [e]; rfl)
  have hne : rowOf A0 ≠ some ad.block := fun e2 => by have := hA _ e2; omega
  refine ⟨ad, e, Nat.lt_of_lt_of_le hb hf.2.2.2.1, fun j u hu => ?_⟩
  exact (World.cell?_of_block (a := ad.add j) (by rw [block_of_add]; exact hf.2.2.2.2 _ hb (by omega) hne)).trans (hc j u hu)

set_option maxRecDepth 100000 in
set_option maxHeartbeats 2000000 in
theorem put_any (P : Option Addr) (ps : List Part) (np c F : Nat) (xs : List Int) {base : Nat} {w : World} {g : Nat} {N : Int} {n m room c0 : Nat} {A0 : Option Addr} (hW : WrV base w g N n m room A0 c0) (hr : room < 8) (hb : base ≤ w.heap.size)
    (hnp : ps.length = np) (hc : np ≤ c) (hP : PartsAny w P ps) (hxs : flat ps = xs) (hx : B8 xs) (hl : xs.length ≤ 80000) (hn47 : np ≤ 140737488355328) (hn : n ≤ 1000000) (hF : xs.length < 16384 * (F + 1)) (hF6 : F ≤ 100) :
    Calls Try.prog 13 #[.pointer (some ⟨g, 0, none⟩), .slice P np c] w fun e w' => e = .returned (.tuple #[]) ∧ St base w g A0 (putN F N xs) (n + putK F xs.length) w' := by
  have HJ := hide (join_any P np c ps w hnp hc hP (by rw [hxs]; omega) hn47)
  rw [hxs] at HJ
  have hK := putK_le F xs.length
  have hnF : n + putK F xs.length ≤ 1700000 := by omega
  have hpt : PutTo F N n xs (putN F N xs) (n + putK F xs.length) := ⟨rfl, rfl, hF⟩
  have HPT := hide hpt
  clear hP hnp hxs hK hpt hF
  generalize putN F N xs = NF at *
  generalize n + putK F xs.length = nF at *
  have HX := hide hx
  have HW := hide hW
  have hgl := hW.2.1.lt
  have HRL := hide fun b e => (hW.row_lt b e).2
  clear hx hW
  generalize hxl : xs.length = lx at *
  have HXL := hide hxl
  clear hxl
  go_enter Try.func13, Try.ntmps13
  go_wp2_with fail
  with_reducible refine (unhide HJ).mono ?_
  rintro e w1 ⟨A1, c1, rfl, hc1, hh1, hwr1, hk1⟩
  have hz1 := hk1.size
  have HK1 := hide hk1
  have HS1 := hide (St.start ((unhide HW).keeps_ hk1) hr)
  have HH1 := hide hh1
  have HAP := hide (show Apart w1 g A0 A1 xs.length from by
    intro h0 b e
    obtain ⟨g1, e1, hg1, _⟩ := hwr1 h0
    rw [e1] at e
    injection e with e
    obtain ⟨ad, e3, hb3, _⟩ := hh1.2 h0
    rw [e1] at e3
    injection e3 with e3
    subst e3
    have hbb : g1 = b := e
    have hlt : g1 < w1.heap.size := hb3
    refine ⟨by omega, by omega, fun e2 => ?_⟩
    have := unhide HRL b e2
    omega)
  rw [unhide HXL] at hc1 ⊢
  clear hh1 hwr1 hk1
  go_wp2
  go_loopw [4] (fun b wr => ∃ (B : Option Addr) (ys : List Int) (l cb f : Nat) (N1 : Int) (n1 : Nat), b = .slice B l cb ∧ l ≤ cb ∧ l ≤ 80000 ∧ Hid (ys.length = l) ∧ Hid (Holds w1 B ys ∧ Apart w1 g A0 B ys.length ∧ B8 ys) ∧ Hid (PutTo f N1 n1 ys NF nF) ∧ St base w1 g A0 N1 n1 wr) (fun b _ => slLen b)
  case atStart => exact ⟨A1, xs, lx, c1, F, N, n, rfl, hc1, hl, HXL, hide ⟨unhide HH1, unhide HAP, unhide HX⟩, HPT, unhide HS1⟩
  case round =>
    obtain ⟨B, ys, l, cb, f, N1, n1, rfl, hcb, hl8, HYL, HHB, HPU, hS⟩ := hrel
    have hn1 : n1 ≤ 1700000 := by have := (unhide HPU).2.1; omega
    have hk6 := cutI_max l
    have hkl := cutI_le l
    have HC1 := hide (cut_any (l : Int) wr (by omega) (by omega))
    rw [show (l : Int).toNat = l from by omega] at HC1
    have HC2 := hide (det_st (cutI l) hk6 hS (by omega) (by omega))
    have HC3F := hide fun (w3 : World) (h : St base w1 g A0 (tot N1 (detV (cutI l)) (detB (cutI l))) (n1 + detB (cutI l)) w3) => octs_st B (cutI l) cb (ys.take (cutI l)) h (by omega) (by rw [List.length_take, unhide HYL]; omega) (fun x hx => (unhide HHB).2.2 x (List.mem_of_mem_take hx)) ((unhide HHB).1.upto _) ((unhide HHB).2.1.less (by rw [List.length_take]; omega)) (by have := detB_le (cutI l); omega)
    clear hS hn1
    by_cases hlt : l < 16384
    · have HL := hide ((unhide HPU).last (by rw [unhide HYL]; exact hlt))
      rw [unhide HYL] at HL
      have hk : cutI l < 16384 := by omega
      generalize cutI l = k at *
      go_wp2_with fail
      with_reducible refine (unhide HC1).mono ?_
      rintro e w3 ⟨rfl, hw3⟩
      rw [hw3]
      clear hw3
      go_wp2_with fail
      with_reducible refine (unhide HC2).mono ?_
      rintro e w4 ⟨rfl, hS4⟩
      have HC3 := hide (unhide HC3F _ hS4)
      clear hS4
      go_wp2_with fail
      with_reducible refine (unhide HC3).mono ?_
      rintro e w5 ⟨rfl, hS5⟩
      rw [(unhide HL).1, (unhide HL).2] at hS5
      have HS5 := hide hS5
      clear hS5
      go_wp2
      refine bodyPost_ret (results_none rfl _ _ _) rfl ?_
      exact ⟨rfl, St.step ((Fr.refl g (rowOf A0) w).keeps (unhide HK1)) (.inl rfl) (unhide HS5)⟩
    · have HL := hide ((unhide HPU).more (by rw [unhide HYL]; omega))
      rw [unhide HYL] at HL
      have hk := (cutI_big (n := l) (by omega)).2
      have HCUT := hide ((unhide HHB).1.cut (m := cutI l) (c := cb) (by rw [unhide HYL]; omega) (by rw [unhide HYL]; omega))
      have HAC := hide (fun mm hmm => (unhide HHB).2.1.cut (k := cutI l) (c := cb) (m := mm) hmm)
      have HDL := hide (show (ys.drop (cutI l)).length = l - cutI l from by rw [List.length_drop, unhide HYL])
      have HD8 := hide (fun x hx => (unhide HHB).2.2 x (List.mem_of_mem_drop (i := cutI l) hx))
      have HYLE := hide (show (ys.drop (cutI l)).length ≤ ys.length from by rw [List.length_drop]; omega)
      generalize cutI l = k at *
      go_wp2_with fail
      with_reducible refine (unhide HC1).mono ?_
      rintro e w3 ⟨rfl, hw3⟩
      rw [hw3]
      clear hw3
      go_wp2_with fail
      with_reducible refine (unhide HC2).mono ?_
      rintro e w4 ⟨rfl, hS4⟩
      have HC3 := hide (unhide HC3F _ hS4)
      clear hS4
      go_wp2_with fail
      with_reducible refine (unhide HC3).mono ?_
      rintro e w5 ⟨rfl, hS5⟩
      have HS5 := hide hS5
      clear hS5
      go_wp2
      obtain ⟨f', hpt, _⟩ := unhide HL
      refine ⟨⟨_, ys.drop k, l - k, cb - k, f', _, _, rfl, by omega, by omega, HDL, hide ⟨unhide HCUT, unhide HAC _ (unhide HYLE), unhide HD8⟩, hide hpt, unhide HS5⟩, by simp [slLen]; omega⟩
set_option maxRecDepth 100000 in
set_option maxHeartbeats 2000000 in
theorem refPut_any (B0 : Option Addr) (lx cx F : Nat) (xs : List Int) {base : Nat} {w : World} {g : Nat} {N : Int} {n c0 : Nat} {A0 : Option Addr} (hW : RefV base w g N n A0 c0) (hb : base ≤ w.heap.size)
    (hxl : xs.length = lx) (hcx : lx ≤ cx) (hh : Holds w B0 xs) (hap : Apart w g A0 B0 xs.length) (hx : B8 xs) (hl : lx ≤ 80000) (hn : n ≤ 1000000) (hF : lx < 16384 * (F + 1)) (hF6 : F ≤ 100) :
    Calls Try.prog 14 #[.pointer (some ⟨g, 0, none⟩), .slice B0 lx cx] w fun e w' => e = .returned (.tuple #[]) ∧ RSt base w g A0 (putN F N xs) (n + putK F lx) w' := by
  have HCU := hide (refCuts_any (lx : Int) F w (by omega) (by omega) (by omega) (by omega))
  rw [show (lx : Int).toNat = lx from by omega] at HCU
  have hK := putK_le F lx
  have hnF : n + putK F lx ≤ 1700000 := by omega
  have HPT := hide (show PutTo F N n xs (putN F N xs) (n + putK F lx) from ⟨rfl, by rw [hxl], by rw [hxl]; exact hF⟩)
  generalize putN F N xs = NF at *
  generalize n + putK F lx = nF at *
  have HB0 := hide (show Holds w B0 xs ∧ Apart w g A0 B0 xs.length ∧ B8 xs from ⟨hh, hap, hx⟩)
  have HW := hide hW
  have hgl := hW.1.lt
  have HRL := hide fun b e => (hW.row_lt b e).2
  have HXL := hide hxl
  have hll := cutsL_length F lx
  obtain ⟨L, hLe⟩ : ∃ L, L = cutsL F lx := ⟨_, rfl⟩
  rw [← hLe] at hll HCU
  have HLE := hide hLe
  clear hh hap hx hW hK hF hxl hLe
  go_enter Try.func14, Try.ntmps14
  go_wp2_with fail
  with_reducible refine (unhide HCU).mono ?_
  rintro e w1 ⟨A1, c1, rfl, hc1, hown, hk1⟩
  have hz1 := hk1.size
  have HK1 := hide hk1
  have HI1 := hide (own_ints1 hown)
  have HAP1 := hide (show Apart w1 g A0 B0 xs.length from fun h0 b e => by
    obtain ⟨h1, h2, h3⟩ := (unhide HB0).2.1 h0 b e
    exact ⟨by omega, h2, h3⟩)
  have HS1 := hide (RSt.start (⟨(unhide HW).1.keeps hk1, own_keeps_ (unhide HW).2 hk1⟩ : RefV base w1 g N n A0 c0))
  have hrowI := fun b e => (hown.lt b ((own_row rfl).trans e))
  have HRI := hide hrowI
  generalize hnl : L.length = nl at *
  have HNL := hide hnl
  clear hown hk1 hrowI hnl
  go_wp2
  go_loopw [1, 5] (fun b i wr => ∃ (B : Option Addr) (ys : List Int) (l cb f j : Nat) (N1 : Int) (n1 : Nat), b = .slice B l cb ∧ i = .int .i64 j ∧ l ≤ cb ∧ l ≤ 80000 ∧ j ≤ nl ∧ Hid (ys.length = l) ∧ Hid (Holds w B ys ∧ Apart w1 g A0 B ys.length ∧ B8 ys) ∧ n1 ≤ 1700000 ∧ Hid ((j < nl ∧ L.drop j = cutsL f l ∧ PutTo f N1 n1 ys NF nF) ∨ (j = nl ∧ N1 = NF ∧ n1 = nF)) ∧ RSt base w1 g A0 N1 n1 wr) (fun _ i _ => nl - (intOf i).toNat)
  case atStart =>
    have hpos : 0 < nl := by
      rw [← unhide HNL, unhide HLE]
      cases F <;> simp only [cutsL] <;> (try split) <;> simp
    exact ⟨B0, xs, lx, cx, F, 0, N, n, rfl, rfl, hcx, hl, by omega, HXL, hide ⟨(unhide HB0).1, unhide HAP1, (unhide HB0).2.2⟩, by omega, hide (.inl ⟨hpos, unhide HLE, unhide HPT⟩), unhide HS1⟩
  case round =>
    obtain ⟨B, ys, l, cb, f, j, N1, n1, rfl, rfl, hcb, hl8, hj, HYL, HHB, hn1, HCASE, hS⟩ := hrel
    by_cases hjl : j < nl
    · obtain ⟨hdr, hpu⟩ : L.drop j = cutsL f l ∧ PutTo f N1 n1 ys NF nF := by
        rcases unhide HCASE with ⟨_, h1, h2⟩ | ⟨h1, _⟩
        · exact ⟨h1, h2⟩
        · omega
      have HPU := hide hpu
      have HDR := hide hdr
      have hfr := hS.fr
      have hk6 := cutI_max l
      have hkl := cutI_le l
      have hget : L.getD j 0 = (cutI l : Int) := by
        have h0 : (L.drop j)[0]? = L[j]? := by rw [List.getElem?_drop, Nat.add_zero]
        rw [hdr] at h0
        rw [List.getD, ← h0]
        cases f with
        | zero => 
          have := hpu.2.2
          rw [unhide HYL] at this
          rw [cutsL, cutI_small (by omega)]; rfl
        | succ f =>
          simp only [cutsL]
          split
          · rw [cutI_small (by assumption)]; rfl
          · rfl
      have hhI : HoldsI wr A1 L := apartI (unhide HI1) (unhide HRI) (by omega) (unhide HRL) hfr
      obtain ⟨bi, oi, rfl, hci⟩ := hhI.at_ (k := j) (by rw [unhide HNL]; exact hjl)
      rw [hget] at hci
      have HC2 := hide (refDet_st (cutI l) hk6 hS (by omega) (by omega))
      have HC3F := hide fun (w3 : World) (h : RSt base w1 g A0 (tot N1 (detV (cutI l)) (detB (cutI l))) (n1 + detB (cutI l)) w3) => refOcts_st B (cutI l) cb (ys.take (cutI l)) h (by omega) (by rw [List.length_take, unhide HYL]; omega) (fun x hx => (unhide HHB).2.2 x (List.mem_of_mem_take hx)) (((unhide HHB).1.keeps (unhide HK1)).upto _) ((unhide HHB).2.1.less (by rw [List.length_take]; omega)) (by have := detB_le (cutI l); omega)
      have HCI := hide fun (w3 : World) (N2 : Int) (n2 : Nat) (h : RSt base w1 g A0 N2 n2 w3) => (show w3.cell? ⟨bi, oi + j, none⟩ = some (.int .i64 (cutI l : Nat)) from by
        have hh3 : HoldsI w3 (some ⟨bi, oi, none⟩) L := apartI (unhide HI1) (unhide HRI) (by omega) (unhide HRL) h.fr
        obtain ⟨b9, o9, e9, h9⟩ := hh3.at_ (k := j) (by rw [unhide HNL]; exact hjl)
        injection e9 with e9
        injection e9 with e91 e92 _
        subst e91; subst e92
        rw [h9, hget])
      have HCUT := hide ((unhide HHB).1.cut (m := cutI l) (c := cb) (by rw [unhide HYL]; omega) (by rw [unhide HYL]; omega))
      have HAC := hide (fun mm hmm => (unhide HHB).2.1.cut (k := cutI l) (c := cb) (m := mm) hmm)
      have HDL := hide (show (ys.drop (cutI l)).length = l - cutI l from by rw [List.length_drop, unhide HYL])
      have HD8 := hide (fun x hx => (unhide HHB).2.2 x (List.mem_of_mem_drop (i := cutI l) hx))
      have HYLE := hide (show (ys.drop (cutI l)).length ≤ ys.length from by rw [List.length_drop]; omega)
      have HNEXT := hide (show ∃ f', n1 + detB (cutI l) + 8 * cutI l ≤ 1700000 ∧ ((j + 1 < nl ∧ L.drop (j + 1) = cutsL f' (l - cutI l) ∧ PutTo f' (appB (tot N1 (detV (cutI l)) (detB (cutI l))) (ys.take (cutI l))) (n1 + detB (cutI l) + 8 * cutI l) (ys.drop (cutI l)) NF nF) ∨ (j + 1 = nl ∧ appB (tot N1 (detV (cutI l)) (detB (cutI l))) (ys.take (cutI l)) = NF ∧ n1 + detB (cutI l) + 8 * cutI l = nF)) from by
        have hdd : L.drop (j + 1) = (L.drop j).drop 1 := by rw [List.drop_drop]
        have hld : (L.drop (j + 1)).length = nl - (j + 1) := by rw [List.length_drop, unhide HNL]
        by_cases hlt : l < 16384
        · obtain ⟨q1, q2⟩ := hpu.last (by rw [unhide HYL]; exact hlt)
          rw [unhide HYL] at q1 q2
          refine ⟨0, by omega, .inr ⟨?_, q1, q2⟩⟩
          rw [hdd, hdr, cutsL_last f l hlt] at hld
          simp at hld
          omega
        · obtain ⟨f', q1, q2⟩ := hpu.more (by rw [unhide HYL]; omega)
          rw [unhide HYL] at q1
          subst q2
          have hn2 := q1.2.1
          rw [hdr, cutsL_more f' l (by omega)] at hdd
          refine ⟨f', by omega, .inl ⟨?_, hdd, q1⟩⟩
          rw [hdd] at hld
          have : 0 < (cutsL f' (l - cutI l)).length := by cases f' <;> simp only [cutsL] <;> (try split) <;> simp
          simp at hld
          omega)
      clear hS hhI hget hdr hpu hfr HCASE
      generalize cutI l = k at *
      go_wp2_with fail
      with_reducible refine (unhide HC2).mono ?_
      rintro e w4 ⟨rfl, hS4⟩
      have HC3 := hide (unhide HC3F _ hS4)
      have hci4 := unhide HCI _ _ _ hS4
      clear hS4
      go_wp2_with fail
      with_reducible refine (unhide HC3).mono ?_
      rintro e w5 ⟨rfl, hS5⟩
      have HS5 := hide hS5
      have hci5 := unhide HCI _ _ _ hS5
      clear hS5
      go_wp2
      obtain ⟨f', hnn, hca⟩ := unhide HNEXT
      refine ⟨⟨_, ys.drop k, l - k, cb - k, f', j + 1, _, _, rfl, by go_num, by omega, by omega, by omega, HDL, hide ⟨unhide HCUT, unhide HAC _ (unhide HYLE), unhide HD8⟩, hnn, hide hca, unhide HS5⟩, by simp [intOf]; omega⟩
    · obtain ⟨_, q1, q2⟩ : j = nl ∧ N1 = NF ∧ n1 = nF := by
        rcases unhide HCASE with ⟨h1, _⟩ | h1
        · omega
        · exact h1
      rw [q1, q2] at hS
      have HS := hide hS
      clear hS HCASE q1 q2
      go_wp2
      go_end0
      exact ⟨rfl, RSt.step ((Fr.refl g (rowOf A0) w).keeps (unhide HK1)) (.inl rfl) (unhide HS)⟩
end Go.Proofs.Ytgaapigagglgbaa
