/- The walk of LengthMany. -/
import Derived.Test.YtgaapigagglgbaaLenM4
import Derived.Test.YtgaapigagglgbaaLenB1
namespace Go.Proofs.Ytgaapigagglgbaa
open Go.ChangeShapes Go.WideShapes Go.ChangeAt Go.RowKit
set_option linter.unusedVariables false

theorem open_u64s {H : Type} {enc : TypeId × Value → H} {W : World} {b0 : Nat} {v : Value} {d : DataW H} {p : List MemPlace}
    (hv : Value.okWide Try.prog W .any b0 55 v) (h : DataW.Trod enc Try.prog W 0 (fun _ => true) true 55 v d p) :
    ∃ (A : Option Addr) (xs : List Int) (c : Nat), v = .slice A xs.length c ∧ HoldsU W A xs ∧ U64 xs ∧ xs.length ≤ maxLen := by
  obtain ⟨a, n, c, rfl⟩ := okWide_slice Try.underlying55 hv
  obtain ⟨fuel, hf⟩ := h
  rcases open_ints Try.underlying55 Try.underlying40 (by kernel_rfl) hf with ⟨hcs, _⟩ | ⟨x, l, cc, zs, hcs, _, hl, hm, hz, hx, hcell, hwz⟩
  · simp [Value.cells] at hcs
    obtain ⟨rfl, rfl, rfl⟩ := hcs
    exact ⟨none, [], 0, rfl, ⟨by simp, fun h => absurd h (by simp)⟩, (fun _ h => absurd h (by simp)), by simp⟩
  · simp [Value.cells] at hcs
    obtain ⟨rfl, rfl, rfl⟩ := hcs
    have hzl : zs.length = c := by simpa using hz
    have hlen : (zs.take n).length = n := by simp; omega
    refine ⟨some x, zs.take n, c, by rw [hlen], ?_, ?_, by omega⟩
    · refine ⟨by simp, fun hn => ⟨x, rfl, ?_, fun j u hu => ?_⟩⟩
      · rw [hlen] at hn
        have hc0 := hcell 0 (by omega)
        have hlt := cell_lt1 hc0
        rwa [block_of_add] at hlt
      · have hj : j < n := by
          rcases Nat.lt_or_ge j n with h1 | h1
          · exact h1
          · rw [List.getElem?_eq_none (by rw [List.length_map, hlen]; exact h1)] at hu; cases hu
        rw [hcell j (by omega)]
        rw [List.getElem?_map, List.getElem?_take_of_lt hj] at hu
        rw [List.getElem?_eq_getElem (by omega)] at hu
        simp at hu
        have hjl : j < zs.length := by omega
        simp [← hu, hjl]
    · intro y hy
      exact bounds_u64 (hwz y (List.mem_of_mem_take hy))
theorem u64s_one (l : List Int) : ∀ u ∈ UL l, u.oneCell' = true := by
  intro u hu
  obtain ⟨x, _, rfl⟩ := List.mem_map.1 hu
  rfl
/-- The values up to now. -/
def AllM (w : World) (most : Int) (k : Nat) (done : List Int) (v : Value) (wr : World) : Prop :=
  Blk wr (w.heap.size + 1) 55 #[v] ∧ wr.ownsRow (w.heap.size + 2) 40 1 v done.length (UL done) ∧ U64 done ∧ done.length ≤ 60 * k ∧ Blk wr w.heap.size 3 #[.int .i64 most] ∧ Keeps w wr ∧ w.heap.size + 2 ≤ wr.heap.size
theorem allM_app {w wr w2 : World} {most : Int} {k : Nat} {done vs : List Int} {v v2 : Value} (h : AllM w most k done v wr) (hu : U64 vs) (hvl : vs.length ≤ 60) (hown : w2.ownsRow (w.heap.size + 2) 40 1 v2 (done.length + vs.length) (UL done ++ UL vs)) (hg : wr.grownBy w2 v.ownBlock) :
    Blk w2 (w.heap.size + 1) 55 #[v] ∧ AllM w most (k + 1) (done ++ vs) v2 (w2.setCell ⟨w.heap.size + 1, 0, none⟩ v2) := by
  obtain ⟨h1, h2, h3, h4, h5, h6, h7⟩ := h
  have hrow := fun b e => (h2.lt b e).1
  have hs := hg.size
  have hb1 : Blk w2 (w.heap.size + 1) 55 #[v] := (hg.block _ h1.lt (fun e => by have := hrow _ e.symm; omega)).trans h1
  have hb5 : Blk w2 w.heap.size 3 #[.int .i64 most] := (hg.block _ h5.lt (fun e => by have := hrow _ e.symm; omega)).trans h5
  have hk2 : Keeps w w2 := h6.grown hg (fun b e => by have := hrow b e; omega)
  have hfs : Fr (w.heap.size + 1) none w2 (w2.setCell ⟨w.heap.size + 1, 0, none⟩ v2) := (Fr.refl _ none w2).setCell (⟨w.heap.size + 1, 0, none⟩ : Addr) _ (.inl rfl)
  refine ⟨hb1, by simpa using hb1.set_ 0 v2, ?_, ?_, by rw [List.length_append]; omega, fr_blk hfs hb5 (by omega) (fun e => by cases e), hk2.setCell (by show w.heap.size ≤ w.heap.size + 1; omega) _, by simpa [World.setCell] using (by omega : w.heap.size + 2 ≤ w2.heap.size)⟩
  · rw [List.length_append, UL, List.map_append]
    refine own_kept hown fun b e => Below.heap_setCell _ (⟨w.heap.size + 1, 0, none⟩ : Addr) _ b ?_
    have := (hown.lt b e).1
    show b ≠ w.heap.size + 1
    omega
  · intro x hx
    rcases List.mem_append.1 hx with h | h
    · exact h3 x h
    · exact hu x h

set_option maxRecDepth 100000 in
set_option maxHeartbeats 8000000 in
theorem lengthMany_any (P : Option Addr) (vs : List Int) (c0 : Nat) (rep most : Int) (w : World) (hh : HoldsU w P vs) (hu : U64 vs) (hvl : vs.length ≤ maxLen) (hr0 : -9223372036854775808 ≤ rep) (hr1 : rep ≤ 9223372036854775807) (hm0 : -9223372036854775808 ≤ most) (hm1 : most ≤ 9223372036854775807) :
    Calls Try.prog 6 #[.slice P vs.length c0, .int .i64 rep, .int .i64 most] w fun e w' => e = .returned (.bool true) ∧ Keeps w w' := by
  have hmf : ∀ (fn : Fn) (first cap : Array Value) (w : World), (Instr.makeFunc fn first cap).run Try.prog w = .ok (.func fn first cap) w := fun _ _ _ _ => rfl
  obtain ⟨i0, hi0, hz0, hz1, hz2⟩ := info_parts u64_info
  obtain ⟨rp, hrp, HRP⟩ := mod_u rep 9 (by omega)
  have hvm : vs.length ≤ 9223372036854775807 := by unfold maxLen at hvl; exact hvl
  have HH := hide hh
  have HU := hide hu
  clear hh hu hvl
  generalize hvn : vs.length = vl at *
  have HVN := hide hvn
  clear hvn
  have hb0 := (Blk.new w 3 #[.int .i64 most]).alloc (.cells #[.slice none 0 0] 55)
  have hb1 := Blk.new (w.alloc (.cells #[.int .i64 most] 3)) 55 #[.slice none 0 0]
  rw [World.size_alloc] at hb1
  have HA0 := hide (show AllM w most 0 [] (.slice none 0 0) ((w.alloc (.cells #[.int .i64 most] 3)).alloc (.cells #[.slice none 0 0] 55)) from ⟨hb1, World.ownsRow_nil _ _ _ _, (fun x hx => by simp at hx), by simp, hb0, ((Keeps.refl w).alloc _).alloc _, by rw [World.size_alloc, World.size_alloc]; omega⟩)
  clear hb0 hb1
  have hsv : (IntKind.u64.wrap rep).tmod 9 = (rp : Int) := unhide HRP
  go_enter Try.func6, Try.ntmps6
  go_wp2
  clear hsv HRP
  go_loopw [8] (fun i wr => ∃ (k : Nat) (done : List Int) (v : Value), k ≤ rp ∧ i = .int .i64 k ∧ AllM w most k done v wr) (fun i _ => rp - (intOf i).toNat)
  case atStart => exact ⟨0, [], _, Nat.zero_le _, rfl, unhide HA0⟩
  case round =>
    obtain ⟨k, done, v, hk, rfl, hM⟩ := hrel
    by_cases hlt : k < rp ∧ vl ≤ 60
    · obtain ⟨hlt1, hlt2⟩ := hlt
      have HM := hide hM
      have hcv : wr.cell? ⟨w.heap.size + 1, 0, none⟩ = some v := hM.1.cell 0
      have hzw := hM.2.2.2.2.2.2
      have hdl := hM.2.2.2.1
      have HOWN := hide hM.2.1
      have HRD := hide (show Reads wr wr.heap.size 1 P vl (UL vs) from by have := (unhide HH).keeps hM.2.2.2.2.2.1; unfold HoldsU at this; rw [unhide HVN] at this; exact this)
      clear hM
      go_wp2_with (at_builtin; go_loud (refine wpList_append_any _ rfl (.tmp 32) (.tmp 33) _ rfl (w.heap.size + 2) 40 i0 _ 1 8 Try.underlying55 hi0 hz0 hz1 hz2 rfl (by omega) v done.length _ rfl (unhide HOWN) _ P vl c0 _ rfl (unhide HRD) (u64s_one _) (by simp only [maxLen]; omega) (by omega) hzw ?_; intro v2 w2 hown2 hg2 _hat2; rw [← unhide HVN] at hown2; obtain ⟨B2, d2, rfl, _⟩ := own_form hown2; obtain ⟨hb2, hM2⟩ := allM_app (unhide HM) (unhide HU) (by rw [unhide HVN]; exact hlt2) hown2 hg2; obtain ⟨hbc2, hbf2, hbl2⟩ := hb2.facts; have HM2 := hide hM2; clear hb2 hM2 hown2 hg2 _hat2))
      exact ⟨⟨k + 1, _, _, by omega, by go_num, unhide HM2⟩, by simp [intOf]; omega⟩
    · have hcases : (k < rp ∧ 60 < vl) ∨ ¬ (k < rp) := by omega
      have hrep : done.length ≤ 480 := by have := hM.2.2.2.1; omega
      clear hlt
      rcases hcases with ⟨hA1, hA2⟩ | hA1
      all_goals
        obtain ⟨hMa, hMo, hMu, _, hMb, hMk, hMz⟩ := hM
        obtain ⟨B, d, rfl, _⟩ := own_form hMo
        obtain ⟨l, hl⟩ : ∃ l, l = done.length := ⟨_, rfl⟩
        rw [← hl] at hMo hMa hrep
        have hrowB := fun b e => hMo.lt b ((own_row rfl).trans e)
        have hVar : VarU wr (w.heap.size + 1) B l d done := ⟨hMa, by have := Reads.of_own hMo; unfold HoldsU; rw [← hl]; exact this, hl.symm, hMu⟩
        have hw0 : WrV wr.heap.size (wr.alloc (.cells #[.slice none 0 0, .int .i64 0] 32)) wr.heap.size 0 0 0 0 none 0 := wh_new wr _
        have hkw := (Keeps.refl wr).alloc (.cells #[.slice none 0 0, .int .i64 0] 32)
        have hV3 := hVar.keeps hkw
        have hga3 : (wr.alloc (.cells #[.slice none 0 0, .int .i64 0] 32)).cell? ⟨w.heap.size + 1, 0, none⟩ = some (.slice B l d) := hV3.1.cell 0
        have hAp3 : ApartU (wr.alloc (.cells #[.slice none 0 0, .int .i64 0] 32)) wr.heap.size none B (w.heap.size + 1) := ⟨⟨by omega, fun e => by cases e⟩, fun b e => ⟨by have := hrowB b e; omega, fun e2 => by cases e2⟩⟩
        have HC1 := hide (putMany_any (w.heap.size + 1) l d B done hw0 (by omega) (by rw [World.size_alloc]; omega) hV3 hAp3 (by omega) (by omega))
        rw [Nat.zero_add] at HC1
        have HV3 := hide hV3
        have HAP3 := hide hAp3
        have HROWB := hide hrowB
        have HB3 := hide (hMb.keeps hkw)
        have HK3 := hide (hMk.trans hkw)
        have HDL := hide hl.symm
        have HDU := hide hMu
        clear hMa hMo hMu hMb hMk hl hrowB hVar hw0 hkw hV3 hAp3
        go_wp2_with fail
        with_reducible refine (unhide HC1).mono ?_
        rintro e w4 ⟨rfl, hS4⟩
        have hf4 := hS4.fr
        have hz4 := hf4.2.2.2.1
        rw [World.size_alloc] at hz4
        have hV4 := (unhide HV3).fr hf4 (unhide HAP3)
        have hb4 : Blk w4 w.heap.size 3 #[.int .i64 most] := fr_blk hf4 (unhide HB3) (by omega) (fun e => by cases e)
        have hk4 : Keeps w w4 := fr_keeps (unhide HK3) hf4 (by omega) (fun b e => by cases e)
        obtain ⟨m4, room4, A4, ca4, hW4, hr4, _, _⟩ := hS4
        have hkv := (Keeps.refl w4).alloc (.cells #[.slice none 0 0] 37)
        have hv5 : RefV w4.heap.size (w4.alloc (.cells #[.slice none 0 0] 37)) w4.heap.size 0 0 none 0 := ⟨Blk.new w4 _ _, by simpa [bl] using World.ownsRow_nil _ _ _ _⟩
        have hV5 := hV4.keeps hkv
        have hga5 : (w4.alloc (.cells #[.slice none 0 0] 37)).cell? ⟨w.heap.size + 1, 0, none⟩ = some (.slice B l d) := hV5.1.cell 0
        have HW5 := hide (hW4.alloc_ (.cells #[.slice none 0 0] 37))
        have hg4l := hW4.2.1.lt
        have HRA4 := hide (fun b e => hW4.row_lt b e)
        have HC2 := hide (refDet_st l (by omega) (RSt.start hv5) (by rw [World.size_alloc]; omega) (by omega))
        rw [Nat.zero_add] at HC2
        have HV5 := hide hV5
        have HB5 := hide (hb4.keeps hkv)
        have HK5 := hide (hk4.trans hkv)
        have hz5 : (w4.alloc (.cells #[.slice none 0 0] 37)).heap.size = w4.heap.size + 1 := World.size_alloc _ _
        have HZ5 := hide hz5
        have HAP5 := hide (show ApartU (w4.alloc (.cells #[.slice none 0 0] 37)) w4.heap.size none B (w.heap.size + 1) from ⟨⟨by omega, fun e => by cases e⟩, fun b e => ⟨by have := unhide HROWB b e; omega, fun e2 => by cases e2⟩⟩)
        have hdb := detB_le l
        have HRDS := hide (many_rd done l (unhide HDL) (by omega))
        have hol := octW_length (manyN (tot 0 (detV l) (detB l)) done l) (detB l + 5 * l)
        have HY8 := hide (octW_bytes (manyN (tot 0 (detV l) (detB l)) done l) (detB l + 5 * l))
        have hle : detB l + 5 * l ≤ 8 * (octW (manyN (tot 0 (detV l) (detB l)) done l) (detB l + 5 * l)).length := by omega
        have hyl : (octW (manyN (tot 0 (detV l) (detB l)) done l) (detB l + 5 * l)).length ≤ 2000 := by omega
        have HXB := hide fun (j : Nat) (hj : j < l) (wx : World) (h : RSt w4.heap.size (w4.alloc (.cells #[.slice none 0 0] 37)) w4.heap.size none (manyN (tot 0 (detV l) (detB l)) done j) (detB l + 5 * j) wx) => (show Calls _ _ _ wx _ from by
          have hx := (unhide HDU).at_ j
          have hc := xBits_st (done.getD j 0) 5 5 h (by rw [unhide HZ5]; omega) hx.1 hx.2 (by omega) (by omega)
          rw [← manyN_succ _ done j (by rw [unhide HDL]; exact hj)] at hc
          exact hc)
        have HWB := hide fun (wx : World) (hf : Fr w4.heap.size none (w4.alloc (.cells #[.slice none 0 0] 37)) wx) => (show WS wr.heap.size wx wr.heap.size (manyN (tot 0 (detV l) (detB l)) done l) (detB l + 5 * l) from ⟨m4, room4, A4, ca4, (unhide HW5).fr hf (by omega) (fun e => by cases e) (fun e => by have := unhide HRA4 _ e; omega) (fun b e e2 => by cases e2), hr4⟩)
        clear hf4 hV4 hb4 hk4 hW4 hkv hv5 hV5 hz5 hol
        go_wp2_with fail
        with_reducible refine (unhide HC2).mono ?_
        rintro e w6 ⟨rfl, hS6⟩
        have HS6 := hide hS6
        clear hS6
        go_wp2
        go_loopw [11] (fun i wx => ∃ (j : Nat) (wy : World), wy = wx ∧ j ≤ l ∧ i = .int .i64 j ∧ RSt w4.heap.size (w4.alloc (.cells #[.slice none 0 0] 37)) w4.heap.size none (manyN (tot 0 (detV l) (detB l)) done j) (detB l + 5 * j) wy) (fun i _ => l - (intOf i).toNat)
        case atStart => exact ⟨0, _, rfl, Nat.zero_le _, rfl, unhide HS6⟩
        case round =>
          obtain ⟨j, wy, rfl, hj, rfl, hS⟩ := hrel
          have hVy := (unhide HV5).fr hS.fr (unhide HAP5)
          have hgay : wy.cell? ⟨w.heap.size + 1, 0, none⟩ = some (.slice B l d) := hVy.1.cell 0
          by_cases hlt : j < l
          · obtain ⟨bb, bo, rfl, hel⟩ := hVy.2.1.at_ (k := j) (by rw [unhide HDL]; exact hlt)
            have HC3 := hide (unhide HXB j hlt wy hS)
            clear hS hVy
            generalize done.getD j 0 = vj at *
            go_wp2_with fail
            with_reducible refine (unhide HC3).mono ?_
            rintro e w7 ⟨rfl, hS7⟩
            have HS7 := hide hS7
            clear hS7
            go_wp2
            exact ⟨⟨j + 1, _, rfl, by omega, by go_num, unhide HS7⟩, by simp [intOf]; omega⟩
          · obtain rfl : j = l := by omega
            have hfy := hS.fr
            have hzy := hfy.2.2.2.1
            rw [unhide HZ5] at hzy
            have hwsy := unhide HWB wy hfy
            have hrwy := hS.ws
            have hby : Blk wy w.heap.size 3 #[.int .i64 most] := fr_blk hfy (unhide HB5) (by omega) (fun e => by cases e)
            have hky : Keeps w wy := fr_keeps (unhide HK5) hfy (by omega) (fun b e => by cases e)
            have HWSY := hide hwsy
            have HRWY := hide hrwy
            have HBY := hide hby
            have HKY := hide hky
            have HVY := hide hVy
            clear hS hfy hwsy hrwy hby hky hVy HXB HWB HV5 HB5 HK5 HS6 hlt
            obtain ⟨ys, hys⟩ : ∃ ys, ys = octW (manyN (tot 0 (detV j) (detB j)) done j) (detB j + 5 * j) := ⟨_, rfl⟩
            rw [← hys] at HRDS HY8 hle hyl
            have HYS := hide hys.symm
            clear hys
            have HB8F := hide fun (w8 : World) (hk : Keeps wy w8) => (show Calls _ _ _ w8 _ from by
              have hc := wBytes_st ((unhide HWSY).keeps hk) (by omega)
              rw [unhide HYS] at hc
              exact hc)
            have HX8F := hide fun (w8 : World) (hk : Keeps wy w8) => (show Calls _ _ _ w8 (GivesBytes 5 ys w8) from by
              obtain ⟨A, c, q1, q2⟩ := unhide HRWY
              have hc := xBytes_st (⟨A, c, q1.keeps hk, own_keeps_ q2 hk⟩ : RWS w4.heap.size w8 w4.heap.size _ _) (by omega)
              rw [unhide HYS] at hc
              exact hc)
            clear HWSY HRWY
            go_wp2_with fail
            refine (awake18_any _).mono ?_
            rintro e w8 ⟨rfl, hk8⟩
            have HC8 := hide (unhide HB8F w8 hk8)
            have HK8 := hide hk8
            clear hk8
            go_wp2_with fail
            with_reducible refine (unhide HC8).mono ?_
            rintro e w9 ⟨A9, c9, rfl, _, hf9⟩
            have HC9 := hide (unhide HX8F w9 ((unhide HK8).trans hf9.2))
            have HH9 := hide hf9.holds
            have HK9 := hide ((unhide HK8).trans hf9.2)
            clear hf9
            go_wp2_with fail
            with_reducible refine (unhide HC9).mono ?_
            rintro e w10 ⟨A10, c10, rfl, _, hf10⟩
            have HSM := hide (sameBytes_any A9 A10 ys ys c9 c10 w10 ((unhide HH9).keeps hf10.2) hf10.holds (unhide HY8) (unhide HY8))
            rw [decide_eq_true rfl] at HSM
            have HK10 := hide ((unhide HK9).trans hf10.2)
            have HC10 := hide (unhide HB8F w10 (unhide HK10))
            clear hf10
            go_wp2_with fail
            with_reducible refine (unhide HSM).mono ?_
            rintro e w11 ⟨rfl, hw11⟩
            rw [← hw11]
            clear hw11
            go_wp2_with fail
            with_reducible refine (unhide HC10).mono ?_
            rintro e w12 ⟨A12, c12, rfl, _, hf12⟩
            have HC12 := hide (wrNew_any A12 ys c12 w12 hf12.holds (by omega))
            have HK12 := hide ((unhide HK10).trans hf12.2)
            have hz12 := hf12.2.size
            have hzy10 := (unhide HK10).size
            clear hf12
            go_wp2_with fail
            with_reducible refine (unhide HC12).mono ?_
            rintro e w13 ⟨gr, Ar, cr, rfl, hR13, hg13, hrow13, hk13, _⟩
            have hgr13 := hR13.1.lt
            have HR13 := hide hR13
            have HK13 := hide ((unhide HK12).trans hk13)
            have HC13 := hide (unhide HB8F w13 (unhide HK13))
            have HRS13 := hide hrow13
            clear hR13 hrow13 hk13
            go_wp2_with fail
            with_reducible refine (unhide HC13).mono ?_
            rintro e w14 ⟨A14, c14, rfl, _, hf14⟩
            have HC14 := hide (wrNew_any A14 ys c14 w14 hf14.holds (by omega))
            have hz14 := hf14.2.size
            have HK14 := hide hf14.2
            clear hf14
            go_wp2_with fail
            with_reducible refine (unhide HC14).mono ?_
            rintro e w15 ⟨gs, As, cs, rfl, hS15, hg15, hrow15, hk15, _⟩
            have hgs15 := hS15.1.lt
            have HRS15 := hide hrow15
            have hkp := (Keeps.refl w15).alloc (.cells #[.slice none 0 0] 55)
            have hk1315 := (unhide HK14).trans hk15
            have HS16 := hide (hS15.keeps hkp)
            have hR16 := (unhide HR13).keeps (hk1315.trans hkp)
            have hkyy := (((unhide HK13).trans hk1315).trans hkp)
            have hV16 := (unhide HVY).keeps hkyy
            have hga16 : (w15.alloc (.cells #[.slice none 0 0] 55)).cell? ⟨w.heap.size + 1, 0, none⟩ = some (.slice B j d) := hV16.1.cell 0
            have HV16 := hide hV16
            have HB16 := hide ((unhide HBY).keeps hkyy)
            have HK16 := hide ((unhide HKY).trans hkyy)
            have hz16 : (w15.alloc (.cells #[.slice none 0 0] 55)).heap.size = w15.heap.size + 1 := World.size_alloc _ _
            have HZ16 := hide hz16
            have hz15 := hk15.size
            obtain ⟨hq1, hq2, hq3⟩ := unhide HRDS
            have HEND := hide hq3
            have HQ2 := hide hq2
            have HC16 := hide (take2_any hR16 (Blk.new w15 _ _) (by omega) (unhide HY8) (by omega) (by omega) hq1 hle)
            have HQ1 := hide hq1
            clear hS15 hrow15 hk15 hkp hk1315 hR16 hkyy hV16 hz16 hq1 hq2 hq3
            go_wp2_with fail
            with_reducible refine (unhide HC16).mono ?_
            rintro e w17 ⟨rfl, v17, hR17, hg17, hO17, hF17⟩
            obtain ⟨B17, d17, rfl, _⟩ := own_form hO17
            have hz17 := hF17.2.2.2.1
            rw [unhide HZ16] at hz17 hO17 hF17
            have hV17 := frT_var hF17 (unhide HV16) ⟨by omega, by omega, by omega⟩ (fun b e => by have := unhide HROWB b e; omega)
            have hb17 := frT_blk hF17 (unhide HB16) (by omega) (by omega) (by omega)
            have hS17 := frT_wrv hF17 (unhide HS16) ⟨by omega, by omega, by omega⟩ (fun b e => by have := unhide HRS15 b e; have := (unhide HS16).2.2 b e; omega)
            have hk17 := frT_keeps (unhide HK16) hF17 (by have := (unhide HK16).size; omega) (by omega) (by omega)
            obtain ⟨hbc17, hbf17, hbl17⟩ := hb17.facts
            have hgm17 : w17.cell? ⟨w.heap.size, 0, none⟩ = some (.int .i64 most) := hbc17 0
            have hga17 : w17.cell? ⟨w.heap.size + 1, 0, none⟩ = some (.slice B j d) := hV17.1.cell 0
            obtain ⟨ms, hms, HMS⟩ := mod_u most (j + 1) (by omega)
            have hsv : (IntKind.u64.wrap most).tmod ((j : Int) + 1) = (ms : Int) := by have := unhide HMS; rwa [show ((j + 1 : Nat) : Int) = (j : Int) + 1 from by omega] at this
            have HMS2 := hide hms
            clear HMS
            have HRG := hide (fun b e => (hO17.lt b e).2)
            have hset : Fr w.heap.size none w17 (w17.setCell ⟨w.heap.size, 0, none⟩ (.int .i64 (ms : Nat))) := (Fr.refl w.heap.size none w17).setCell (⟨w.heap.size, 0, none⟩ : Addr) _ (.inl rfl)
            have hz18 : (w17.setCell ⟨w.heap.size, 0, none⟩ (.int .i64 (ms : Nat))).heap.size = w17.heap.size := by simp [World.setCell]
            have hF18 : FrT w17.heap.size w.heap.size w.heap.size w17 (w17.setCell ⟨w.heap.size, 0, none⟩ (.int .i64 (ms : Nat))) := fr_frT hset rfl
            have hkt := (Keeps.refl (w17.setCell ⟨w.heap.size, 0, none⟩ (.int .i64 (ms : Nat)))).alloc (.cells #[.int .i64 0] 3)
            have hV19 := (frT_var hF18 hV17 ⟨by omega, by omega, by omega⟩ (fun b e => by have := unhide HROWB b e; omega)).keeps hkt
            have hS19 := (frT_wrv hF18 hS17 ⟨by omega, by omega, by omega⟩ (fun b e => by have := unhide HRS15 b e; have := hS17.2.2 b e; omega)).keeps hkt
            have hR19 := (frT_wrv hF18 hR17 ⟨by omega, by omega, by omega⟩ (fun b e => by have := unhide HRS13 b e; have := hR17.2.2 b e; omega)).keeps hkt
            have hm19 : Blk ((w17.setCell ⟨w.heap.size, 0, none⟩ (.int .i64 (ms : Nat))).alloc (.cells #[.int .i64 0] 3)) w.heap.size 3 #[.int .i64 (ms : Nat)] := by
              have := (hb17.set_ 0 (.int .i64 (ms : Nat))).keeps hkt
              simpa using this
            have hg19 := (frT_blk hF18 hg17 (by omega) (by omega) (by omega)).keeps hkt
            have hO19 := own_keeps_ (own_kept hO17 (fun b e => hF18.2.2.2.2 b (hO17.lt b e).2 (by have := (hO17.lt b e).1; omega) (by have := (hO17.lt b e).1; omega))) hkt
            have ht19 := Blk.new (w17.setCell ⟨w.heap.size, 0, none⟩ (.int .i64 (ms : Nat))) 3 #[.int .i64 0]
            rw [hz18] at ht19
            have hga19 : ((w17.setCell ⟨w.heap.size, 0, none⟩ (.int .i64 (ms : Nat))).alloc (.cells #[.int .i64 0] 3)).cell? ⟨w.heap.size + 1, 0, none⟩ = some (.slice B j d) := hV19.1.cell 0
            have hk19 := (frT_keeps hk17 hF18 (by have := hk17.size; omega) (Nat.le_refl _) (Nat.le_refl _)).trans hkt
            have hz19 : ((w17.setCell ⟨w.heap.size, 0, none⟩ (.int .i64 (ms : Nat))).alloc (.cells #[.int .i64 0] 3)).heap.size = w17.heap.size + 1 := by rw [World.size_alloc, hz18]
            have HC19 := hide (take3_any (l := j) (most := (ms : Nat)) hS19 ht19 hm19 (by omega) (by omega) (unhide HY8) (by omega) (by omega) (unhide HQ1) hle (by omega) (by omega))
            have HZ19 := hide hz19
            have HV19 := hide hV19
            have HR19 := hide hR19
            have HG19 := hide hg19
            have HO19 := hide hO19
            have HK19 := hide hk19
            clear hset hF18 hkt hV19 hS19 hR19 hm19 hg19 hO19 ht19 hk19 hV17 hS17 hR17 hg17 hO17 hk17 hF17 hz19 hb17
            go_wp2_with fail
            clear hsv
            with_reducible refine (unhide HC19).mono ?_
            rintro e w20 ⟨jj, ⟨xx, rfl⟩, hjj, hS20, ht20, hm20, hF20⟩
            have hz20 := hF20.2.2.2.1
            rw [unhide HZ19] at hz20 hF20
            have hV20 := frT_var hF20 (unhide HV19) ⟨by omega, by omega, by omega⟩ (fun b e => by have := unhide HROWB b e; omega)
            have hR20 := frT_wrv hF20 (unhide HR19) ⟨by omega, by omega, by omega⟩ (fun b e => by have := (unhide HR19).2.2 b e; omega)
            have hg20 := frT_blk hF20 (unhide HG19) (by omega) (by omega) (by omega)
            have hO20 := own_kept (unhide HO19) (fun b e => hF20.2.2.2.2 b (by have := ((unhide HO19).lt b e).2; rw [unhide HZ19] at this; exact this) (by have := ((unhide HO19).lt b e).1; omega) (by have := unhide HRG b e; omega))
            have hk20 := frT_keeps (unhide HK19) hF20 (by have := (unhide HK19).size; rw [unhide HZ19] at this; exact this) (by omega) (by omega)
            have HVA := hide fun (w21 : World) (hk : Keeps w20 w21) => (show VarU w21 (w.heap.size + 1) B j d done ∧ Blk w21 w15.heap.size 55 #[.slice B17 j d17] ∧ HoldsU w21 B17 ((List.range j).map fun i => rd ys (detB j + 5 * i) 5) ∧ Blk w21 w17.heap.size 3 #[.int .i64 (jj : Nat)] ∧ Blk w21 w.heap.size 3 #[.int .i64 (ms : Nat)] from ⟨hV20.keeps hk, hg20.keeps hk, by
              have := Reads.of_own (own_keeps_ hO20 hk)
              unfold HoldsU
              rw [List.length_map, List.length_range]
              exact this, ht20.keeps hk, hm20.keeps hk⟩)
            have HE20 := hide (wrEnd_any hR20 (unhide HY8) (by omega) hle)
            rw [unhide HEND] at HE20
            have HJJ := hide hjj
            have HK20 := hide hk20
            have hga20 : w20.cell? ⟨w.heap.size + 1, 0, none⟩ = some (.slice B j d) := hV20.1.cell 0
            have hgg20 : w20.cell? ⟨w15.heap.size, 0, none⟩ = some (.slice B17 j d17) := hg20.cell 0
            clear hS20 ht20 hm20 hF20 hV20 hR20 hg20 hO20 hk20 hjj
            go_wp2_with fail
            with_reducible refine (unhide HE20).mono ?_
            rintro e w21 ⟨rfl, hk21⟩
            obtain ⟨hV21, hg21, hO21, ht21, hm21⟩ := unhide HVA w21 hk21
            have hga21 : w21.cell? ⟨w.heap.size + 1, 0, none⟩ = some (.slice B j d) := hV21.1.cell 0
            have hgt21 : w21.cell? ⟨w17.heap.size, 0, none⟩ = some (.int .i64 (jj : Nat)) := ht21.cell 0
            have hgm21 : w21.cell? ⟨w.heap.size, 0, none⟩ = some (.int .i64 (ms : Nat)) := hm21.cell 0
            have HK21 := hide hk21
            have HK21W := hide ((unhide HK20).trans hk21)
            have hmx : min (max 1 (ms : Int)) (j : Int) = (jj : Int) := (unhide HJJ).symm
            clear hk21 hV21 hg21 hO21 ht21 hm21
            go_wp2
            all_goals first
              | (exfalso; have := unhide HJJ; omega)
              | skip
            go_loopw [17] (fun i wx => ∃ (q : Nat) (wy : World), wy = wx ∧ q ≤ j ∧ i = .int .i64 q ∧ Keeps w21 wy) (fun i _ => j - (intOf i).toNat)
            case atStart => exact ⟨0, _, rfl, Nat.zero_le _, rfl, Keeps.refl _⟩
            case round =>
              obtain ⟨q, wy, rfl, hq, rfl, hky⟩ := hrel
              obtain ⟨hVy, hgy, hOy, _, _⟩ := unhide HVA wy ((unhide HK21).trans hky)
              have hgay : wy.cell? ⟨w.heap.size + 1, 0, none⟩ = some (.slice B j d) := hVy.1.cell 0
              have hggy : wy.cell? ⟨w15.heap.size, 0, none⟩ = some (.slice B17 j d17) := hgy.cell 0
              have HKY2 := hide hky
              by_cases hlt : q < j
              · obtain ⟨eb, eo, rfl, hel⟩ := hVy.2.1.at_ (k := q) (by rw [unhide HDL]; exact hlt)
                obtain ⟨fb, fo, rfl, hfl⟩ := hOy.at_ (k := q) (by simpa using hlt)
                have hval : ((List.range j).map fun i => rd ys (detB j + 5 * i) 5).getD q 0 = done.getD q 0 % 32 := by
                  rw [← unhide HQ2 q hlt]
                  simp [List.getD, hlt]
                rw [hval] at hfl
                have hux := (unhide HDU).at_ q
                have hand := and31 _ hux.1 hux.2
                clear hVy hgy hOy hval hky
                generalize done.getD q 0 = vq at *
                obtain ⟨hux0, hux1⟩ := hux
                go_wp2
                go_region
                go_wp2
                exact ⟨⟨q + 1, _, rfl, by omega, by go_num, (unhide HKY2).drew⟩, by simp [intOf]; omega⟩
              · obtain rfl : q = j := by omega
                clear hVy hgy hOy hky
                go_wp2
                go_ret
                exact ⟨rfl, (unhide HK21W).trans (unhide HKY2)⟩
end Go.Proofs.Ytgaapigagglgbaa
