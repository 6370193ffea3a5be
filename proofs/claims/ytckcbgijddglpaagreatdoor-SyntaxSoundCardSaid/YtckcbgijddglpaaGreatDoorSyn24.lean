/- The parser: a node, walked. -/
import Derived.Test.YtckcbgijddglpaaGreatDoorSyn23
namespace Go.Proofs.YtckcbgijddglpaaGreatDoor
open Go.ChangeShapes Go.WideShapes Go.ChangeAt Go.RowKit Go.PlainAid
set_option linter.unusedVariables false
set_option linter.unusedSimpArgs false
theorem nodeT_no {l : List Tok} {d i : Nat} {ns : List NodeV} (h : beginsT l i = false) : nodeT l d i ns = .error ((tk l i).2.2, 7) := by cases d <;> simp [nodeT, h, errT]
theorem nodeT_full {l : List Tok} {d i : Nat} {ns : List NodeV} (h : beginsT l i = true) (h2 : ns.length = 300) : nodeT l (d + 1) i ns = .error ((tk l i).2.2, 5) := by simp [nodeT, h, errT, h2]
theorem nodeT_go {l : List Tok} {d i : Nat} {ns : List NodeV} (h : beginsT l i = true) (h2 : ¬ ns.length = 300) : nodeT l (d + 1) i ns = (markT l zN i >>= fun r => baseT l (nodeT l d) r.1 r.2 (ns ++ [zN]) >>= fun q => pure (ns.length, q.2.1, q.2.2.set ns.length q.1)) := by
  simp only [nodeT]
  rw [if_neg (by simp [h]), if_neg h2]
theorem nodeCs_one (a b : Option Addr) (x y x1 y1 : Nat) (n : NodeV) : ∀ u ∈ (nodeC n (.slice a x y) (.slice b x1 y1)).toList, u.oneCell' = true := by
  intro u hu
  simp only [nodeC, List.mem_cons, List.not_mem_nil, or_false] at hu
  rcases hu with rfl | rfl | rfl | rfl | rfl | rfl | rfl | rfl | rfl | rfl | rfl | rfl | rfl | rfl | rfl | rfl <;> rfl
set_option maxRecDepth 100000 in
set_option maxHeartbeats 16000000 in
theorem node_top (l : List Tok) : NodeC l (nodeT l 0) 17 := by
  intro w g A c i m0 m1 m2 m3 m4 ns ok hp hN hok hlen
  have HB := hide (begins_q hp)
  have HP := hide hp
  rcases Bool.eq_false_or_eq_true (beginsT l i) with hb | hb
  · have HR := hide (show nodeT l 0 i ns = .error ((tk l i).2.2, 5) by simp [nodeT, hb, errT])
    rw [hb] at HB
    clear hb hp hN hok hlen
    go_enter Tryz.func69, Tryz.ntmps69
    go_wp2_with fail
    refine (unhide HB).mono ?_
    rintro e w1 ⟨rfl, hk⟩
    have HP1 := hide ((unhide HP).keeps hk)
    have HK := hide hk
    clear hk
    go_wp2_with fail
    refine (stop_q (unhide HP1) 5).mono ?_
    rintro e w2 ⟨rfl, hp, hf⟩
    have HP2 := hide hp
    have HF2 := hide hf
    clear hp hf
    go_wp2
    go_ret2
    rw [unhide HR]
    exact ⟨⟨rfl, unhide HP2⟩, (FS.of_keeps (unhide HK)).fr (unhide HF2) (.inl rfl)⟩
  · have HR := hide (nodeT_no (d := 0) (ns := ns) hb)
    rw [hb] at HB
    clear hb hp hN hok hlen
    go_enter Tryz.func69, Tryz.ntmps69
    go_wp2_with fail
    refine (unhide HB).mono ?_
    rintro e w1 ⟨rfl, hk⟩
    have HP1 := hide ((unhide HP).keeps hk)
    have HK := hide hk
    clear hk
    go_wp2_with fail
    refine (stop_q (unhide HP1) 7).mono ?_
    rintro e w2 ⟨rfl, hp, hf⟩
    have HP2 := hide hp
    have HF2 := hide hf
    clear hp hf
    go_wp2
    go_ret2
    rw [unhide HR]
    exact ⟨⟨rfl, unhide HP2⟩, (FS.of_keeps (unhide HK)).fr (unhide HF2) (.inl rfl)⟩
set_option maxRecDepth 100000 in
set_option maxHeartbeats 16000000 in
theorem node_step (l : List Tok) (hNm : NumsL l) (hXs : SmallL l) (d : Nat) (D : Int) (hD0 : 0 ≤ D) (hD1 : D ≤ 16) (hNd : NodeC l (nodeT l d) (D + 1)) : NodeC l (nodeT l (d + 1)) D := by
  intro w g A c i m0 m1 m2 m3 m4 ns ok hp hN hok hlen
  have HB := hide (begins_q hp)
  have HP := hide hp
  obtain ⟨i0, z0, hi0, hz0, hz1, hz2, hz3⟩ := info_three node_info
  rcases Bool.eq_false_or_eq_true (beginsT l i) with hb | hb
  · rw [hb] at HB
    have HBE := hide hb
    clear hb hp
    have hDD : ¬ 16 < D := by omega
    by_cases h300 : ns.length = 300
    · have HR := hide (nodeT_full (d := d) (unhide HBE) h300)
      obtain ⟨qs, hq, hrow, hqs⟩ := hN
      obtain ⟨Am, cm, rfl, hcm⟩ := own_form2 hrow
      have e300 : ((ns.length : Int) == 300) = true := by simp [h300]
      clear hrow hqs hok hq
      go_enter Tryz.func69, Tryz.ntmps69
      go_wp2_with fail
      refine (unhide HB).mono ?_
      rintro e w1 ⟨rfl, hk⟩
      have HP1 := hide ((unhide HP).keeps hk)
      have HK := hide hk
      obtain ⟨hgc, hgf, -⟩ := (unhide HP1).blk.facts
      clear hk
      go_wp2_with fail
      refine (stop_q (unhide HP1) 5).mono ?_
      rintro e w2 ⟨rfl, hp, hf⟩
      have HP2 := hide hp
      have HF2 := hide hf
      clear hp hf hgc hgf
      go_wp2
      go_ret2
      rw [unhide HR]
      exact ⟨⟨rfl, unhide HP2⟩, (FS.of_keeps (unhide HK)).fr (unhide HF2) (.inl rfl)⟩
    · have HR := hide (nodeT_go (d := d) (unhide HBE) h300)
      have e300 : ((ns.length : Int) == 300) = false := by rw [beq_eq_false_iff_ne]; omega
      have HN := hide hN
      have HOK := hide hok
      clear hN hok
      go_enter Tryz.func69, Tryz.ntmps69
      go_wp2_with fail
      refine (unhide HB).mono ?_
      rintro e w1 ⟨rfl, hk⟩
      have HP1 := hide ((unhide HP).keeps hk)
      have HK := hide hk
      obtain ⟨qs, hq, hrow, hqs⟩ := (unhide HN).keeps hk
      obtain ⟨Am, cm, rfl, hcm⟩ := own_form2 hrow
      obtain ⟨hgc, hgf, hgl⟩ := (unhide HP1).blk.facts
      have HOK1 := hide (show ∀ b, w1.heap.size ≤ b → ok b from fun b hb => unhide HOK b (Nat.le_trans hk.size hb))
      have HPU := hide (fun (w5 : World) (v' : Value) ho hg hat => node_push (w5 := w5) (v' := v') (unhide HP1) hq hrow hqs (unhide HOK1) (by omega) ho hg hat)
      have HOWN := hide (World.ownsRow.alloc hrow (.cells (nodeC zN (.slice none 0 0) (.slice none 0 0)).toList.toArray 40))
      have HRD := hide (row_new w1 40 (nodeC zN (.slice none 0 0) (.slice none 0 0)).toList 16 rfl)
      have HGL := hide hgl
      clear hk hq hrow hqs
      generalize nodesC qs = xs0 at HOWN HPU
      go_wp2_with (at_builtin; go_loud (refine wpList_append_any _ rfl (.tmp 41) (.tmp 43) _ rfl (g + 1) 40 i0 z0 16 144 Tryz.underlying25 hi0 hz0 hz1 hz2 hz3 (by omega) _ ns.length _ rfl (unhide HOWN) _ _ 1 1 _ rfl (unhide HRD) (nodeCs_one _ _ _ _ _ _ _) (by simp only [maxLen]; omega) (by omega) (by rw [World.size_alloc]; have := unhide HGL; omega) ?_; intro v' w5 ho hg hat; obtain ⟨Av, cv, rfl, -⟩ := own_form2 ho; have HE := hide (unhide HPU w5 _ ho hg hat); obtain ⟨hgc5, hgf5, hgl5⟩ := (unhide HE).1.blk.facts; clear ho hg hat hgc hgf))
      have HFS := hide ((FS.of_keeps (S := SN g (.slice Am ns.length cm)) (unhide HK)).trans (unhide HE).2.2.2.1)
      have HNR := hide (show NewR w (.slice Am ns.length cm) (.slice Av (ns.length + 1) cv) from (by
        rcases (unhide HE).2.2.1 with q | ⟨b, q, hb⟩
        · exact .inl q
        · exact .inr ⟨b, q, Nat.le_trans (unhide HK).size hb⟩))
      have HS0 := hide (FldS.start (unhide HE).2.1 rfl)
      have hwn : w.heap.size ≤ w5.heap.size := Nat.le_trans (unhide HK).size (unhide HE).2.2.2.2
      have HQ := hide (markS (unhide HS0) hNm)
      clear hgc5 hgf5
      rcases hr : markT l zN i with ⟨p, x⟩ | ⟨nm, jm⟩
      · have HR2 := hide (show nodeT l (d + 1) i ns = .error (p, x) by rw [unhide HR, hr]; rfl)
        rw [hr] at HQ
        clear hr
        refine (unhide HQ).mono ?_
        rintro e w6 ⟨⟨rfl, hp⟩, hf⟩
        have HP6 := hide hp
        have HF6 := hide ((unhide HFS).sn (unhide HNR) hwn hf)
        clear hp hf HQ
        go_wp2
        go_ret2
        rw [unhide HR2]
        exact ⟨⟨rfl, unhide HP6⟩, unhide HF6⟩
      · obtain ⟨b1, b2, b3, rfl⟩ : ∃ b1 b2 b3, nm = { mHas := b1, mNum := b2, mMode := b3 } := ⟨_, _, _, markT_form hr⟩
        have HR2 := hide (show nodeT l (d + 1) i ns = (baseT l (nodeT l d) { mHas := b1, mNum := b2, mMode := b3 } jm (ns ++ [zN]) >>= fun q => pure (ns.length, q.2.1, q.2.2.set ns.length q.1)) by rw [unhide HR, hr]; rfl)
        rw [hr] at HQ
        clear hr
        refine (unhide HQ).mono ?_
        rintro e w6 ⟨⟨rfl, hS⟩, hf⟩
        have HQ2 := hide (base_q hS hNm hXs hNd (nodeT_le l d) hD0 hD1 rfl rfl)
        clear hS hf HQ
        simp only at HQ2
        rcases hr : baseT l (nodeT l d) { mHas := b1, mNum := b2, mMode := b3 } jm (ns ++ [zN]) with ⟨p, x⟩ | ⟨nd2, j2, ms⟩
        · have HR3 := hide (show nodeT l (d + 1) i ns = .error (p, x) by rw [unhide HR2, hr]; rfl)
          rw [hr] at HQ2
          clear hr
          go_wp2_with fail
          refine (unhide HQ2).mono ?_
          rintro e w7 ⟨⟨rfl, hp⟩, hf⟩
          have HP6 := hide hp
          have HF6 := hide ((unhide HFS).sn (unhide HNR) hwn hf)
          clear hp hf HQ2
          go_wp2
          go_ret2
          rw [unhide HR3]
          exact ⟨⟨rfl, unhide HP6⟩, unhide HF6⟩
        · have HR3 := hide (show nodeT l (d + 1) i ns = .ok (ns.length, j2, ms.set ns.length nd2) by rw [unhide HR2, hr]; rfl)
          have hlt : ns.length < ms.length := by have := baseT_len (nodeT_len l d) hr; simp at this; omega
          rw [hr] at HQ2
          clear hr
          go_wp2_with fail
          refine (unhide HQ2).mono ?_
          rintro e w7 ⟨⟨rfl, vi', ⟨⟨m2, v2, hM2, hn1, hn2⟩, hf2, -⟩, hI2⟩, hf⟩
          have hFS7 := (unhide HFS).sn (unhide HNR) hwn hf
          have hNR7 := (unhide HNR).trans hn1 (unhide HFS).size
          have hrow2 : ∃ qs, w7.ownsRow (g + 1) 40 16 m2 ms.length qs := by
            obtain ⟨qs2, _, h, _⟩ := hM2.2.2.2.1
            exact ⟨_, h⟩
          obtain ⟨xs2, hrow2⟩ := hrow2
          obtain ⟨R, cR, rfl, _, _⟩ := hrow2.form (by omega)
          have hltI : (ns.length : Int) < (ms.length : Int) := by omega
          obtain ⟨Ai, ci, rfl, -⟩ := own_form2 hI2.1
          have hrF : ∃ xs, w7.ownsRow 0 47 11 v2 nd2.fields.length xs := by
            obtain ⟨qsF, _, h, _⟩ := hM2.2.2.1
            exact ⟨_, h.1⟩
          obtain ⟨xsF, hrF⟩ := hrF
          obtain ⟨Af, cf, rfl, -⟩ := own_form2 hrF
          clear hrF
          obtain ⟨hE2, hRn, hRg, hGN, hGF⟩ := node_end hM2 hI2 hlt hFS7 hNR7
          simp only [nodeC, putW, Nat.add_assoc, Nat.reduceAdd] at hGN hGF
          have HGN := hide hGN
          have HGF := hide hGF
          obtain ⟨hgc7, hgf7, hgl7⟩ := hM2.1.blk.facts
          obtain ⟨hnc7, hnf7, hnl7⟩ := hM2.2.1.facts
          simp only [nodeC] at hnc7
          obtain ⟨u0, hu0⟩ := (hE2 0 (by omega)).1
          have hv0 := (hE2 0 (by omega)).2
          rw [Nat.add_zero] at hu0 hv0
          obtain ⟨u1, hu1⟩ := (hE2 1 (by omega)).1
          have hv1 := (hE2 1 (by omega)).2
          obtain ⟨u2, hu2⟩ := (hE2 2 (by omega)).1
          have hv2 := (hE2 2 (by omega)).2
          obtain ⟨u3, hu3⟩ := (hE2 3 (by omega)).1
          have hv3 := (hE2 3 (by omega)).2
          obtain ⟨u4, hu4⟩ := (hE2 4 (by omega)).1
          have hv4 := (hE2 4 (by omega)).2
          obtain ⟨u5, hu5⟩ := (hE2 5 (by omega)).1
          have hv5 := (hE2 5 (by omega)).2
          obtain ⟨u6, hu6⟩ := (hE2 6 (by omega)).1
          have hv6 := (hE2 6 (by omega)).2
          obtain ⟨u7, hu7⟩ := (hE2 7 (by omega)).1
          have hv7 := (hE2 7 (by omega)).2
          obtain ⟨u8, hu8⟩ := (hE2 8 (by omega)).1
          have hv8 := (hE2 8 (by omega)).2
          obtain ⟨u9, hu9⟩ := (hE2 9 (by omega)).1
          have hv9 := (hE2 9 (by omega)).2
          obtain ⟨u10, hu10⟩ := (hE2 10 (by omega)).1
          have hv10 := (hE2 10 (by omega)).2
          obtain ⟨u11, hu11⟩ := (hE2 11 (by omega)).1
          have hv11 := (hE2 11 (by omega)).2
          obtain ⟨u12, hu12⟩ := (hE2 12 (by omega)).1
          have hv12 := (hE2 12 (by omega)).2
          obtain ⟨u13, hu13⟩ := (hE2 13 (by omega)).1
          have hv13 := (hE2 13 (by omega)).2
          obtain ⟨u14, hu14⟩ := (hE2 14 (by omega)).1
          have hv14 := (hE2 14 (by omega)).2
          obtain ⟨u15, hu15⟩ := (hE2 15 (by omega)).1
          have hv15 := (hE2 15 (by omega)).2
          clear hFS7 hNR7 hrow2 hE2 hGN hGF hM2 hI2 hn1 hn2 hf2 hf HQ2
          go_wp2
          go_region
          go_wp2
          go_ret2
          rw [unhide HR3]
          exact ⟨⟨rfl, unhide HGN⟩, unhide HGF⟩
  · have HR := hide (nodeT_no (d := d + 1) (ns := ns) hb)
    rw [hb] at HB
    clear hb hp hN hok hlen
    go_enter Tryz.func69, Tryz.ntmps69
    go_wp2_with fail
    refine (unhide HB).mono ?_
    rintro e w1 ⟨rfl, hk⟩
    have HP1 := hide ((unhide HP).keeps hk)
    have HK := hide hk
    clear hk
    go_wp2_with fail
    refine (stop_q (unhide HP1) 7).mono ?_
    rintro e w2 ⟨rfl, hp, hf⟩
    have HP2 := hide hp
    have HF2 := hide hf
    clear hp hf
    go_wp2
    go_ret2
    rw [unhide HR]
    exact ⟨⟨rfl, unhide HP2⟩, (FS.of_keeps (unhide HK)).fr (unhide HF2) (.inl rfl)⟩
/-- The parser of types, at any depth. -/
theorem node_all (l : List Tok) (hNm : NumsL l) (hXs : SmallL l) : ∀ d, d ≤ 17 → NodeC l (nodeT l d) (17 - (d : Int)) := by
  intro d
  induction d with
  | zero => intro _; exact node_top l
  | succ d ih =>
    intro h
    have hd := ih (by omega)
    have e : (17 : Int) - (d : Int) = (17 - ((d + 1 : Nat) : Int)) + 1 := by omega
    rw [e] at hd
    exact node_step l hNm hXs d _ (by omega) (by omega) hd
theorem node_0 (l : List Tok) (hNm : NumsL l) (hXs : SmallL l) : NodeC l (nodeT l 17) 0 := node_all l hNm hXs 17 (Nat.le_refl _)
end Go.Proofs.YtckcbgijddglpaaGreatDoor
