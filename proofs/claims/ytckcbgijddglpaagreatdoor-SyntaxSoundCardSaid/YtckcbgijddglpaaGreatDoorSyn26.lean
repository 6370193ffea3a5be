/- The parser: tagging, assignments. -/
import Derived.Test.YtckcbgijddglpaaGreatDoorSyn25
namespace Go.Proofs.YtckcbgijddglpaaGreatDoor
open Go.ChangeShapes Go.WideShapes Go.ChangeAt Go.RowKit Go.PlainAid
set_option linter.unusedVariables false
set_option linter.unusedSimpArgs false
section
variable {w wr w2 : World} {g : Nat} {A : Option Addr} {c : Nat} {l : List Tok} {i j : Nat} {m0 m1 m2 m3 m4 : Value} {m : ModV}
set_option maxRecDepth 100000 in
set_option maxHeartbeats 16000000 in
theorem tagging_q (h : PQ w g A c l i m0 (.int .i64 0) m2 m3 m4) :
    Calls Tryz.prog 31 #[.pointer (some ⟨g, 0, none⟩)] w (PostT (taggingT l i) g (· = g) w (fun r e w' => Yes e ∧ PQ w' g A c l r.2 m0 (.int .i64 r.1) m2 m3 m4) No) := by
  have HP1 := hide h
  have HF1 := hide (FS.refl (· = g) w)
  clear h
  go_enter Tryz.func31, Tryz.ntmps31
  rcases Bool.eq_false_or_eq_true (isT l i wEXPLICIT) with hb11 | hb11
  · have E11 := hide hb11
    clear hb11
    go_wp2_with fail
    refine (take_y (unhide HP1) (unhide E11)).mono ?_
    rintro e w12 ⟨rfl, hp, hf⟩
    have HP12 := hide hp
    have HF12 := hide ((unhide HF1).fr hf rfl)
    clear hp hf
    obtain ⟨hc13, hg13, -⟩ := (unhide HP12).blk.facts
    have HP13 := hide ((unhide HP12).setTg (.int .i64 0))
    have HF13 := hide ((unhide HF12).set (p := ⟨g, 5, none⟩) (.inl rfl) (.int .i64 0))
    rcases hr15 : wantT l (i + 1) wTAGS with ⟨p15, x15⟩ | k14
    · have E15 := hide hr15
      clear hr15
      have HQ14 := hide (want_q (unhide HP13) wTAGS)
      rw [unhide E15] at HQ14
      go_wp2_with fail
      clear hc13 hg13
      refine (unhide HQ14).mono ?_
      rintro e w14 ⟨⟨rfl, hp⟩, hf⟩
      have HP14 := hide hp
      have HF14 := hide ((unhide HF13).trans hf)
      clear hp hf HQ14
      go_wp2
      go_ret
      have hE : taggingT l i = .error (p15, x15) := by simp [taggingT, unhide E11, unhide E15, bind, Except.bind, pure, Except.pure]
      rw [hE]
      exact ⟨⟨rfl, unhide HP14⟩, unhide HF14⟩
    · have E15 := hide hr15
      clear hr15
      have HQ14 := hide (want_q (unhide HP13) wTAGS)
      rw [unhide E15] at HQ14
      go_wp2_with fail
      clear hc13 hg13
      refine (unhide HQ14).mono ?_
      rintro e w14 ⟨⟨rfl, hp⟩, hf⟩
      have HP14 := hide hp
      have HF14 := hide ((unhide HF13).trans hf)
      clear hp hf HQ14
      go_wp2
      go_ret
      have hE : taggingT l i = .ok (0, k14) := by simp [taggingT, unhide E11, unhide E15, bind, Except.bind, pure, Except.pure]
      rw [hE]
      exact ⟨⟨rfl, unhide HP14⟩, unhide HF14⟩
  · have E11 := hide hb11
    clear hb11
    go_wp2_with fail
    refine (take_n (unhide HP1) (unhide E11)).mono ?_
    rintro e w16 ⟨rfl, hp, hf⟩
    have HP16 := hide hp
    have HF16 := hide ((unhide HF1).fr hf rfl)
    clear hp hf
    rcases Bool.eq_false_or_eq_true (isT l i wIMPLICIT) with hb17 | hb17
    · have E17 := hide hb17
      clear hb17
      go_wp2_with fail
      refine (take_y (unhide HP16) (unhide E17)).mono ?_
      rintro e w18 ⟨rfl, hp, hf⟩
      have HP18 := hide hp
      have HF18 := hide ((unhide HF16).fr hf rfl)
      clear hp hf
      obtain ⟨hc19, hg19, -⟩ := (unhide HP18).blk.facts
      have HP19 := hide ((unhide HP18).setTg (.int .i64 1))
      have HF19 := hide ((unhide HF18).set (p := ⟨g, 5, none⟩) (.inl rfl) (.int .i64 1))
      rcases hr21 : wantT l (i + 1) wTAGS with ⟨p21, x21⟩ | k20
      · have E21 := hide hr21
        clear hr21
        have HQ20 := hide (want_q (unhide HP19) wTAGS)
        rw [unhide E21] at HQ20
        go_wp2_with fail
        clear hc19 hg19
        refine (unhide HQ20).mono ?_
        rintro e w20 ⟨⟨rfl, hp⟩, hf⟩
        have HP20 := hide hp
        have HF20 := hide ((unhide HF19).trans hf)
        clear hp hf HQ20
        go_wp2
        go_ret
        have hE : taggingT l i = .error (p21, x21) := by simp [taggingT, unhide E11, unhide E17, unhide E21, bind, Except.bind, pure, Except.pure]
        rw [hE]
        exact ⟨⟨rfl, unhide HP20⟩, unhide HF20⟩
      · have E21 := hide hr21
        clear hr21
        have HQ20 := hide (want_q (unhide HP19) wTAGS)
        rw [unhide E21] at HQ20
        go_wp2_with fail
        clear hc19 hg19
        refine (unhide HQ20).mono ?_
        rintro e w20 ⟨⟨rfl, hp⟩, hf⟩
        have HP20 := hide hp
        have HF20 := hide ((unhide HF19).trans hf)
        clear hp hf HQ20
        go_wp2
        go_ret
        have hE : taggingT l i = .ok (1, k20) := by simp [taggingT, unhide E11, unhide E17, unhide E21, bind, Except.bind, pure, Except.pure]
        rw [hE]
        exact ⟨⟨rfl, unhide HP20⟩, unhide HF20⟩
    · have E17 := hide hb17
      clear hb17
      go_wp2_with fail
      refine (take_n (unhide HP16) (unhide E17)).mono ?_
      rintro e w22 ⟨rfl, hp, hf⟩
      have HP22 := hide hp
      have HF22 := hide ((unhide HF16).fr hf rfl)
      clear hp hf
      rcases Bool.eq_false_or_eq_true (isT l i wAUTOMATIC) with hb23 | hb23
      · have E23 := hide hb23
        clear hb23
        go_wp2_with fail
        refine (take_y (unhide HP22) (unhide E23)).mono ?_
        rintro e w24 ⟨rfl, hp, hf⟩
        have HP24 := hide hp
        have HF24 := hide ((unhide HF22).fr hf rfl)
        clear hp hf
        obtain ⟨hc25, hg25, -⟩ := (unhide HP24).blk.facts
        have HP25 := hide ((unhide HP24).setTg (.int .i64 2))
        have HF25 := hide ((unhide HF24).set (p := ⟨g, 5, none⟩) (.inl rfl) (.int .i64 2))
        rcases hr27 : wantT l (i + 1) wTAGS with ⟨p27, x27⟩ | k26
        · have E27 := hide hr27
          clear hr27
          have HQ26 := hide (want_q (unhide HP25) wTAGS)
          rw [unhide E27] at HQ26
          go_wp2_with fail
          clear hc25 hg25
          refine (unhide HQ26).mono ?_
          rintro e w26 ⟨⟨rfl, hp⟩, hf⟩
          have HP26 := hide hp
          have HF26 := hide ((unhide HF25).trans hf)
          clear hp hf HQ26
          go_wp2
          go_ret
          have hE : taggingT l i = .error (p27, x27) := by simp [taggingT, unhide E11, unhide E17, unhide E23, unhide E27, bind, Except.bind, pure, Except.pure]
          rw [hE]
          exact ⟨⟨rfl, unhide HP26⟩, unhide HF26⟩
        · have E27 := hide hr27
          clear hr27
          have HQ26 := hide (want_q (unhide HP25) wTAGS)
          rw [unhide E27] at HQ26
          go_wp2_with fail
          clear hc25 hg25
          refine (unhide HQ26).mono ?_
          rintro e w26 ⟨⟨rfl, hp⟩, hf⟩
          have HP26 := hide hp
          have HF26 := hide ((unhide HF25).trans hf)
          clear hp hf HQ26
          go_wp2
          go_ret
          have hE : taggingT l i = .ok (2, k26) := by simp [taggingT, unhide E11, unhide E17, unhide E23, unhide E27, bind, Except.bind, pure, Except.pure]
          rw [hE]
          exact ⟨⟨rfl, unhide HP26⟩, unhide HF26⟩
      · have E23 := hide hb23
        clear hb23
        go_wp2_with fail
        refine (take_n (unhide HP22) (unhide E23)).mono ?_
        rintro e w28 ⟨rfl, hp, hf⟩
        have HP28 := hide hp
        have HF28 := hide ((unhide HF22).fr hf rfl)
        clear hp hf
        go_wp2
        go_ret
        have hE : taggingT l i = .ok (0, i) := by simp [taggingT, unhide E11, unhide E17, unhide E23]
        rw [hE]
        exact ⟨⟨rfl, unhide HP28⟩, unhide HF28⟩
theorem assignsT_stop {f : Nat} (h : ¬ (tk l i).1 = 1) : assignsT l (f + 1) m i = .ok (m, i) := by simp [assignsT, h]
theorem assignsT_full {f : Nat} (h : (tk l i).1 = 1) (h2 : m.names.length = 40) : assignsT l (f + 1) m i = .error ((tk l i).2.2, 5) := by simp [assignsT, h, h2, errT]
theorem assignsT_go {f : Nat} (h : (tk l i).1 = 1) (h2 : ¬ m.names.length = 40) : assignsT l (f + 1) m i = (wantT l (i + 1) s_ass >>= fun j => nodeT l 17 j m.nodes >>= fun r => assignsT l f { m with names := m.names ++ [(tk l i).2.1], types := m.types ++ [r.1], nodes := r.2.2 } r.2.1) := by
  rw [assignsT, if_pos h, if_neg h2]
set_option maxRecDepth 100000 in
set_option maxHeartbeats 16000000 in
theorem assigns_q (h : AsgS w g A c l m0 m1 i m wr) (hN : NumsL l) (hXs : SmallL l) :
    Calls Tryz.prog 32 #[.pointer (some ⟨g, 0, none⟩)] wr (PostT (assignsT l (l.length + 1) m i) g (g ≤ ·) w (fun r e w' => Yes e ∧ AsgS w g A c l m0 m1 r.2 r.1 w') No) := by
  obtain ⟨rA, hrA⟩ : ∃ r, r = assignsT l (l.length + 1) m i := ⟨_, rfl⟩
  rw [← hrA]
  have HR := hide hrA
  have HS := hide h
  have hNd := node_0 l hN hXs
  obtain ⟨i1, z1, hi10, hz10, hz11, hz12, hz13⟩ := info_three str_info
  obtain ⟨i2, z2, hi20, hz20, hz21, hz22, hz23⟩ := info_three int_info
  clear h hrA
  go_enter Tryz.func32, Tryz.ntmps32
  go_wp2
  go_loopg [] (l.length + 1 - i) (fun k wq => ∃ m' i' f, AsgS w g A c l m0 m1 i' m' wq ∧ rA = assignsT l f m' i' ∧ l.length < f + i' ∧ k = l.length + 1 - i')
  case atStart => exact ⟨m, i, l.length + 1, unhide HS, unhide HR, by omega, rfl⟩
  case round =>
    obtain ⟨m', i', f, hS, hr, hfu, hk⟩ := hrel
    obtain ⟨_, _, _, hC0⟩ := hS.1
    have hil := hC0.1.2.2
    obtain ⟨f, rfl⟩ : ∃ f', f = f' + 1 := ⟨f - 1, by omega⟩
    have HS1 := hide hS
    have HRR := hide hr
    have HK := hide hk
    have hn40 := hS.2.2.2
    clear hS hr hk hC0
    have hf0 := fun w => field0 (tk l i').1 ((tk l i').2.2 : Nat) (tk l i').2.1 w
    have hf1 := fun w => field1 (tk l i').1 ((tk l i').2.2 : Nat) (tk l i').2.1 w
    by_cases hk1 : (tk l i').1 = 1
    · have HK1 := hide hk1
      have HK0 := hide (show (tk l i').1 ≠ 0 by rw [hk1]; decide)
      have e1 : ((tk l i').1 == 1) = true := by simp [hk1]
      clear hk1
      go_wp2_with fail
      refine (nowA (unhide HS1)).mono ?_
      rintro e w2 ⟨rfl, hS⟩
      have HS2 := hide hS
      obtain ⟨⟨m2, m3, m4, hC⟩, -, -⟩ := hS
      obtain ⟨An, cn, rfl, -⟩ := own_form2 hC.2.1
      obtain ⟨hgc, hgf, -⟩ := hC.1.blk.facts
      clear hC
      by_cases h40 : m'.names.length = 40
      · have HE := hide (show rA = .error ((tk l i').2.2, 5) by rw [unhide HRR, assignsT_full (unhide HK1) h40])
        have e40 : ((m'.names.length : Int) == 40) = true := by simp [h40]
        go_wp2_with fail
        refine (stopA (unhide HS2) 5).mono ?_
        rintro e w3 ⟨rfl, hp, hf⟩
        have HP3 := hide hp
        have HF3 := hide hf
        clear hp hf hgc hgf
        go_wp2
        go_ret
        rw [unhide HE]
        exact ⟨⟨rfl, unhide HP3⟩, unhide HF3⟩
      · have HG := hide (show rA = _ by rw [unhide HRR, assignsT_go (unhide HK1) h40])
        have e40 : ((m'.names.length : Int) == 40) = false := by rw [beq_eq_false_iff_ne]; omega
        have hlt40 : m'.names.length < 40 := by omega
        go_wp2_with fail
        refine (nowA (unhide HS2)).mono ?_
        rintro e w3 ⟨rfl, hS⟩
        have HSK := hide (skipA hS (unhide HK0))
        clear hS hgc hgf h40
        go_wp2_with fail
        refine (unhide HSK).mono ?_
        rintro e w4 ⟨rfl, hS⟩
        have HQ := hide (wantA hS s_ass)
        clear hS
        rcases hw : wantT l (i' + 1) s_ass with ⟨p, x⟩ | j1
        · have HE := hide (show rA = .error (p, x) by rw [unhide HG, hw]; rfl)
          rw [hw] at HQ
          clear hw
          go_wp2_with fail
          refine (unhide HQ).mono ?_
          rintro e w5 ⟨⟨rfl, hp⟩, hf⟩
          have HP5 := hide hp
          have HF5 := hide hf
          clear hp hf HQ
          go_wp2
          go_ret
          rw [unhide HE]
          exact ⟨⟨rfl, unhide HP5⟩, unhide HF5⟩
        · have hj1 := (wantT_ok hw).2
          have HG2 := hide (show rA = (nodeT l 17 j1 m'.nodes >>= fun r => assignsT l f { m' with names := m'.names ++ [(tk l i').2.1], types := m'.types ++ [r.1], nodes := r.2.2 } r.2.1) by rw [unhide HG, hw]; rfl)
          rw [hw] at HQ
          clear hw
          go_wp2_with fail
          refine (unhide HQ).mono ?_
          rintro e w5 ⟨⟨rfl, hS⟩, hf⟩
          have HQ2 := hide (nodeA hS hNd)
          clear hS hf HQ
          rcases hw : nodeT l 17 j1 m'.nodes with ⟨p, x⟩ | ⟨k2, j2, ns2⟩
          · have HE := hide (show rA = .error (p, x) by rw [unhide HG2, hw]; rfl)
            rw [hw] at HQ2
            clear hw
            go_wp2_with fail
            refine (unhide HQ2).mono ?_
            rintro e w6 ⟨⟨rfl, hp⟩, hf⟩
            have HP5 := hide hp
            have HF5 := hide hf
            clear hp hf HQ2
            go_wp2
            go_ret
            rw [unhide HE]
            exact ⟨⟨rfl, unhide HP5⟩, unhide HF5⟩
          · have hj2 := nodeT_le l 17 _ _ _ hw
            simp only at hj2
            have HE := hide (show rA = assignsT l f { m' with names := m'.names ++ [(tk l i').2.1], types := m'.types ++ [k2], nodes := ns2 } j2 by rw [unhide HG2, hw]; rfl)
            rw [hw] at HQ2
            clear hw
            go_wp2_with fail
            refine (unhide HQ2).mono ?_
            rintro e w6 ⟨⟨rfl, hS⟩, hf⟩
            obtain ⟨⟨m2, m3, m4, hC⟩, hF6, hl1, hl2⟩ := hS
            obtain ⟨An, cn, rfl, -⟩ := own_form2 hC.2.1
            obtain ⟨At, ct, rfl, -⟩ := own_form2 hC.2.2.1
            obtain ⟨hgc, hgf, hgl⟩ := hC.1.blk.facts
            have HGL := hide hgl
            have hjl := hC.1.2.2.1
            have HF6 := hide hF6
            have HL := hide (And.intro hl1 hl2)
            have hlT : m'.types.length < 40 := by simp only at hl1; omega
            have HPU := hide (fun (w7 : World) (v' : Value) ho hg => push_names (w5 := w7) (v' := v') (x := (tk l i').2.1) hC ho hg)
            have HOWN := hide (World.ownsRow.alloc hC.2.1 (.cells [Value.string (tk l i').2.1].toArray 9))
            have HRD := hide (row_new w6 9 [Value.string (tk l i').2.1] 1 rfl)
            clear hC hf hF6 hl1 hl2 HQ2
            go_wp2_with (at_builtin; go_loud (first
              | (refine wpList_append_any _ rfl (.tmp 49) (.tmp 51) _ rfl (g + 1) 9 i1 z1 1 16 Tryz.underlying23 hi10 hz10 hz11 hz12 hz13 (by omega) _ m'.names.length _ rfl (unhide HOWN) _ _ 1 1 _ rfl (unhide HRD) (by simp [Value.oneCell']) (by simp only [maxLen]; omega) (by omega) (by rw [World.size_alloc]; have := unhide HGL; omega) ?_; intro v' w7 ho hg hat; have HE7 := hide (unhide HPU w7 v' ho hg); obtain ⟨Av, cv, rfl, -⟩ := own_form2 ho; obtain ⟨hgc7, hgf7, hgl7⟩ := (unhide HE7).1.blk.facts; have HGL7 := hide hgl7; have HPU2 := hide (fun (w9 : World) (v9 : Value) ho hg => push_types (w5 := w9) (v' := v9) (x := k2) (unhide HE7).2.1 ho hg); have HOWN2 := hide (World.ownsRow.alloc (unhide HE7).2.1.2.2.1 (.cells [Value.int .i64 (k2 : Nat)].toArray 3)); have HRD2 := hide (row_new2 (w7.setCell ⟨g, 6, none⟩ (.slice Av (m'.names.length + 1) cv)) 3 [Value.int .i64 (k2 : Nat)] 1 rfl (b := w7.heap.size) (by simp)); clear ho hg hat hgc hgf hgl hgl7)
              | (refine wpList_append_any _ rfl (.tmp 61) (.tmp 63) _ rfl (g + 1) 3 i2 z2 1 8 Tryz.underlying24 hi20 hz20 hz21 hz22 hz23 (by omega) _ m'.types.length _ rfl (unhide HOWN2) _ _ 1 1 _ rfl (unhide HRD2) (by simp [Value.oneCell']) (by simp only [maxLen]; omega) (by omega) (by rw [World.size_alloc, World.size_setCell]; have := unhide HGL7; omega) ?_; intro v9 w9 ho hg hat; have HE9 := hide (unhide HPU2 w9 v9 ho hg); obtain ⟨Aw, cw, rfl, -⟩ := own_form2 ho; obtain ⟨hgc9, hgf9, -⟩ := (unhide HE9).1.blk.facts; clear ho hg hat hgc7 hgf7)))
            go_roundg (l.length + 1 - j2)
            case measure => have := unhide HK; omega
            case rel =>
              have hl := unhide HL
              refine ⟨_, j2, f, ⟨⟨_, _, _, (unhide HE9).2.1⟩, ((unhide HF6).trans (unhide HE7).2.2).trans (unhide HE9).2.2, by simp at hl ⊢; omega, by simp; omega⟩, unhide HE, by omega, rfl⟩
    · have HE := hide (show rA = .ok (m', i') by rw [unhide HRR, assignsT_stop hk1])
      have e1 : ((tk l i').1 == 1) = false := by simp [hk1]
      clear hk1
      go_wp2_with fail
      refine (nowA (unhide HS1)).mono ?_
      rintro e w2 ⟨rfl, hS⟩
      have HS2 := hide hS
      clear hS
      go_wp2
      go_ret
      rw [unhide HE]
      exact ⟨⟨rfl, unhide HS2⟩, (unhide HS2).2.1⟩
end
end Go.Proofs.YtckcbgijddglpaaGreatDoor
