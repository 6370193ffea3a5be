/- The parser: a module; Parse. -/
import Derived.Test.YtckcbgijddglpaaGreatDoorSyn27
namespace Go.Proofs.YtckcbgijddglpaaGreatDoor
open Go.ChangeShapes Go.WideShapes Go.ChangeAt Go.RowKit Go.PlainAid
set_option linter.unusedVariables false
set_option linter.unusedSimpArgs false
section
variable {w wr w2 : World} {g : Nat} {A : Option Addr} {c : Nat} {l : List Tok} {i j : Nat} {m0 m1 m2 m3 m4 : Value} {m : ModV}
theorem PE.own {x : Int} {p : Nat} (h : PE w g x p) (o : Nat) (ho : 3 < o) (u : Value) : PE (w.setCell ⟨g, o, none⟩ u) g x p :=
  ⟨(World.cell?_setCell_other w _ _ u (by intro e; injection e with _ e; omega)).trans h.1, (World.cell?_setCell_other w _ _ u (by intro e; injection e with _ e; omega)).trans h.2⟩
set_option maxRecDepth 100000 in
set_option maxHeartbeats 4000000 in
theorem token_no (h : PQ w g A c l i m0 m1 m2 m3 m4) {k : Int} {p : Nat} {x : Int} (hr : tokT l i k = .error (p, x)) :
    Calls Tryz.prog 29 #[.pointer (some ⟨g, 0, none⟩), .int .i64 k] w fun e w' => e = .returned (.tuple #[.string ⟨#[]⟩, .bool false]) ∧ PS w' g A c l i x p m0 m1 m2 m3 m4 ∧ Fr g w w' := by
  have HN := hide (now_q h)
  have HSt := hide (fun (w1 : World) (hk : Keeps w w1) => stop_any (h.keeps hk).1 (PQ.ne h) (by have := h.2.2; omega) (by have := h.2.2; omega) 7)
  have hx : (tk l i).1 ≠ k ∧ (tk l i).2.2 = p ∧ x = 7 := by
    unfold tokT at hr
    split at hr
    · cases hr
    · simp only [errT, Except.error.injEq, Prod.mk.injEq] at hr
      exact ⟨by assumption, hr.1, hr.2.symm⟩
  obtain ⟨q, hpp, rfl⟩ := hx
  have HPP := hide hpp
  clear h hr hpp
  generalize tk l i = t at *
  obtain ⟨k', y, a⟩ := t
  have q2 : (k' != k) = true := by rw [bne_iff_ne]; exact q
  clear q
  go_enter Tryz.func29, Tryz.ntmps29
  go_wp2_with fail
  refine (unhide HN).mono ?_
  rintro e w1 ⟨rfl, hk⟩
  have HK := hide hk
  clear hk
  go_wp2_with fail
  refine (unhide HSt _ ((unhide HK).alloc _)).mono ?_
  rintro e w2 ⟨rfl, hp, hf⟩
  have HP := hide hp
  have HF := hide (((Fr.refl g w).keeps ((unhide HK).alloc _)).trans hf)
  clear hp hf
  go_wp2
  go_ret2
  exact ⟨rfl, by rw [← unhide HPP]; exact unhide HP, unhide HF⟩
set_option maxRecDepth 100000 in
set_option maxHeartbeats 16000000 in
theorem endP_q (h : AsgS w g A c l m0 m1 i m wr) :
    Calls Tryz.prog 33 #[.pointer (some ⟨g, 0, none⟩)] wr (PostT (if (tk l i).1 = 0 then (.ok () : Except SErr Unit) else errT l i 7) g (g ≤ ·) w (fun _ e w' => Yes e ∧ AsgS w g A c l m0 m1 i m w') No) := by
  have HN := hide (nowA h)
  have hf0 := fun w => field0 (tk l i).1 ((tk l i).2.2 : Nat) (tk l i).2.1 w
  clear h
  by_cases hk : (tk l i).1 = 0
  · have e1 : ((tk l i).1 == 0) = true := by simp [hk]
    rw [if_pos hk]
    clear hk
    go_enter Tryz.func33, Tryz.ntmps33
    go_wp2_with fail
    refine (unhide HN).mono ?_
    rintro e w1 ⟨rfl, hS⟩
    have HS := hide hS
    clear hS
    go_wp2
    go_ret
    exact ⟨⟨rfl, unhide HS⟩, (unhide HS).2.1⟩
  · have e1 : ((tk l i).1 == 0) = false := by simp [hk]
    rw [if_neg hk]
    clear hk
    go_enter Tryz.func33, Tryz.ntmps33
    go_wp2_with fail
    refine (unhide HN).mono ?_
    rintro e w1 ⟨rfl, hS⟩
    have HSt := hide (stopA hS 7)
    clear hS
    go_wp2_with fail
    refine (unhide HSt).mono ?_
    rintro e w3 ⟨rfl, hp, hf⟩
    have HP3 := hide hp
    have HF3 := hide hf
    clear hp hf
    go_wp2
    go_ret
    exact ⟨⟨rfl, unhide HP3⟩, unhide HF3⟩
set_option maxRecDepth 100000 in
set_option maxHeartbeats 16000000 in
theorem module_q (h : PQ w g A c l 0 (.string ⟨#[]⟩) (.int .i64 0) (.slice none 0 0) (.slice none 0 0) (.slice none 0 0)) (hN : NumsL l) (hXs : SmallL l) :
    Calls Tryz.prog 13 #[.pointer (some ⟨g, 0, none⟩)] w (PostT (moduleT l) g (g ≤ ·) w (fun r e w' => Yes e ∧ ∃ i, AsgS w g A c l (.string r.name) (.int .i64 r.tagging) i r w') No) := by
  have HT := hide (token_q h 1)
  have HM : Hid (moduleT l = (tokT l 0 1 >>= fun r => wantT l r.2 wDEFINITIONS >>= fun i => taggingT l i >>= fun t => wantT l t.2 s_ass >>= fun i => wantT l i wBEGIN >>= fun i => assignsT l (l.length + 1) { name := r.1, tagging := t.1 } i >>= fun q => wantT l q.2 wEND >>= fun i => (if (tk l i).1 = 0 then (.ok () : Except SErr Unit) else errT l i 7) >>= fun _ => pure q.1)) := hide (by
    unfold moduleT
    simp only [bind, Except.bind]
    rcases tokT l 0 1 with e | ⟨s, i1⟩
    · rfl
    dsimp only
    rcases wantT l i1 wDEFINITIONS with e | i2
    · rfl
    dsimp only
    rcases taggingT l i2 with e | ⟨t, i3⟩
    · rfl
    dsimp only
    rcases wantT l i3 s_ass with e | i4
    · rfl
    dsimp only
    rcases wantT l i4 wBEGIN with e | i5
    · rfl
    dsimp only
    rcases assignsT l (l.length + 1) { name := s, tagging := t } i5 with e | ⟨m, i6⟩
    · rfl
    dsimp only
    rcases wantT l i6 wEND with e | i7
    · rfl
    dsimp only
    split <;> rfl)
  obtain ⟨rM, hrM⟩ : ∃ r, r = moduleT l := ⟨_, rfl⟩
  rw [← hrM] at HM ⊢
  have HP0 := hide h
  clear h hrM
  rcases hr11 : tokT l 0 1 with ⟨p11, x11⟩ | ⟨sN, iN⟩
  · have E11 := hide hr11
    clear hr11
    have HTE := hide (token_no (unhide HP0) (unhide E11))
    clear HT
    go_enter Tryz.func13, Tryz.ntmps13
    go_wp2_with fail
    refine (unhide HTE).mono ?_
    rintro e w12 ⟨rfl, hp, hf⟩
    obtain ⟨hc1, hg1, -⟩ := hp.1.facts
    have HPE := hide (PE.own hp.err 4 (by decide) (.string ⟨#[]⟩))
    have HFE := hide ((FS.of_fr (S := (g ≤ ·)) hf (Nat.le_refl g)).set (p := ⟨g, 4, none⟩) (.inl (Nat.le_refl g)) (.string ⟨#[]⟩))
    clear hp hf
    go_wp2
    go_ret
    have hE : rM = .error (p11, x11) := by rw [unhide HM]; simp [unhide E11, bind, Except.bind, pure, Except.pure]
    rw [hE]
    exact ⟨⟨rfl, unhide HPE⟩, unhide HFE⟩
  · have E11 := hide hr11
    clear hr11
    rw [unhide E11] at HT
    go_enter Tryz.func13, Tryz.ntmps13
    go_wp2_with fail
    refine (unhide HT).mono ?_
    rintro e w1 ⟨⟨rfl, hp⟩, hf⟩
    obtain ⟨hc1, hg1, -⟩ := hp.blk.facts
    have HQ1 := hide (hp.setNm (.string sN))
    have HF1 := hide ((hf.weak (S' := (g ≤ ·)) fun x _ e => by omega).set (p := ⟨g, 4, none⟩) (.inl (Nat.le_refl g)) (.string sN))
    clear hp hf HT
    rcases hr15 : wantT l iN wDEFINITIONS with ⟨p15, x15⟩ | k14
    · have E15 := hide hr15
      clear hr15
      have HQ14 := hide (want_q (unhide HQ1) wDEFINITIONS)
      rw [unhide E15] at HQ14
      go_wp2_with fail
      refine (unhide HQ14).mono ?_
      rintro e w14 ⟨⟨rfl, hp⟩, hf⟩
      have HP14 := hide hp
      have HF14 := hide ((unhide HF1).trans (hf.weak (S' := (g ≤ ·)) fun x _ e => by omega))
      clear hp hf HQ14
      go_wp2
      go_ret
      have hE : rM = .error (p15, x15) := by rw [unhide HM]; simp [unhide E11, unhide E15, bind, Except.bind, pure, Except.pure]
      rw [hE]
      exact ⟨⟨rfl, unhide HP14⟩, unhide HF14⟩
    · have E15 := hide hr15
      clear hr15
      have HQ14 := hide (want_q (unhide HQ1) wDEFINITIONS)
      rw [unhide E15] at HQ14
      go_wp2_with fail
      refine (unhide HQ14).mono ?_
      rintro e w14 ⟨⟨rfl, hp⟩, hf⟩
      have HP14 := hide hp
      have HF14 := hide ((unhide HF1).trans (hf.weak (S' := (g ≤ ·)) fun x _ e => by omega))
      clear hp hf HQ14
      clear hc1 hg1
      rcases hr17 : taggingT l k14 with ⟨p17, x17⟩ | ⟨tg, k16⟩
      · have E17 := hide hr17
        clear hr17
        have HQ16 := hide (tagging_q (unhide HP14))
        rw [unhide E17] at HQ16
        go_wp2_with fail
        refine (unhide HQ16).mono ?_
        rintro e w16 ⟨⟨rfl, hp⟩, hf⟩
        have HP16 := hide hp
        have HF16 := hide ((unhide HF14).trans (hf.weak (S' := (g ≤ ·)) fun x _ e => by omega))
        clear hp hf HQ16
        go_wp2
        go_ret
        have hE : rM = .error (p17, x17) := by rw [unhide HM]; simp [unhide E11, unhide E15, unhide E17, bind, Except.bind, pure, Except.pure]
        rw [hE]
        exact ⟨⟨rfl, unhide HP16⟩, unhide HF16⟩
      · have E17 := hide hr17
        clear hr17
        have HQ16 := hide (tagging_q (unhide HP14))
        rw [unhide E17] at HQ16
        go_wp2_with fail
        refine (unhide HQ16).mono ?_
        rintro e w16 ⟨⟨rfl, hp⟩, hf⟩
        have HP16 := hide hp
        have HF16 := hide ((unhide HF14).trans (hf.weak (S' := (g ≤ ·)) fun x _ e => by omega))
        clear hp hf HQ16
        rcases hr19 : wantT l k16 s_ass with ⟨p19, x19⟩ | k18
        · have E19 := hide hr19
          clear hr19
          have HQ18 := hide (want_q (unhide HP16) s_ass)
          rw [unhide E19] at HQ18
          go_wp2_with fail
          refine (unhide HQ18).mono ?_
          rintro e w18 ⟨⟨rfl, hp⟩, hf⟩
          have HP18 := hide hp
          have HF18 := hide ((unhide HF16).trans (hf.weak (S' := (g ≤ ·)) fun x _ e => by omega))
          clear hp hf HQ18
          go_wp2
          go_ret
          have hE : rM = .error (p19, x19) := by rw [unhide HM]; simp [unhide E11, unhide E15, unhide E17, unhide E19, bind, Except.bind, pure, Except.pure]
          rw [hE]
          exact ⟨⟨rfl, unhide HP18⟩, unhide HF18⟩
        · have E19 := hide hr19
          clear hr19
          have HQ18 := hide (want_q (unhide HP16) s_ass)
          rw [unhide E19] at HQ18
          go_wp2_with fail
          refine (unhide HQ18).mono ?_
          rintro e w18 ⟨⟨rfl, hp⟩, hf⟩
          have HP18 := hide hp
          have HF18 := hide ((unhide HF16).trans (hf.weak (S' := (g ≤ ·)) fun x _ e => by omega))
          clear hp hf HQ18
          rcases hr21 : wantT l k18 wBEGIN with ⟨p21, x21⟩ | k20
          · have E21 := hide hr21
            clear hr21
            have HQ20 := hide (want_q (unhide HP18) wBEGIN)
            rw [unhide E21] at HQ20
            go_wp2_with fail
            refine (unhide HQ20).mono ?_
            rintro e w20 ⟨⟨rfl, hp⟩, hf⟩
            have HP20 := hide hp
            have HF20 := hide ((unhide HF18).trans (hf.weak (S' := (g ≤ ·)) fun x _ e => by omega))
            clear hp hf HQ20
            go_wp2
            go_ret
            have hE : rM = .error (p21, x21) := by rw [unhide HM]; simp [unhide E11, unhide E15, unhide E17, unhide E19, unhide E21, bind, Except.bind, pure, Except.pure]
            rw [hE]
            exact ⟨⟨rfl, unhide HP20⟩, unhide HF20⟩
          · have E21 := hide hr21
            clear hr21
            have HQ20 := hide (want_q (unhide HP18) wBEGIN)
            rw [unhide E21] at HQ20
            go_wp2_with fail
            refine (unhide HQ20).mono ?_
            rintro e w20 ⟨⟨rfl, hp⟩, hf⟩
            have HP20 := hide hp
            have HF20 := hide ((unhide HF18).trans (hf.weak (S' := (g ≤ ·)) fun x _ e => by omega))
            clear hp hf HQ20
            have HA22 : Hid (AsgS w g A c l (.string sN) (.int .i64 tg) k20 { name := sN, tagging := tg } _) := ⟨⟨_, _, _, unhide HP20, World.ownsRow_nil _ _ _ _, World.ownsRow_nil _ _ _ _, ⟨[], rfl, World.ownsRow_nil _ _ _ _, fun q hq => by cases hq⟩, by simp⟩, unhide HF20, rfl, by simp⟩
            rcases hr24 : assignsT l (l.length + 1) { name := sN, tagging := tg } k20 with ⟨p24, x24⟩ | ⟨mD, k23⟩
            · have E24 := hide hr24
              clear hr24
              have HQ23 := hide (assigns_q (unhide HA22) hN hXs)
              rw [unhide E24] at HQ23
              go_wp2_with fail
              refine (unhide HQ23).mono ?_
              rintro e w23 ⟨⟨rfl, hp⟩, hf⟩
              have HP23 := hide hp
              have HF23 := hide (hf)
              clear hp hf HQ23
              go_wp2
              go_ret
              have hE : rM = .error (p24, x24) := by rw [unhide HM]; simp [unhide E11, unhide E15, unhide E17, unhide E19, unhide E21, unhide E24, bind, Except.bind, pure, Except.pure]
              rw [hE]
              exact ⟨⟨rfl, unhide HP23⟩, unhide HF23⟩
            · have E24 := hide hr24
              clear hr24
              have HQ23 := hide (assigns_q (unhide HA22) hN hXs)
              rw [unhide E24] at HQ23
              go_wp2_with fail
              refine (unhide HQ23).mono ?_
              rintro e w23 ⟨⟨rfl, hS⟩, hf⟩
              have HS23 := hide hS
              have hsame := assignsT_same l _ _ _ _ (unhide E24)
              simp only at hsame
              have HF23 := hide (hf)
              clear hS hf HQ23
              rcases hr26 : wantT l k23 wEND with ⟨p26, x26⟩ | k25
              · have E26 := hide hr26
                clear hr26
                have HQ25 := hide (wantA (unhide HS23) wEND)
                rw [unhide E26] at HQ25
                go_wp2_with fail
                refine (unhide HQ25).mono ?_
                rintro e w25 ⟨⟨rfl, hp⟩, hf⟩
                have HP25 := hide hp
                have HF25 := hide (hf)
                clear hp hf HQ25
                go_wp2
                go_ret
                have hE : rM = .error (p26, x26) := by rw [unhide HM]; simp [unhide E11, unhide E15, unhide E17, unhide E19, unhide E21, unhide E24, unhide E26, bind, Except.bind, pure, Except.pure]
                rw [hE]
                exact ⟨⟨rfl, unhide HP25⟩, unhide HF25⟩
              · have E26 := hide hr26
                clear hr26
                have HQ25 := hide (wantA (unhide HS23) wEND)
                rw [unhide E26] at HQ25
                go_wp2_with fail
                refine (unhide HQ25).mono ?_
                rintro e w25 ⟨⟨rfl, hS⟩, hf⟩
                have HS25 := hide hS
                have HF25 := hide (hf)
                clear hS hf HQ25
                rcases hr28 : (if (tk l k25).1 = 0 then (.ok () : Except SErr Unit) else errT l k25 7) with ⟨p28, x28⟩ | uQ
                · have E28 := hide hr28
                  clear hr28
                  have HQ27 := hide (endP_q (unhide HS25))
                  rw [unhide E28] at HQ27
                  go_wp2_with fail
                  refine (unhide HQ27).mono ?_
                  rintro e w27 ⟨⟨rfl, hp⟩, hf⟩
                  have HP27 := hide hp
                  have HF27 := hide (hf)
                  clear hp hf HQ27
                  go_wp2
                  go_ret
                  have hE : rM = .error (p28, x28) := by rw [unhide HM]; simp [unhide E11, unhide E15, unhide E17, unhide E19, unhide E21, unhide E24, unhide E26, unhide E28, bind, Except.bind, pure, Except.pure]
                  rw [hE]
                  exact ⟨⟨rfl, unhide HP27⟩, unhide HF27⟩
                · have E28 := hide hr28
                  clear hr28
                  have HQ27 := hide (endP_q (unhide HS25))
                  rw [unhide E28] at HQ27
                  go_wp2_with fail
                  refine (unhide HQ27).mono ?_
                  rintro e w27 ⟨⟨rfl, hS⟩, hf⟩
                  have HS27 := hide hS
                  have HF27 := hide (hf)
                  clear hS hf HQ27
                  go_wp2
                  go_ret
                  have hE : rM = .ok mD := by rw [unhide HM]; simp [unhide E11, unhide E15, unhide E17, unhide E19, unhide E21, unhide E24, unhide E26, unhide E28, bind, Except.bind, pure, Except.pure]
                  rw [hE]
                  refine ⟨⟨rfl, k25, ?_⟩, unhide HF27⟩
                  rw [hsame.1, hsame.2]
                  exact unhide HS27
end
end Go.Proofs.YtckcbgijddglpaaGreatDoor
