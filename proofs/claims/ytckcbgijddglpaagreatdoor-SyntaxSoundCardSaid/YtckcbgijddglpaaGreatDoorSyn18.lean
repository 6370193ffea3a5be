/- The parser: a field. -/
import Derived.Test.YtckcbgijddglpaaGreatDoorSyn17
namespace Go.Proofs.YtckcbgijddglpaaGreatDoor
open Go.ChangeShapes Go.WideShapes Go.ChangeAt Go.RowKit Go.PlainAid
set_option linter.unusedVariables false
set_option linter.unusedSimpArgs false
section
variable {w : World} {g : Nat} {A : Option Addr} {c : Nat} {l : List Tok} {i : Nat} {m0 m1 m2 m3 m4 : Value} {n : Nat} {ok : Nat → Prop} {m vi vf : Value} {nd : NodeV} {ns : List NodeV}
theorem BytesH.farX {v : Value} {bs : List UInt8} (h : BytesH w ok v bs) {X : Nat} (hX : ¬ ok X) (o : Nat) (u : Value) : BytesH (w.setCell ⟨X, o, none⟩ u) ok v bs :=
  h.fs (S := (· = X)) ((FS.refl (· = X) w).set (p := ⟨X, o, none⟩) (.inl rfl) u) fun b _ e => .inr (e ▸ hX)
theorem MakeN.imp {ok' : Nat → Prop} (h : MakeN w g A c l m0 m1 m2 m3 n ok i m vi vf nd ns) (hk : ∀ b, ok b → ok' b) (hk2 : ∀ b, w.heap.size ≤ b → ok' b) : MakeN w g A c l m0 m1 m2 m3 n ok' i m vi vf nd ns := by
  obtain ⟨h1, h2, h3, h4, h5, h6, h7, h8, h9⟩ := h
  exact ⟨h1, h2, h3.imp fun b _ q => hk b q, h4.imp fun b _ q => ⟨hk b q.1, q.2⟩, hk2, h6, h7, h8, h9⟩
theorem MakeN.step {w' : World} {j : Nat} (h : MakeN w g A c l m0 m1 m2 m3 n ok i m vi vf nd ns) (hp : PQ w' g A c l j m0 m1 m2 m3 m) (k : FS (· = g) w w') : MakeN w' g A c l m0 m1 m2 m3 n ok j m vi vf nd ns := by
  obtain ⟨h1, h2, h3, h4, h5, h6, h7, h8, h9⟩ := h
  have hc : ∀ (o : Nat → Prop), Clear w (· = g) o := fun o => clear_typ fun b _ e => by subst e; exact h1.typ
  refine ⟨hp, k.blk1 h2 h6, h3.fs k (hc _), h4.fs k (hc _) (fun b hb e => ?_), fun b hb => h5 b (Nat.le_trans k.size hb), h6, h7, h8, h9⟩
  have := h4.own_lt b hb
  omega
/-- A new block, which is not ok. -/
theorem MakeN.fresh {ok1 : Nat → Prop} (h : MakeN w g A c l m0 m1 m2 m3 n ok i m vi vf nd ns) (o : Obj) (hk : ok1 = fun b => ok b ∧ b ≠ w.heap.size) : MakeN (w.alloc o) g A c l m0 m1 m2 m3 n ok1 i m vi vf nd ns := by
  subst hk
  obtain ⟨h1, h2, h3, h4, h5, h6, h7, h8, h9⟩ := h
  have k := (Keeps.refl w).alloc o
  exact ⟨h1.keeps k, Blk.keeps h2 k, (h3.imp (ok' := fun b => ok b ∧ b ≠ w.heap.size) fun b hb q => ⟨q, by omega⟩).keeps k, (h4.imp (ok' := okx (fun b => ok b ∧ b ≠ w.heap.size) vf) fun b hb q => ⟨⟨q.1, by omega⟩, q.2⟩).keeps k, fun b hb => by rw [World.size_alloc] at hb; exact ⟨h5 b (by omega), by omega⟩, h6, h7, h8, h9⟩
/-- A cell of a block that is not ok is written. -/
theorem MakeN.far {X : Nat} {cs : Array Value} (h : MakeN w g A c l m0 m1 m2 m3 n ok i m vi vf nd ns) (hX : Blk w X 47 cs) (hnX : ¬ ok X) (hg : g < X) (o : Nat) (u : Value) : MakeN (w.setCell ⟨X, o, none⟩ u) g A c l m0 m1 m2 m3 n ok i m vi vf nd ns := by
  obtain ⟨h1, h2, h3, h4, h5, h6, h7, h8, h9⟩ := h
  have k := (FS.refl (· = X) w).set (p := ⟨X, o, none⟩) (.inl rfl) u
  refine ⟨h1.far hg o u, k.blk h2 (fun e => (Blk.ne_ h2 hX (by decide)) e), h3.fs k (fun b _ e => .inr (e ▸ hnX)), h4.fs k (fun b _ e => .inr fun q => hnX (e ▸ q.1)) (fun b hb e => ?_), fun b hb => h5 b (Nat.le_trans k.size hb), h6, h7, h8, h9⟩
  subst e
  obtain ⟨qs', _, h2', _⟩ := h4
  exact own_type h2' hX (by decide) hb
theorem MakeN.call {nd' : NodeP} {D : Int} (h : MakeN w g A c l m0 m1 m2 m3 n ok i m vi vf nd ns) (hNd : NodeC l nd' D) :
    Calls Tryz.prog 69 #[.pointer (some ⟨g, 0, none⟩), .int .i64 D] w
      (PostT (nd' i ns) g (SN g m) w (fun r e w' => e = .returned (.tuple #[.int .i64 (r.1 : Nat), .bool true]) ∧ GivesNodes g A c l m0 m1 m2 m3 m (okx ok vf) w r.2.1 r.2.2 w') (fun e => e = .returned (.tuple #[.int .i64 0, .bool false]))) := by
  obtain ⟨h1, h2, h3, h4, h5, h6, h7, h8, h9⟩ := h
  refine hNd w g A c i m0 m1 m2 m3 m ns (okx ok vf) h1 h4 (fun b hb => ⟨h5 b hb, fun e => ?_⟩) h9
  obtain ⟨qs, _, h3', _⟩ := h3
  have := (own_lt h3'.1 b e)
  omega
theorem MakeN.node {w' : World} {j : Nat} {ns' : List NodeV} (h : MakeN w g A c l m0 m1 m2 m3 n ok i m vi vf nd ns) (hG : GivesNodes g A c l m0 m1 m2 m3 m (okx ok vf) w j ns' w') (k : FS (SN g m) w w') : ∃ m', MakeN w' g A c l m0 m1 m2 m3 n ok j m' vi vf nd ns' ∧ NewR w m m' := by
  obtain ⟨h1, h2, h3, h4, h5, h6, h7, h8, h9⟩ := h
  obtain ⟨m', g1, g2, g3, g4⟩ := hG
  have hc : ∀ (o : Nat → Prop), Clear w (SN g m) o := fun o => clear_typ fun b _ e => by
    rcases e with e | e
    · subst e; exact h1.typ
    · exact h4.typ e
  refine ⟨m', ⟨g1, k.blk h2 (fun e => ?_), h3.fs k (hc _), g2, fun b hb => h5 b (Nat.le_trans k.size hb), h6, h7, fun e => ?_, g4⟩, g3⟩
  · rcases e with e | e
    · omega
    · exact h8 e
  · rcases g3 with q | ⟨b, q, hb⟩
    · exact h8 (q ▸ e)
    · rw [q] at e; injection e with e
      have := Blk.lt h2; omega
theorem MakeN.notX {X : Nat} {cs : Array Value} (h : MakeN w g A c l m0 m1 m2 m3 n ok i m vi vf nd ns) (hX : Blk w X 47 cs) : ¬ SN g m X := by
  obtain ⟨h1, h2, h3, h4, h5, h6, h7, h8, h9⟩ := h
  rintro (e | e)
  · exact (Blk.ne_ h1.1.1 hX (by decide)) e.symm
  · obtain ⟨qs', _, h2', _⟩ := h4
    exact own_type h2' hX (by decide) e
set_option maxRecDepth 100000 in
set_option maxHeartbeats 16000000 in
theorem field_q (hM : MakeN w g A c l m0 m1 m2 m3 n ok i m4 vi vf nd ns) (hN : NumsL l) (hXs : SmallL l) {ndp : NodeP} {D : Int} (hNd : NodeC l ndp (D + 1)) (hD0 : 0 ≤ D) (hD1 : D ≤ 16) (hlen : nd.fields.length ≤ 10000) (gr : Nat) (hgr : gr ≤ 100000) :
    Calls Tryz.prog 122 #[.pointer (some ⟨g, 0, none⟩), .pointer (some ⟨n, 0, none⟩), .int .i64 (gr : Nat), .int .i64 D] w
      (PostT (fieldT l ndp nd.kind gr i ns) g (SF g n m4 vf) w (fun r e w' => Yes e ∧ GivesField g A c l m0 m1 m2 m3 n ok w m4 vi vf r.2.1 { nd with fields := nd.fields ++ [r.1] } r.2.2 w') No) := by
  have HT := hide (token_q hM.1 2)
  obtain ⟨i0, z0, hi0, hz0, hz1, hz2, hz3⟩ := info_three field_info
  have HOK := hide hM.2.2.2.2.1
  rcases hr : tokT l i 2 with ⟨p, x⟩ | ⟨s, j⟩
  · have HR := hide (show fieldT l ndp nd.kind gr i ns = .error (p, x) by simp [fieldT, hr, bind, Except.bind])
    rw [hr] at HT
    clear hr
    go_enter Tryz.func122, Tryz.ntmps122
    go_wp2_with fail
    refine (unhide HT).mono ?_
    rintro e w1 ⟨⟨rfl, hp⟩, hf⟩
    have HP1 := hide hp
    have HF1 := hide (hf.weak (S' := SF g n m4 vf) fun x _ e => .inl e)
    clear hp hf HT
    go_wp2
    go_ret
    rw [unhide HR]
    exact ⟨⟨rfl, unhide HP1⟩, unhide HF1⟩
  · have HR := hide hr
    rw [hr] at HT
    clear hr
    go_enter Tryz.func122, Tryz.ntmps122
    go_wp2_with fail
    refine (unhide HT).mono ?_
    rintro e w1 ⟨⟨rfl, hp⟩, hf⟩
    have hM1 := hM.step hp hf
    obtain ⟨ok1, hok1⟩ : ∃ ok1 : Nat → Prop, ok1 = fun b => ok b ∧ b ≠ w1.heap.size := ⟨_, rfl⟩
    have HX1 := hide (Blk.new w1 47 #[.string s, .int .i64 0, .bool false, .bool false, .int .i64 0, .int .i64 0, .slice none 0 0, .slice none 0 0, .int .i64 0, .slice none 0 0, .int .i64 (gr : Nat)])
    have HM1 : Hid (MakeN _ g A c l m0 m1 m2 m3 n ok1 j m4 vi vf nd ns) := hM1.fresh (.cells #[.string s, .int .i64 0, .bool false, .bool false, .int .i64 0, .int .i64 0, .slice none 0 0, .slice none 0 0, .int .i64 0, .slice none 0 0, .int .i64 (gr : Nat)] 47) hok1
    have HF1 := hide ((hf.weak (S' := SF g n m4 vf) fun x _ e => .inl e).keeps ((Keeps.refl w1).alloc (.cells #[.string s, .int .i64 0, .bool false, .bool false, .int .i64 0, .int .i64 0, .slice none 0 0, .slice none 0 0, .int .i64 0, .slice none 0 0, .int .i64 (gr : Nat)] 47)))
    have hwX : w.heap.size ≤ w1.heap.size := hf.size
    have hgX : g < w1.heap.size := hp.lt
    have hnX : ¬ ok1 w1.heap.size := by rw [hok1]; exact fun h => h.2 rfl
    have HO1 := hide (show ∀ b, ok1 b → ok b from fun b h => by rw [hok1] at h; exact h.1)
    clear hp hf HT hM1 hok1
    rcases hr11 : ndp j ns with ⟨p11, x11⟩ | ⟨kN, jN, nsN⟩
    · have E11 := hide hr11
      clear hr11
      go_wp2_with fail
      have HQ12 := hide ((unhide HM1).call hNd)
      rw [unhide E11] at HQ12
      refine (unhide HQ12).mono ?_
      rintro e w12 ⟨⟨rfl, hp⟩, hf⟩
      have HX12 := hide (hf.blk (unhide HX1) ((unhide HM1).notX (unhide HX1)))
      have HP12 := hide (hp.far hgX 1 (.int .i64 0))
      have HF12 := hide (((unhide HF1).trans (hf.weak (S' := SF g n m4 vf) fun x _ e => e.elim .inl fun q => .inr (.inr (.inl q)))).set (p := ⟨w1.heap.size, 1, none⟩) (.inr hwX) (.int .i64 0))
      obtain ⟨hxc, hxf, _⟩ := (unhide HX12).facts
      clear hp hf HQ12
      go_wp2
      go_ret
      have hE : fieldT l ndp nd.kind gr i ns = .error (p11, x11) := by simp [fieldT, unhide HR, unhide E11, bind, Except.bind, pure, Except.pure]
      rw [hE]
      exact ⟨⟨rfl, unhide HP12⟩, unhide HF12⟩
    · have E11 := hide hr11
      clear hr11
      go_wp2_with fail
      have HQ13 := hide ((unhide HM1).call hNd)
      rw [unhide E11] at HQ13
      refine (unhide HQ13).mono ?_
      rintro e w13 ⟨⟨rfl, hG⟩, hf⟩
      obtain ⟨mN, hMN, hnN⟩ := (unhide HM1).node hG hf
      have HM13 : Hid (MakeN _ g A c l m0 m1 m2 m3 n ok1 jN mN vi vf nd nsN) := hMN
      have HNW : Hid (NewR w m4 mN) := by
        rcases hnN with q | ⟨b, q, hb⟩
        · exact .inl q
        · exact .inr ⟨b, q, by rw [World.size_alloc] at hb; omega⟩
      have HX13 : Hid (Blk _ w1.heap.size 47 #[.string s, .int .i64 0, .bool false, .bool false, .int .i64 0, .int .i64 0, (.slice none 0 0), .slice none 0 0, .int .i64 0, .slice none 0 0, .int .i64 (gr : Nat)]) := hf.blk (unhide HX1) ((unhide HM1).notX (unhide HX1))
      have HF13 := hide ((unhide HF1).trans (hf.weak (S' := SF g n m4 vf) fun x _ e => e.elim .inl fun q => .inr (.inr (.inl q))))
      clear hG hMN hnN hf HQ13
      obtain ⟨hxc, hxf, _⟩ := (unhide HX13).facts
      have HM14 : Hid (MakeN _ g A c l m0 m1 m2 m3 n ok1 jN mN vi vf nd nsN) := (unhide HM13).far (unhide HX13) hnX hgX 1 (.int .i64 (kN : Nat))
      have HX14 : Hid (Blk _ w1.heap.size 47 #[.string s, .int .i64 (kN : Nat), .bool false, .bool false, .int .i64 0, .int .i64 0, (.slice none 0 0), .slice none 0 0, .int .i64 0, .slice none 0 0, .int .i64 (gr : Nat)]) := (unhide HX13).set_ 1 (.int .i64 (kN : Nat))
      have HF14 := hide ((unhide HF13).set (p := ⟨w1.heap.size, 1, none⟩) (.inr hwX) (.int .i64 (kN : Nat)))
      obtain ⟨hc15, hg15, _⟩ := (unhide HM14).2.1.facts
      simp only [nodeC] at hc15
      by_cases hkd : nd.kind = 9
      · have HKD := hide hkd
        have e9 : (nd.kind != 9) = false := by simp [hkd]
        clear hkd
        go_wp2_with fail
        clear hxc hxf hc15 hg15
        have hFE := hide (show fieldT l ndp nd.kind gr i ns = .ok (({ name := s, type := kN, optional := false, has := false, dflt := {}, group := gr } : FieldV), jN, nsN) by simp [fieldT, unhide HR, unhide E11, unhide HKD, bind, Except.bind, pure, Except.pure])
        clear hM
        go_wp2
        generalize w13.setCell ⟨w1.heap.size, 1, none⟩ (.int .i64 (kN : Nat)) = wS at *
        obtain ⟨hc2, hf2, hnw⟩ := (unhide HM14).2.1.facts
        simp only [nodeC] at hc2
        obtain ⟨hxc, hxf, hxw⟩ := (unhide HX14).facts
        obtain ⟨qs, hq, hrow, hby⟩ := (unhide HM14).2.2.1
        have HEND := hide (fun (w5 : World) (v' : Value) ho hg hat => field_end (w0 := w) (w5 := w5) (v' := v') (vb := (.slice none 0 0)) (x := ({ name := s, type := kN, optional := false, has := false, dflt := {}, group := gr } : FieldV)) (unhide HM14) hq hrow hby (BytesH.nil _ _) (unhide HF14) ho hg hat)
        have HOWN := hide (World.ownsRow.alloc hrow.1.drew (.cells (fieldC ({ name := s, type := kN, optional := false, has := false, dflt := {}, group := gr } : FieldV) (.slice none 0 0)).toArray 47))
        have HRD := hide (row_new wS.drew 47 (fieldC ({ name := s, type := kN, optional := false, has := false, dflt := {}, group := gr } : FieldV) (.slice none 0 0)) 11 rfl)
        obtain ⟨Af, cf, rfl, hcf⟩ := own_form2 hrow.1
        generalize fieldsC qs = xs0 at HOWN HEND
        clear hq hrow hby
        go_region_law (refine step_append_any _ rfl (.tmp 64) (.tmp 66) 38 rfl 0 47 i0 z0 11 136 Tryz.underlying38 hi0 hz0 hz1 hz2 hz3 (by omega) _ nd.fields.length _ (by simp [Act.eval, Act.put]) (unhide HOWN) _ _ 1 1 _ (by simp [Act.eval, Act.put]) (unhide HRD) (fieldC_one _ _ _ _) (by simp only [maxLen]; omega) (by omega) (Nat.zero_le _) ?_; intro v' w5 ho hg hat; obtain ⟨Av, cv, rfl, -⟩ := own_form2 ho; have hE := unhide HEND w5 _ ho hg hat; have HE := hide hE; obtain ⟨hc5, hf5, _⟩ := hE.1.facts; simp only [nodeC] at hc5; clear hE ho hg hat)
        all_goals
          go_wp2
          go_ret
          rw [unhide hFE]
          exact ⟨⟨rfl, _, _, (unhide HE).2.1.imp (unhide HO1) (fun b hb => unhide HOK b (by have := (unhide HE).2.2.2.size; omega)), unhide HNW, (unhide HE).2.2.1⟩, (unhide HE).2.2.2⟩
      · have HKD := hide hkd
        have e9 : (nd.kind != 9) = true := by simp [hkd]
        clear hkd
        rcases Bool.eq_false_or_eq_true (isT l jN wOPTIONAL) with hb16 | hb16
        · have E16 := hide hb16
          clear hb16
          go_wp2_with fail
          clear hxc hxf hc15 hg15
          refine (take_y (unhide HM14).1 (unhide E16)).mono ?_
          rintro e w17 ⟨rfl, hp, hf⟩
          have HM17 : Hid (MakeN _ g A c l m0 m1 m2 m3 n ok1 (jN + 1) mN vi vf nd nsN) := (unhide HM14).step hp (FS.of_fr (S := (· = g)) hf rfl)
          have HX17 : Hid (Blk _ w1.heap.size 47 #[.string s, .int .i64 (kN : Nat), .bool false, .bool false, .int .i64 0, .int .i64 0, (.slice none 0 0), .slice none 0 0, .int .i64 0, .slice none 0 0, .int .i64 (gr : Nat)]) := (FS.of_fr (S := (· = g)) hf rfl).blk1 (unhide HX14) hgX
          have HF17 := hide ((unhide HF14).trans ((FS.of_fr (S := (· = g)) hf rfl).weak (S' := SF g n m4 vf) fun x _ e => .inl e))
          clear hp hf
          obtain ⟨hxc, hxf, _⟩ := (unhide HX17).facts
          have HM18 : Hid (MakeN _ g A c l m0 m1 m2 m3 n ok1 (jN + 1) mN vi vf nd nsN) := (unhide HM17).far (unhide HX17) hnX hgX 2 (.bool true)
          have HX18 : Hid (Blk _ w1.heap.size 47 #[.string s, .int .i64 (kN : Nat), .bool true, .bool false, .int .i64 0, .int .i64 0, (.slice none 0 0), .slice none 0 0, .int .i64 0, .slice none 0 0, .int .i64 (gr : Nat)]) := (unhide HX17).set_ 2 (.bool true)
          have HF18 := hide ((unhide HF17).set (p := ⟨w1.heap.size, 2, none⟩) (.inr hwX) (.bool true))
          go_wp2_with fail
          clear hxc hxf
          have hFE := hide (show fieldT l ndp nd.kind gr i ns = .ok (({ name := s, type := kN, optional := true, has := false, dflt := {}, group := gr } : FieldV), (jN + 1), nsN) by simp [fieldT, unhide HR, unhide E11, unhide HKD, unhide E16, bind, Except.bind, pure, Except.pure])
          clear hM
          go_wp2
          generalize w17.setCell ⟨w1.heap.size, 2, none⟩ (.bool true) = wS at *
          obtain ⟨hc2, hf2, hnw⟩ := (unhide HM18).2.1.facts
          simp only [nodeC] at hc2
          obtain ⟨hxc, hxf, hxw⟩ := (unhide HX18).facts
          obtain ⟨qs, hq, hrow, hby⟩ := (unhide HM18).2.2.1
          have HEND := hide (fun (w5 : World) (v' : Value) ho hg hat => field_end (w0 := w) (w5 := w5) (v' := v') (vb := (.slice none 0 0)) (x := ({ name := s, type := kN, optional := true, has := false, dflt := {}, group := gr } : FieldV)) (unhide HM18) hq hrow hby (BytesH.nil _ _) (unhide HF18) ho hg hat)
          have HOWN := hide (World.ownsRow.alloc hrow.1.drew (.cells (fieldC ({ name := s, type := kN, optional := true, has := false, dflt := {}, group := gr } : FieldV) (.slice none 0 0)).toArray 47))
          have HRD := hide (row_new wS.drew 47 (fieldC ({ name := s, type := kN, optional := true, has := false, dflt := {}, group := gr } : FieldV) (.slice none 0 0)) 11 rfl)
          obtain ⟨Af, cf, rfl, hcf⟩ := own_form2 hrow.1
          generalize fieldsC qs = xs0 at HOWN HEND
          clear hq hrow hby
          go_region_law (refine step_append_any _ rfl (.tmp 64) (.tmp 66) 38 rfl 0 47 i0 z0 11 136 Tryz.underlying38 hi0 hz0 hz1 hz2 hz3 (by omega) _ nd.fields.length _ (by simp [Act.eval, Act.put]) (unhide HOWN) _ _ 1 1 _ (by simp [Act.eval, Act.put]) (unhide HRD) (fieldC_one _ _ _ _) (by simp only [maxLen]; omega) (by omega) (Nat.zero_le _) ?_; intro v' w5 ho hg hat; obtain ⟨Av, cv, rfl, -⟩ := own_form2 ho; have hE := unhide HEND w5 _ ho hg hat; have HE := hide hE; obtain ⟨hc5, hf5, _⟩ := hE.1.facts; simp only [nodeC] at hc5; clear hE ho hg hat)
          all_goals
            go_wp2
            go_ret
            rw [unhide hFE]
            exact ⟨⟨rfl, _, _, (unhide HE).2.1.imp (unhide HO1) (fun b hb => unhide HOK b (by have := (unhide HE).2.2.2.size; omega)), unhide HNW, (unhide HE).2.2.1⟩, (unhide HE).2.2.2⟩
        · have E16 := hide hb16
          clear hb16
          go_wp2_with fail
          clear hxc hxf hc15 hg15
          refine (take_n (unhide HM14).1 (unhide E16)).mono ?_
          rintro e w19 ⟨rfl, hp, hf⟩
          have HM19 : Hid (MakeN _ g A c l m0 m1 m2 m3 n ok1 jN mN vi vf nd nsN) := (unhide HM14).step hp (FS.of_fr (S := (· = g)) hf rfl)
          have HX19 : Hid (Blk _ w1.heap.size 47 #[.string s, .int .i64 (kN : Nat), .bool false, .bool false, .int .i64 0, .int .i64 0, (.slice none 0 0), .slice none 0 0, .int .i64 0, .slice none 0 0, .int .i64 (gr : Nat)]) := (FS.of_fr (S := (· = g)) hf rfl).blk1 (unhide HX14) hgX
          have HF19 := hide ((unhide HF14).trans ((FS.of_fr (S := (· = g)) hf rfl).weak (S' := SF g n m4 vf) fun x _ e => .inl e))
          clear hp hf
          rcases Bool.eq_false_or_eq_true (isT l jN wDEFAULT) with hb20 | hb20
          · have E20 := hide hb20
            clear hb20
            go_wp2_with fail
            refine (take_y (unhide HM19).1 (unhide E20)).mono ?_
            rintro e w21 ⟨rfl, hp, hf⟩
            have HM21 : Hid (MakeN _ g A c l m0 m1 m2 m3 n ok1 (jN + 1) mN vi vf nd nsN) := (unhide HM19).step hp (FS.of_fr (S := (· = g)) hf rfl)
            have HX21 : Hid (Blk _ w1.heap.size 47 #[.string s, .int .i64 (kN : Nat), .bool false, .bool false, .int .i64 0, .int .i64 0, (.slice none 0 0), .slice none 0 0, .int .i64 0, .slice none 0 0, .int .i64 (gr : Nat)]) := (FS.of_fr (S := (· = g)) hf rfl).blk1 (unhide HX19) hgX
            have HF21 := hide ((unhide HF19).trans ((FS.of_fr (S := (· = g)) hf rfl).weak (S' := SF g n m4 vf) fun x _ e => .inl e))
            clear hp hf
            rcases hr23 : valueT l (jN + 1) with ⟨p23, x23⟩ | ⟨vV, jV⟩
            · have E23 := hide hr23
              clear hr23
              go_wp2_with fail
              have HQ22 := hide (value_q (unhide HM21).1 hN hXs)
              rw [unhide E23] at HQ22
              refine (unhide HQ22).mono ?_
              rintro e w22 ⟨⟨rfl, hp⟩, hf⟩
              have HX22 := hide (hf.blk1 (unhide HX21) hgX)
              have HP22 := hide (((((((hp.far hgX 4 (.int .i64 0)).far hgX 5 (.int .i64 0)).far hgX 6 (.slice none 0 0)).far hgX 7 (.slice none 0 0)).far hgX 8 (.int .i64 0)).far hgX 9 (.slice none 0 0)).far hgX 3 (.bool false))
              have HF22 := hide (((((((((unhide HF21).trans (hf.weak (S' := SF g n m4 vf) fun x _ e => .inl e)).set (p := ⟨w1.heap.size, 4, none⟩) (.inr hwX) (.int .i64 0)).set (p := ⟨w1.heap.size, 5, none⟩) (.inr hwX) (.int .i64 0)).set (p := ⟨w1.heap.size, 6, none⟩) (.inr hwX) (.slice none 0 0)).set (p := ⟨w1.heap.size, 7, none⟩) (.inr hwX) (.slice none 0 0)).set (p := ⟨w1.heap.size, 8, none⟩) (.inr hwX) (.int .i64 0)).set (p := ⟨w1.heap.size, 9, none⟩) (.inr hwX) (.slice none 0 0)).set (p := ⟨w1.heap.size, 3, none⟩) (.inr hwX) (.bool false))
              obtain ⟨hxc, hxf, _⟩ := (unhide HX22).facts
              clear hp hf HQ22
              go_wp2
              go_ret
              have hE : fieldT l ndp nd.kind gr i ns = .error (p23, x23) := by simp [fieldT, unhide HR, unhide E11, unhide HKD, unhide E16, unhide E20, unhide E23, bind, Except.bind, pure, Except.pure]
              rw [hE]
              exact ⟨⟨rfl, unhide HP22⟩, unhide HF22⟩
            · have E23 := hide hr23
              clear hr23
              go_wp2_with fail
              have HQ22 := hide (value_q (unhide HM21).1 hN hXs)
              rw [unhide E23] at HQ22
              refine (unhide HQ22).mono ?_
              rintro e w22 ⟨⟨vb, rfl, hp, hby⟩, hf⟩
              obtain ⟨Ab, cb, hvb, -, -⟩ := id hby
              subst hvb
              have HM22 : Hid (MakeN _ g A c l m0 m1 m2 m3 n ok1 jV mN vi vf nd nsN) := (unhide HM21).step hp hf
              have HX22 : Hid (Blk _ w1.heap.size 47 #[.string s, .int .i64 (kN : Nat), .bool false, .bool false, .int .i64 0, .int .i64 0, (.slice none 0 0), .slice none 0 0, .int .i64 0, .slice none 0 0, .int .i64 (gr : Nat)]) := hf.blk1 (unhide HX21) hgX
              have HF22 := hide ((unhide HF21).trans (hf.weak (S' := SF g n m4 vf) fun x _ e => .inl e))
              have HBY0 : Hid (BytesH w22 ok1 (.slice Ab vV.b.length cb) vV.b) := hby.imp fun b _ h => (unhide HM21).2.2.2.2.1 b h
              clear hp hf hby HQ22
              obtain ⟨hxc, hxf, _⟩ := (unhide HX22).facts
              have HM24 : Hid (MakeN _ g A c l m0 m1 m2 m3 n ok1 jV mN vi vf nd nsN) := (unhide HM22).far (unhide HX22) hnX hgX 4 (.int .i64 vV.kind)
              have HX24 : Hid (Blk _ w1.heap.size 47 #[.string s, .int .i64 (kN : Nat), .bool false, .bool false, .int .i64 vV.kind, .int .i64 0, (.slice none 0 0), .slice none 0 0, .int .i64 0, .slice none 0 0, .int .i64 (gr : Nat)]) := (unhide HX22).set_ 4 (.int .i64 vV.kind)
              have HF24 := hide ((unhide HF22).set (p := ⟨w1.heap.size, 4, none⟩) (.inr hwX) (.int .i64 vV.kind))
              have HM25 : Hid (MakeN _ g A c l m0 m1 m2 m3 n ok1 jV mN vi vf nd nsN) := (unhide HM24).far (unhide HX24) hnX hgX 5 (.int .i64 vV.n)
              have HX25 : Hid (Blk _ w1.heap.size 47 #[.string s, .int .i64 (kN : Nat), .bool false, .bool false, .int .i64 vV.kind, .int .i64 vV.n, (.slice none 0 0), .slice none 0 0, .int .i64 0, .slice none 0 0, .int .i64 (gr : Nat)]) := (unhide HX24).set_ 5 (.int .i64 vV.n)
              have HF25 := hide ((unhide HF24).set (p := ⟨w1.heap.size, 5, none⟩) (.inr hwX) (.int .i64 vV.n))
              have HM26 : Hid (MakeN _ g A c l m0 m1 m2 m3 n ok1 jV mN vi vf nd nsN) := (unhide HM25).far (unhide HX25) hnX hgX 6 (.slice Ab vV.b.length cb)
              have HX26 : Hid (Blk _ w1.heap.size 47 #[.string s, .int .i64 (kN : Nat), .bool false, .bool false, .int .i64 vV.kind, .int .i64 vV.n, (.slice Ab vV.b.length cb), .slice none 0 0, .int .i64 0, .slice none 0 0, .int .i64 (gr : Nat)]) := (unhide HX25).set_ 6 (.slice Ab vV.b.length cb)
              have HF26 := hide ((unhide HF25).set (p := ⟨w1.heap.size, 6, none⟩) (.inr hwX) (.slice Ab vV.b.length cb))
              have HM27 : Hid (MakeN _ g A c l m0 m1 m2 m3 n ok1 jV mN vi vf nd nsN) := (unhide HM26).far (unhide HX26) hnX hgX 7 (.slice none 0 0)
              have HX27 : Hid (Blk _ w1.heap.size 47 #[.string s, .int .i64 (kN : Nat), .bool false, .bool false, .int .i64 vV.kind, .int .i64 vV.n, (.slice Ab vV.b.length cb), .slice none 0 0, .int .i64 0, .slice none 0 0, .int .i64 (gr : Nat)]) := (unhide HX26).set_ 7 (.slice none 0 0)
              have HF27 := hide ((unhide HF26).set (p := ⟨w1.heap.size, 7, none⟩) (.inr hwX) (.slice none 0 0))
              have HM28 : Hid (MakeN _ g A c l m0 m1 m2 m3 n ok1 jV mN vi vf nd nsN) := (unhide HM27).far (unhide HX27) hnX hgX 8 (.int .i64 0)
              have HX28 : Hid (Blk _ w1.heap.size 47 #[.string s, .int .i64 (kN : Nat), .bool false, .bool false, .int .i64 vV.kind, .int .i64 vV.n, (.slice Ab vV.b.length cb), .slice none 0 0, .int .i64 0, .slice none 0 0, .int .i64 (gr : Nat)]) := (unhide HX27).set_ 8 (.int .i64 0)
              have HF28 := hide ((unhide HF27).set (p := ⟨w1.heap.size, 8, none⟩) (.inr hwX) (.int .i64 0))
              have HM29 : Hid (MakeN _ g A c l m0 m1 m2 m3 n ok1 jV mN vi vf nd nsN) := (unhide HM28).far (unhide HX28) hnX hgX 9 (.slice none 0 0)
              have HX29 : Hid (Blk _ w1.heap.size 47 #[.string s, .int .i64 (kN : Nat), .bool false, .bool false, .int .i64 vV.kind, .int .i64 vV.n, (.slice Ab vV.b.length cb), .slice none 0 0, .int .i64 0, .slice none 0 0, .int .i64 (gr : Nat)]) := (unhide HX28).set_ 9 (.slice none 0 0)
              have HF29 := hide ((unhide HF28).set (p := ⟨w1.heap.size, 9, none⟩) (.inr hwX) (.slice none 0 0))
              have HM30 : Hid (MakeN _ g A c l m0 m1 m2 m3 n ok1 jV mN vi vf nd nsN) := (unhide HM29).far (unhide HX29) hnX hgX 3 (.bool true)
              have HX30 : Hid (Blk _ w1.heap.size 47 #[.string s, .int .i64 (kN : Nat), .bool false, .bool true, .int .i64 vV.kind, .int .i64 vV.n, (.slice Ab vV.b.length cb), .slice none 0 0, .int .i64 0, .slice none 0 0, .int .i64 (gr : Nat)]) := (unhide HX29).set_ 3 (.bool true)
              have HF30 := hide ((unhide HF29).set (p := ⟨w1.heap.size, 3, none⟩) (.inr hwX) (.bool true))
              have HBY := hide ((((((((unhide HBY0).farX hnX 4 (.int .i64 vV.kind)).farX hnX 5 (.int .i64 vV.n)).farX hnX 6 (.slice Ab vV.b.length cb)).farX hnX 7 (.slice none 0 0)).farX hnX 8 (.int .i64 0)).farX hnX 9 (.slice none 0 0)).farX hnX 3 (.bool true))
              go_wp2_with fail
              clear hxc hxf
              have hFE := hide (show fieldT l ndp nd.kind gr i ns = .ok (({ name := s, type := kN, optional := false, has := true, dflt := vV, group := gr } : FieldV), jV, nsN) by simp [fieldT, unhide HR, unhide E11, unhide HKD, unhide E16, unhide E20, unhide E23, bind, Except.bind, pure, Except.pure])
              clear hM
              go_wp2
              generalize ((((((w22.setCell ⟨w1.heap.size, 4, none⟩ (.int .i64 vV.kind)).setCell ⟨w1.heap.size, 5, none⟩ (.int .i64 vV.n)).setCell ⟨w1.heap.size, 6, none⟩ (.slice Ab vV.b.length cb)).setCell ⟨w1.heap.size, 7, none⟩ (.slice none 0 0)).setCell ⟨w1.heap.size, 8, none⟩ (.int .i64 0)).setCell ⟨w1.heap.size, 9, none⟩ (.slice none 0 0)).setCell ⟨w1.heap.size, 3, none⟩ (.bool true) = wS at *
              obtain ⟨hc2, hf2, hnw⟩ := (unhide HM30).2.1.facts
              simp only [nodeC] at hc2
              obtain ⟨hxc, hxf, hxw⟩ := (unhide HX30).facts
              obtain ⟨qs, hq, hrow, hby⟩ := (unhide HM30).2.2.1
              have HEND := hide (fun (w5 : World) (v' : Value) ho hg hat => field_end (w0 := w) (w5 := w5) (v' := v') (vb := (.slice Ab vV.b.length cb)) (x := ({ name := s, type := kN, optional := false, has := true, dflt := vV, group := gr } : FieldV)) (unhide HM30) hq hrow hby (unhide HBY) (unhide HF30) ho hg hat)
              have HOWN := hide (World.ownsRow.alloc hrow.1.drew (.cells (fieldC ({ name := s, type := kN, optional := false, has := true, dflt := vV, group := gr } : FieldV) (.slice Ab vV.b.length cb)).toArray 47))
              have HRD := hide (row_new wS.drew 47 (fieldC ({ name := s, type := kN, optional := false, has := true, dflt := vV, group := gr } : FieldV) (.slice Ab vV.b.length cb)) 11 rfl)
              obtain ⟨Af, cf, rfl, hcf⟩ := own_form2 hrow.1
              generalize fieldsC qs = xs0 at HOWN HEND
              clear hq hrow hby
              go_region_law (refine step_append_any _ rfl (.tmp 64) (.tmp 66) 38 rfl 0 47 i0 z0 11 136 Tryz.underlying38 hi0 hz0 hz1 hz2 hz3 (by omega) _ nd.fields.length _ (by simp [Act.eval, Act.put]) (unhide HOWN) _ _ 1 1 _ (by simp [Act.eval, Act.put]) (unhide HRD) (fieldC_one _ _ _ _) (by simp only [maxLen]; omega) (by omega) (Nat.zero_le _) ?_; intro v' w5 ho hg hat; obtain ⟨Av, cv, rfl, -⟩ := own_form2 ho; have hE := unhide HEND w5 _ ho hg hat; have HE := hide hE; obtain ⟨hc5, hf5, _⟩ := hE.1.facts; simp only [nodeC] at hc5; clear hE ho hg hat)
              all_goals
                go_wp2
                go_ret
                rw [unhide hFE]
                exact ⟨⟨rfl, _, _, (unhide HE).2.1.imp (unhide HO1) (fun b hb => unhide HOK b (by have := (unhide HE).2.2.2.size; omega)), unhide HNW, (unhide HE).2.2.1⟩, (unhide HE).2.2.2⟩
          · have E20 := hide hb20
            clear hb20
            go_wp2_with fail
            refine (take_n (unhide HM19).1 (unhide E20)).mono ?_
            rintro e w31 ⟨rfl, hp, hf⟩
            have HM31 : Hid (MakeN _ g A c l m0 m1 m2 m3 n ok1 jN mN vi vf nd nsN) := (unhide HM19).step hp (FS.of_fr (S := (· = g)) hf rfl)
            have HX31 : Hid (Blk _ w1.heap.size 47 #[.string s, .int .i64 (kN : Nat), .bool false, .bool false, .int .i64 0, .int .i64 0, (.slice none 0 0), .slice none 0 0, .int .i64 0, .slice none 0 0, .int .i64 (gr : Nat)]) := (FS.of_fr (S := (· = g)) hf rfl).blk1 (unhide HX19) hgX
            have HF31 := hide ((unhide HF19).trans ((FS.of_fr (S := (· = g)) hf rfl).weak (S' := SF g n m4 vf) fun x _ e => .inl e))
            clear hp hf
            go_wp2_with fail
            have hFE := hide (show fieldT l ndp nd.kind gr i ns = .ok (({ name := s, type := kN, optional := false, has := false, dflt := {}, group := gr } : FieldV), jN, nsN) by simp [fieldT, unhide HR, unhide E11, unhide HKD, unhide E16, unhide E20, bind, Except.bind, pure, Except.pure])
            clear hM
            go_wp2
            obtain ⟨hc2, hf2, hnw⟩ := (unhide HM31).2.1.facts
            simp only [nodeC] at hc2
            obtain ⟨hxc, hxf, hxw⟩ := (unhide HX31).facts
            obtain ⟨qs, hq, hrow, hby⟩ := (unhide HM31).2.2.1
            have HEND := hide (fun (w5 : World) (v' : Value) ho hg hat => field_end (w0 := w) (w5 := w5) (v' := v') (vb := (.slice none 0 0)) (x := ({ name := s, type := kN, optional := false, has := false, dflt := {}, group := gr } : FieldV)) (unhide HM31) hq hrow hby (BytesH.nil _ _) (unhide HF31) ho hg hat)
            have HOWN := hide (World.ownsRow.alloc hrow.1.drew (.cells (fieldC ({ name := s, type := kN, optional := false, has := false, dflt := {}, group := gr } : FieldV) (.slice none 0 0)).toArray 47))
            have HRD := hide (row_new w31.drew 47 (fieldC ({ name := s, type := kN, optional := false, has := false, dflt := {}, group := gr } : FieldV) (.slice none 0 0)) 11 rfl)
            obtain ⟨Af, cf, rfl, hcf⟩ := own_form2 hrow.1
            generalize fieldsC qs = xs0 at HOWN HEND
            clear hq hrow hby
            go_region_law (refine step_append_any _ rfl (.tmp 64) (.tmp 66) 38 rfl 0 47 i0 z0 11 136 Tryz.underlying38 hi0 hz0 hz1 hz2 hz3 (by omega) _ nd.fields.length _ (by simp [Act.eval, Act.put]) (unhide HOWN) _ _ 1 1 _ (by simp [Act.eval, Act.put]) (unhide HRD) (fieldC_one _ _ _ _) (by simp only [maxLen]; omega) (by omega) (Nat.zero_le _) ?_; intro v' w5 ho hg hat; obtain ⟨Av, cv, rfl, -⟩ := own_form2 ho; have hE := unhide HEND w5 _ ho hg hat; have HE := hide hE; obtain ⟨hc5, hf5, _⟩ := hE.1.facts; simp only [nodeC] at hc5; clear hE ho hg hat)
            all_goals
              go_wp2
              go_ret
              rw [unhide hFE]
              exact ⟨⟨rfl, _, _, (unhide HE).2.1.imp (unhide HO1) (fun b hb => unhide HOK b (by have := (unhide HE).2.2.2.size; omega)), unhide HNW, (unhide HE).2.2.1⟩, (unhide HE).2.2.2⟩
end
end Go.Proofs.YtckcbgijddglpaaGreatDoor
