/- The parser: a node in the making, with its fields; brackets of versions. -/
import Derived.Test.YtckcbgijddglpaaGreatDoorSyn18
namespace Go.Proofs.YtckcbgijddglpaaGreatDoor
open Go.ChangeShapes Go.WideShapes Go.ChangeAt Go.RowKit Go.PlainAid
set_option linter.unusedVariables false
set_option linter.unusedSimpArgs false
/-- The node n in the making, told from the world w. -/
def FldS (w : World) (g : Nat) (A : Option Addr) (c : Nat) (l : List Tok) (m0 m1 m2 m3 : Value) (n : Nat) (ok : Nat → Prop) (m4 vi vf : Value) (i : Nat) (nd : NodeV) (ns : List NodeV) (wr : World) : Prop :=
  GivesField g A c l m0 m1 m2 m3 n ok w m4 vi vf i nd ns wr ∧ FS (SF g n m4 vf) w wr ∧ nd.fields.length ≤ i
section
variable {w wr w2 : World} {g : Nat} {A : Option Addr} {c : Nat} {l : List Tok} {i j : Nat} {m0 m1 m2 m3 m4 : Value} {n : Nat} {ok : Nat → Prop} {vi vf : Value} {nd nd' : NodeV} {ns ns' : List NodeV}
theorem FS.sf {m m' vf' : Value} {w1 : World} (h : FS (SF g n m vf) w w1) (k : FS (SF g n m' vf') w1 w2) (h1 : NewR w m m') (h2 : NewR w vf vf') : FS (SF g n m vf) w w2 :=
  h.trans2 k (fun _ _ q => q) fun x hx q => by
    rcases q with q | q | q | q
    · exact .inl q
    · exact .inr (.inl q)
    · rcases h1 with e | ⟨b, e, hb⟩
      · exact .inr (.inr (.inl (e ▸ q)))
      · rw [e] at q; injection q with q; omega
    · rcases h2 with e | ⟨b, e, hb⟩
      · exact .inr (.inr (.inr (e ▸ q)))
      · rw [e] at q; injection q with q; omega
theorem FldS.pq (h : FldS w g A c l m0 m1 m2 m3 n ok m4 vi vf i nd ns wr) : ∃ m, PQ wr g A c l i m0 m1 m2 m3 m := by
  obtain ⟨⟨m, v, hM, _⟩, _⟩ := h
  exact ⟨m, hM.1⟩
theorem FldS.le (h : FldS w g A c l m0 m1 m2 m3 n ok m4 vi vf i nd ns wr) : i ≤ l.length ∧ l.length ≤ 10000 := by
  obtain ⟨m, hp⟩ := h.pq
  exact hp.2.2
theorem FldS.nb (h : FldS w g A c l m0 m1 m2 m3 n ok m4 vi vf i nd ns wr) : ∃ Af cf, NB wr n nd vi (.slice Af nd.fields.length cf) := by
  obtain ⟨⟨m, v, hM, _⟩, _⟩ := h
  obtain ⟨qs, _, hr, _⟩ := hM.2.2.1
  obtain ⟨Af, cf, rfl, _⟩ := own_form2 hr.1
  exact ⟨Af, cf, hM.2.1⟩
theorem FldS.step (h : FldS w g A c l m0 m1 m2 m3 n ok m4 vi vf i nd ns wr) (k : FS (· = g) wr w2) (hp : ∀ m, PQ wr g A c l i m0 m1 m2 m3 m → PQ w2 g A c l j m0 m1 m2 m3 m) (hij : i ≤ j) : FldS w g A c l m0 m1 m2 m3 n ok m4 vi vf j nd ns w2 := by
  obtain ⟨⟨m, v, hM, h1, h2⟩, h3, h4⟩ := h
  exact ⟨⟨m, v, hM.step (hp m hM.1) k, h1, h2⟩, h3.trans (k.weak fun x _ e => .inl e), by omega⟩
theorem FldS.set (h : FldS w g A c l m0 m1 m2 m3 n ok m4 vi vf i nd ns wr) (o : Nat) (u : Value) (he : ∀ v, (nodeC nd vi v).setIfInBounds o u = nodeC nd' vi v) (hf : nd'.fields = nd.fields) : FldS w g A c l m0 m1 m2 m3 n ok m4 vi vf i nd' ns (wr.setCell ⟨n, o, none⟩ u) := by
  obtain ⟨⟨m, v, hM, h1, h2⟩, h3, h4⟩ := h
  obtain ⟨p1, p2, p3, p4, p5, p6, p7, p8, p9⟩ := hM
  have k := (FS.refl (· = n) wr).set (p := ⟨n, o, none⟩) (.inl rfl) u
  have hc : ∀ (q : Nat → Prop), Clear wr (· = n) q := fun q => clear_typ fun b _ e => by subst e; exact p2.typ
  refine ⟨⟨m, v, ⟨p1.far p6 o u, NB.put p2 o u (he v), ?_, p4.fs k (hc _) (fun b hb e => p8 (e ▸ hb)), fun b hb => p5 b (Nat.le_trans k.size hb), p6, p7, p8, p9⟩, h1, h2⟩, h3.set (p := ⟨n, o, none⟩) (.inl (.inr (.inl rfl))) u, by rw [hf]; exact h4⟩
  rw [hf]
  exact p3.fs k (hc _)
/-- A call of the stream's, in the state. -/
theorem takeS_y (h : FldS w g A c l m0 m1 m2 m3 n ok m4 vi vf i nd ns wr) {s : ByteArray} (hb : isT l i s = true) :
    Calls Tryz.prog 68 #[.pointer (some ⟨g, 0, none⟩), .string s] wr fun e w' => e = .returned (.bool true) ∧ FldS w g A c l m0 m1 m2 m3 n ok m4 vi vf (i + 1) nd ns w' := by
  have h' := h
  obtain ⟨⟨m, v, hM, h1, h2⟩, h3, h4⟩ := h
  refine (take_y hM.1 hb).mono ?_
  rintro e w' ⟨he, hp, hf⟩
  exact ⟨he, ⟨m, v, hM.step hp (FS.of_fr hf rfl), h1, h2⟩, h3.fr hf (.inl rfl), by omega⟩
theorem takeS_n (h : FldS w g A c l m0 m1 m2 m3 n ok m4 vi vf i nd ns wr) {s : ByteArray} (hb : isT l i s = false) :
    Calls Tryz.prog 68 #[.pointer (some ⟨g, 0, none⟩), .string s] wr fun e w' => e = .returned (.bool false) ∧ FldS w g A c l m0 m1 m2 m3 n ok m4 vi vf i nd ns w' := by
  obtain ⟨⟨m, v, hM, h1, h2⟩, h3, h4⟩ := h
  refine (take_n hM.1 hb).mono ?_
  rintro e w' ⟨he, hp, hf⟩
  exact ⟨he, ⟨m, v, hM.step hp (FS.of_fr hf rfl), h1, h2⟩, h3.fr hf (.inl rfl), h4⟩
theorem isS (h : FldS w g A c l m0 m1 m2 m3 n ok m4 vi vf i nd ns wr) {s : ByteArray} {b : Bool} (hb : isT l i s = b) :
    Calls Tryz.prog 90 #[.pointer (some ⟨g, 0, none⟩), .string s] wr fun e w' => e = .returned (.bool b) ∧ FldS w g A c l m0 m1 m2 m3 n ok m4 vi vf i nd ns w' := by
  obtain ⟨⟨m, v, hM, h1, h2⟩, h3, h4⟩ := h
  refine (is_y hM.1 hb).mono ?_
  rintro e w' ⟨he, hp, hf⟩
  exact ⟨he, ⟨m, v, hM.step hp (FS.of_fr hf rfl), h1, h2⟩, h3.fr hf (.inl rfl), h4⟩
theorem skipS (h : FldS w g A c l m0 m1 m2 m3 n ok m4 vi vf i nd ns wr) (hk : (tk l i).1 ≠ 0) :
    Calls Tryz.prog 67 #[.pointer (some ⟨g, 0, none⟩)] wr fun e w' => e = .returned (.tuple #[]) ∧ FldS w g A c l m0 m1 m2 m3 n ok m4 vi vf (i + 1) nd ns w' := by
  obtain ⟨⟨m, v, hM, h1, h2⟩, h3, h4⟩ := h
  refine (skip_q hM.1).mono ?_
  rintro e w' ⟨he, hp, hf⟩
  rw [skT, if_neg hk] at hp
  exact ⟨he, ⟨m, v, hM.step hp (FS.of_fr hf rfl), h1, h2⟩, h3.fr hf (.inl rfl), by omega⟩
theorem nowS (h : FldS w g A c l m0 m1 m2 m3 n ok m4 vi vf i nd ns wr) :
    Calls Tryz.prog 65 #[.pointer (some ⟨g, 0, none⟩)] wr fun e w' => e = .returned (.agg #[.int .i64 (tk l i).1, .string (tk l i).2.1, .int .i64 ((tk l i).2.2 : Nat)]) ∧ FldS w g A c l m0 m1 m2 m3 n ok m4 vi vf i nd ns w' := by
  obtain ⟨⟨m, v, hM, h1, h2⟩, h3, h4⟩ := h
  refine (now_q hM.1).mono ?_
  rintro e w' ⟨he, hk⟩
  exact ⟨he, ⟨m, v, hM.step (hM.1.keeps hk) (FS.of_keeps hk), h1, h2⟩, h3.keeps hk, h4⟩
theorem stopS (h : FldS w g A c l m0 m1 m2 m3 n ok m4 vi vf i nd ns wr) (x : Int) :
    Calls Tryz.prog 66 #[.pointer (some ⟨g, 0, none⟩), .int .i64 x] wr fun e w' => e = .returned (.bool false) ∧ PE w' g x (tk l i).2.2 ∧ FS (SF g n m4 vf) w w' := by
  obtain ⟨⟨m, v, hM, h1, h2⟩, h3, h4⟩ := h
  refine (stop_q hM.1 x).mono ?_
  rintro e w' ⟨he, hp, hf⟩
  exact ⟨he, hp, h3.fr hf (.inl rfl)⟩
theorem wantS (h : FldS w g A c l m0 m1 m2 m3 n ok m4 vi vf i nd ns wr) (s : ByteArray) :
    Calls Tryz.prog 30 #[.pointer (some ⟨g, 0, none⟩), .string s] wr (PostT (wantT l i s) g (SF g n m4 vf) w (fun j e w' => Yes e ∧ FldS w g A c l m0 m1 m2 m3 n ok m4 vi vf j nd ns w') No) := by
  obtain ⟨⟨m, v, hM, h1, h2⟩, h3, h4⟩ := h
  refine (want_q hM.1 s).mono ?_
  rintro e w' ⟨hr, hf⟩
  refine ⟨?_, h3.trans (hf.weak fun x _ e => .inl e)⟩
  rcases hw : wantT l i s with ⟨p, x⟩ | j
  · rw [hw] at hr; exact hr
  · rw [hw] at hr
    have := (wantT_ok hw).2
    exact ⟨hr.1, ⟨m, v, hM.step hr.2 hf, h1, h2⟩, h3.trans (hf.weak fun x _ e => .inl e), by omega⟩
theorem fieldS (h : FldS w g A c l m0 m1 m2 m3 n ok m4 vi vf i nd ns wr) (hN : NumsL l) (hXs : SmallL l) {ndp : NodeP} {D : Int} (hNd : NodeC l ndp (D + 1)) (hle : NdLe ndp) (hD0 : 0 ≤ D) (hD1 : D ≤ 16) (gr : Nat) (hgr : gr ≤ 100000) :
    Calls Tryz.prog 122 #[.pointer (some ⟨g, 0, none⟩), .pointer (some ⟨n, 0, none⟩), .int .i64 (gr : Nat), .int .i64 D] wr
      (PostT (fieldT l ndp nd.kind gr i ns) g (SF g n m4 vf) w (fun r e w' => Yes e ∧ FldS w g A c l m0 m1 m2 m3 n ok m4 vi vf r.2.1 { nd with fields := nd.fields ++ [r.1] } r.2.2 w') No) := by
  have hl := h.le
  obtain ⟨⟨m, v, hM, h1, h2⟩, h3, h4⟩ := h
  refine (field_q hM hN hXs hNd hD0 hD1 (by omega) gr hgr).mono ?_
  rintro e w' ⟨hr, hf⟩
  have hF := h3.sf hf h1 h2
  refine ⟨?_, hF⟩
  rcases hw : fieldT l ndp nd.kind gr i ns with ⟨p, x⟩ | ⟨x, j, ns2⟩
  · rw [hw] at hr; exact hr
  · rw [hw] at hr
    obtain ⟨he, m', v', hM', k1, k2⟩ := hr
    have := fieldT_lt hle hw
    exact ⟨he, ⟨m', v', hM', h1.trans k1 h3.size, h2.trans k2 h3.size⟩, hF, by simp at this ⊢; omega⟩
set_option maxRecDepth 100000 in
set_option maxHeartbeats 16000000 in
theorem group_q (h : FldS w g A c l m0 m1 m2 m3 n ok m4 vi vf i nd ns wr) (hN : NumsL l) (hXs : SmallL l) {ndp : NodeP} {D : Int} (hNd : NodeC l ndp (D + 1)) (hle : NdLe ndp) (hD0 : 0 ≤ D) (hD1 : D ≤ 16) (gr : Nat) (hgr : gr ≤ 100000) :
    Calls Tryz.prog 132 #[.pointer (some ⟨g, 0, none⟩), .pointer (some ⟨n, 0, none⟩), .int .i64 (gr : Nat), .int .i64 D] wr
      (PostT (groupT l ndp gr (l.length + 1) nd i ns) g (SF g n m4 vf) w (fun r e w' => Yes e ∧ FldS w g A c l m0 m1 m2 m3 n ok m4 vi vf r.2.1 r.1 r.2.2 w') No) := by
  have HI := hide h
  obtain ⟨rG, hrG⟩ : ∃ r, r = groupT l ndp gr (l.length + 1) nd i ns := ⟨_, rfl⟩
  rw [← hrG]
  have HR := hide hrG
  clear h hrG
  go_enter Tryz.func132, Tryz.ntmps132
  go_wp2
  go_loopg [] (l.length + 1 - i) (fun k wq => ∃ nd' i' ns' f, FldS w g A c l m0 m1 m2 m3 n ok m4 vi vf i' nd' ns' wq ∧ rG = groupT l ndp gr f nd' i' ns' ∧ l.length < f + i' ∧ k = l.length + 1 - i')
  case atStart => exact ⟨nd, i, ns, l.length + 1, unhide HI, unhide HR, by omega, rfl⟩
  case round =>
    obtain ⟨nd', i', ns', f, hS, hr, hfu, hk⟩ := hrel
    have hil := hS.le
    obtain ⟨f, rfl⟩ : ∃ f', f = f' + 1 := ⟨f - 1, by omega⟩
    have HQ := hide (fieldS hS hN hXs hNd hle hD0 hD1 gr hgr)
    have HRR := hide hr
    have HK := hide hk
    clear hS hr hk
    rcases hw : fieldT l ndp nd'.kind gr i' ns' with ⟨p, x⟩ | ⟨x, j, ns2⟩
    · have HE := hide (show rG = .error (p, x) by rw [unhide HRR]; simp [groupT, hw, bind, Except.bind])
      rw [hw] at HQ
      clear hw
      go_wp2_with fail
      refine (unhide HQ).mono ?_
      rintro e w4 ⟨⟨rfl, hp⟩, hf⟩
      have HP4 := hide hp
      have HF4 := hide hf
      clear hp hf HQ
      go_wp2
      go_ret
      rw [unhide HE]
      exact ⟨⟨rfl, unhide HP4⟩, unhide HF4⟩
    · have hj := fieldT_lt hle hw
      simp only at hj
      have HE := hide (show rG = (if isT l j s_cm = true then groupT l ndp gr f { nd' with fields := nd'.fields ++ [x] } (j + 1) ns2 else (wantT l j s_rr >>= fun q => pure ({ nd' with fields := nd'.fields ++ [x] }, q, ns2))) by rw [unhide HRR]; simp [groupT, hw, bind, Except.bind])
      rw [hw] at HQ
      clear hw
      go_wp2_with fail
      refine (unhide HQ).mono ?_
      rintro e w4 ⟨⟨rfl, hS⟩, hf⟩
      have HS4 := hide hS
      have hjl := hS.le.1
      clear hS hf HQ
      rcases Bool.eq_false_or_eq_true (isT l j s_cm) with hb | hb
      · have E1 := hide hb
        have hnx := tk_end_le hjl (isT_ne hb)
        clear hb
        go_wp2_with fail
        refine (takeS_y (unhide HS4) (unhide E1)).mono ?_
        rintro e w5 ⟨rfl, hS⟩
        have HS5 := hide hS
        clear hS
        go_wp2
        go_roundg (l.length + 1 - (j + 1))
        case measure => have := unhide HK; omega
        case rel => exact ⟨_, j + 1, ns2, f, unhide HS5, by rw [unhide HE, if_pos (unhide E1)], by omega, rfl⟩
      · have E1 := hide hb
        clear hb
        go_wp2_with fail
        refine (takeS_n (unhide HS4) (unhide E1)).mono ?_
        rintro e w5 ⟨rfl, hS⟩
        have HQ := hide (wantS hS s_rr)
        clear hS
        rcases hw : wantT l j s_rr with ⟨p, x2⟩ | j2
        · have HE2 := hide (show rG = .error (p, x2) by rw [unhide HE]; simp [unhide E1, hw, bind, Except.bind])
          rw [hw] at HQ
          clear hw
          go_wp2_with fail
          refine (unhide HQ).mono ?_
          rintro e w6 ⟨⟨rfl, hp⟩, hf⟩
          have HP4 := hide hp
          have HF4 := hide hf
          clear hp hf HQ
          go_wp2
          go_ret
          rw [unhide HE2]
          exact ⟨⟨rfl, unhide HP4⟩, unhide HF4⟩
        · have HE2 := hide (show rG = .ok ({ nd' with fields := nd'.fields ++ [x] }, j2, ns2) by rw [unhide HE]; simp [unhide E1, hw, bind, Except.bind, pure, Except.pure])
          rw [hw] at HQ
          clear hw
          go_wp2_with fail
          refine (unhide HQ).mono ?_
          rintro e w6 ⟨⟨rfl, hS⟩, hf⟩
          have HS6 := hide hS
          have HF6 := hide hf
          clear hS hf HQ
          go_wp2
          go_ret
          rw [unhide HE2]
          exact ⟨⟨rfl, unhide HS6⟩, unhide HF6⟩
end
end Go.Proofs.YtckcbgijddglpaaGreatDoor
