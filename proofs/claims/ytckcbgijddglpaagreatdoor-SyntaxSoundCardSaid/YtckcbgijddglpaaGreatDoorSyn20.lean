/- The parser: additions; fields in braces. -/
import Derived.Test.YtckcbgijddglpaaGreatDoorSyn19
namespace Go.Proofs.YtckcbgijddglpaaGreatDoor
open Go.ChangeShapes Go.WideShapes Go.ChangeAt Go.RowKit Go.PlainAid
set_option linter.unusedVariables false
set_option linter.unusedSimpArgs false
/-- What follows the fields of the root. -/
def restT (l : List Tok) (nd : NodeP) (r : (NodeV × Bool) × Nat × List NodeV) : Except SErr (NodeV × Nat × List NodeV) := do
  let n : NodeV := { r.1.1 with root := r.1.1.fields.length }
  let (n, i, ns) ← (if r.1.2 = true then addT l nd (l.length + 1) 0 { n with more := true } (r.2.1 + 1) r.2.2 else pure (n, r.2.1, r.2.2))
  let i ← wantT l i s_rb
  return (n, i, ns)
section
variable {w wr w2 : World} {g : Nat} {A : Option Addr} {c : Nat} {l : List Tok} {i j : Nat} {m0 m1 m2 m3 m4 : Value} {n : Nat} {ok : Nat → Prop} {vi vf : Value} {nd nd' : NodeV} {ns ns' : List NodeV}
set_option maxRecDepth 100000 in
set_option maxHeartbeats 16000000 in
theorem additions_q (h : FldS w g A c l m0 m1 m2 m3 n ok m4 vi vf i nd ns wr) (hN : NumsL l) (hXs : SmallL l) {ndp : NodeP} {D : Int} (hNd : NodeC l ndp (D + 1)) (hle : NdLe ndp) (hD0 : 0 ≤ D) (hD1 : D ≤ 16) (hdots : isT l i s_dots = true) :
    Calls Tryz.prog 123 #[.pointer (some ⟨g, 0, none⟩), .pointer (some ⟨n, 0, none⟩), .int .i64 D] wr
      (PostT (addT l ndp (l.length + 1) 0 { nd with more := true } (i + 1) ns) g (SF g n m4 vf) w (fun r e w' => Yes e ∧ FldS w g A c l m0 m1 m2 m3 n ok m4 vi vf r.2.1 r.1 r.2.2 w') No) := by
  obtain ⟨rA, hrG⟩ : ∃ r, r = addT l ndp (l.length + 1) 0 { nd with more := true } (i + 1) ns := ⟨_, rfl⟩
  rw [← hrG]
  have HR := hide hrG
  have hk0 := isT_ne hdots
  have hnx0 := tk_end_le h.le.1 hk0
  have HS0 := hide (h.set (nd' := { nd with more := true }) 14 (.bool true) (fun v => rfl) rfl)
  have HSK := hide (skipS (unhide HS0) hk0)
  obtain ⟨Af0, cf0, hB0⟩ := h.nb
  obtain ⟨hc0, hg0, -⟩ := hB0.facts
  simp only [nodeC] at hc0
  clear h hrG hB0 hk0 hdots
  go_enter Tryz.func123, Tryz.ntmps123
  go_wp2_with fail
  refine (unhide HSK).mono ?_
  rintro e w1 ⟨rfl, hS⟩
  have HI := hide hS
  clear hS hc0 hg0
  go_wp2
  go_loopg [7] (l.length - (i + 1)) (fun k gv wq => ∃ nd' i' ns' f q, FldS w g A c l m0 m1 m2 m3 n ok m4 vi vf i' nd' ns' wq ∧ gv = .int .i64 (q : Nat) ∧ rA = addT l ndp f q nd' i' ns' ∧ l.length < f + i' ∧ q ≤ i' ∧ k = l.length - i')
  case atStart => exact ⟨_, i + 1, ns, l.length + 1, 0, unhide HI, rfl, unhide HR, by omega, by omega, rfl⟩
  case round =>
    obtain ⟨nd', i', ns', f, q, hS, rfl, hr, hfu, hq, hk⟩ := hrel
    have hil := hS.le
    obtain ⟨f, rfl⟩ : ∃ f', f = f' + 1 := ⟨f - 1, by omega⟩
    have HS1 := hide hS
    have HRR := hide hr
    have HK := hide hk
    clear hS hr hk
    rcases Bool.eq_false_or_eq_true (isT l i' s_cm) with hb11 | hb11
    · have E11 := hide hb11
      clear hb11
      have hnx := tk_end_le hil.1 (isT_ne (unhide E11))
      go_wp2_with fail
      refine (takeS_y (unhide HS1) (unhide E11)).mono ?_
      rintro e w12 ⟨rfl, hS⟩
      have HS12 := hide hS
      clear hS
      rcases Bool.eq_false_or_eq_true (isT l (i' + 1) s_ll) with hb13 | hb13
      · have E13 := hide hb13
        clear hb13
        go_wp2_with fail
        refine (takeS_y (unhide HS12) (unhide E13)).mono ?_
        rintro e w14 ⟨rfl, hS⟩
        have HS14 := hide hS
        clear hS
        have hgr2 : (q : Int) + 1 = ((q + 1 : Nat) : Int) := by omega
        rcases hr16 : groupT l ndp (q + 1) (l.length + 1) nd' (i' + 1 + 1) ns' with ⟨p16, x16⟩ | ⟨ndG, jG, nsG⟩
        · have E16 := hide hr16
          clear hr16
          have HQ15 := hide (by have := group_q (unhide HS14) hN hXs hNd hle hD0 hD1 (q + 1) (by omega); rw [← hgr2] at this; exact this)
          rw [unhide E16] at HQ15
          clear hgr2
          go_wp2_with fail
          refine (unhide HQ15).mono ?_
          rintro e w15 ⟨⟨rfl, hp⟩, hf⟩
          have HP15 := hide hp
          have HF15 := hide hf
          clear hp hf HQ15
          go_wp2
          go_ret
          have hE : rA = .error (p16, x16) := by rw [unhide HRR]; simp [addT, unhide E11, unhide E13, unhide E16, bind, Except.bind, pure, Except.pure]
          rw [hE]
          exact ⟨⟨rfl, unhide HP15⟩, unhide HF15⟩
        · have E16 := hide hr16
          clear hr16
          have HQ15 := hide (by have := group_q (unhide HS14) hN hXs hNd hle hD0 hD1 (q + 1) (by omega); rw [← hgr2] at this; exact this)
          rw [unhide E16] at HQ15
          clear hgr2
          go_wp2_with fail
          refine (unhide HQ15).mono ?_
          rintro e w15 ⟨⟨rfl, hS⟩, hf⟩
          have HS15 := hide hS
          clear hS hf HQ15
          have hj := groupT_le hle _ _ _ _ _ _ (unhide E16)
          simp only at hj
          have hjl := (unhide HS15).le.1
          go_wp2
          go_roundg (l.length - jG)
          case measure => have := unhide HK; omega
          case rel => exact ⟨ndG, jG, nsG, f, q + 1, unhide HS15, congrArg (Value.int IntKind.i64) (by omega), by rw [unhide HRR]; simp [addT, unhide E11, unhide E13, unhide E16, bind, Except.bind], by omega, by omega, rfl⟩
      · have E13 := hide hb13
        clear hb13
        go_wp2_with fail
        refine (takeS_n (unhide HS12) (unhide E13)).mono ?_
        rintro e w17 ⟨rfl, hS⟩
        have HS17 := hide hS
        clear hS
        rcases hr19 : fieldT l ndp nd'.kind 0 (i' + 1) ns' with ⟨p19, x19⟩ | ⟨xF, jF, nsF⟩
        · have E19 := hide hr19
          clear hr19
          have HQ18 := hide (by have := fieldS (unhide HS17) hN hXs hNd hle hD0 hD1 0 (by omega); exact this)
          rw [unhide E19] at HQ18
          go_wp2_with fail
          refine (unhide HQ18).mono ?_
          rintro e w18 ⟨⟨rfl, hp⟩, hf⟩
          have HP18 := hide hp
          have HF18 := hide hf
          clear hp hf HQ18
          go_wp2
          go_ret
          have hE : rA = .error (p19, x19) := by rw [unhide HRR]; simp [addT, unhide E11, unhide E13, unhide E19, bind, Except.bind, pure, Except.pure]
          rw [hE]
          exact ⟨⟨rfl, unhide HP18⟩, unhide HF18⟩
        · have E19 := hide hr19
          clear hr19
          have HQ18 := hide (by have := fieldS (unhide HS17) hN hXs hNd hle hD0 hD1 0 (by omega); exact this)
          rw [unhide E19] at HQ18
          go_wp2_with fail
          refine (unhide HQ18).mono ?_
          rintro e w18 ⟨⟨rfl, hS⟩, hf⟩
          have HS18 := hide hS
          clear hS hf HQ18
          have hj := fieldT_lt hle (unhide E19)
          simp only at hj
          have hjl := (unhide HS18).le.1
          go_wp2
          go_roundg (l.length - jF)
          case measure => have := unhide HK; omega
          case rel => exact ⟨_, jF, nsF, f, q, unhide HS18, rfl, by rw [unhide HRR]; simp [addT, unhide E11, unhide E13, unhide E19, bind, Except.bind], by omega, by omega, rfl⟩
    · have E11 := hide hb11
      clear hb11
      go_wp2_with fail
      refine (takeS_n (unhide HS1) (unhide E11)).mono ?_
      rintro e w20 ⟨rfl, hS⟩
      have HS20 := hide hS
      clear hS
      go_wp2
      go_ret
      have hE : rA = .ok (nd', i', ns') := by rw [unhide HRR]; simp [addT, unhide E11, bind, Except.bind, pure, Except.pure]
      rw [hE]
      exact ⟨⟨rfl, unhide HS20⟩, (unhide HS20).2.1⟩
set_option maxRecDepth 100000 in
set_option maxHeartbeats 16000000 in
theorem braced_q (h : FldS w g A c l m0 m1 m2 m3 n ok m4 vi vf i nd ns wr) (hN : NumsL l) (hXs : SmallL l) {ndp : NodeP} {D : Int} (hNd : NodeC l ndp (D + 1)) (hle : NdLe ndp) (hD0 : 0 ≤ D) (hD1 : D ≤ 16) :
    Calls Tryz.prog 111 #[.pointer (some ⟨g, 0, none⟩), .pointer (some ⟨n, 0, none⟩), .int .i64 D] wr
      (PostT (bracedT l ndp nd i ns) g (SF g n m4 vf) w (fun r e w' => Yes e ∧ FldS w g A c l m0 m1 m2 m3 n ok m4 vi vf r.2.1 r.1 r.2.2 w') No) := by
  obtain ⟨rB, hrG⟩ : ∃ r, r = bracedT l ndp nd i ns := ⟨_, rfl⟩
  rw [← hrG]
  have HR := hide hrG
  have HS1 := hide h
  clear h hrG
  go_enter Tryz.func111, Tryz.ntmps111
  rcases hr22 : wantT l i s_lb with ⟨p22, x22⟩ | k21
  · have E22 := hide hr22
    clear hr22
    have HQ21 := hide (wantS (unhide HS1) s_lb)
    rw [unhide E22] at HQ21
    go_wp2_with fail
    refine (unhide HQ21).mono ?_
    rintro e w21 ⟨⟨rfl, hp⟩, hf⟩
    have HP21 := hide hp
    have HF21 := hide hf
    clear hp hf HQ21
    go_wp2
    go_ret
    have hE : rB = .error (p22, x22) := by rw [unhide HR]; simp [bracedT, unhide E22, bind, Except.bind, pure, Except.pure]
    rw [hE]
    exact ⟨⟨rfl, unhide HP21⟩, unhide HF21⟩
  · have E22 := hide hr22
    clear hr22
    have HQ21 := hide (wantS (unhide HS1) s_lb)
    rw [unhide E22] at HQ21
    go_wp2_with fail
    refine (unhide HQ21).mono ?_
    rintro e w21 ⟨⟨rfl, hS⟩, hf⟩
    have HS21 := hide hS
    clear hS hf HQ21
    rcases Bool.eq_false_or_eq_true (isT l k21 s_rb) with hb23 | hb23
    · have E23 := hide hb23
      clear hb23
      go_wp2_with fail
      refine (takeS_y (unhide HS21) (unhide E23)).mono ?_
      rintro e w24 ⟨rfl, hS⟩
      have HS24 := hide hS
      clear hS
      go_wp2
      go_ret
      have hE : rB = .ok (nd, (k21 + 1), ns) := by rw [unhide HR]; simp [bracedT, unhide E22, unhide E23, bind, Except.bind, pure, Except.pure]
      rw [hE]
      exact ⟨⟨rfl, unhide HS24⟩, (unhide HS24).2.1⟩
    · have E23 := hide hb23
      clear hb23
      go_wp2_with fail
      refine (takeS_n (unhide HS21) (unhide E23)).mono ?_
      rintro e w25 ⟨rfl, hS⟩
      have HS25 := hide hS
      clear hS
      have HRB := hide (show rB = (rootT l ndp (l.length + 1) nd k21 ns >>= restT l ndp) by rw [unhide HR]; simp [bracedT, restT, unhide E22, unhide E23, bind, Except.bind, pure, Except.pure])
      obtain ⟨bd, hbd⟩ : ∃ b, isT l k21 s_dots = b := ⟨_, rfl⟩
      have HBD := hide hbd
      clear hbd
      go_wp2_with fail
      refine (isS (unhide HS25) (unhide HBD)).mono ?_
      rintro e wl ⟨rfl, hS⟩
      have HSL := hide hS
      have hkl := hS.le
      clear hS
      go_wp2
      go_loopg [7] (l.length + 2 - k21) (fun k mv wq => ∃ nd' i' ns' f, FldS w g A c l m0 m1 m2 m3 n ok m4 vi vf i' nd' ns' wq ∧ mv = .bool (isT l i' s_dots) ∧ rB = (rootT l ndp f nd' i' ns' >>= restT l ndp) ∧ l.length < f + i' ∧ k = l.length + 2 - i')
      case atStart => exact ⟨nd, k21, ns, l.length + 1, unhide HSL, by rw [unhide HBD], unhide HRB, by omega, rfl⟩
      case round =>
        obtain ⟨nd', i', ns', f, hS, rfl, hr, hfu, hk⟩ := hrel
        have hil := hS.le
        obtain ⟨f, rfl⟩ : ∃ f', f = f' + 1 := ⟨f - 1, by omega⟩
        have HS1 := hide hS
        have HRR := hide hr
        have HK := hide hk
        clear hS hr hk
        rcases Bool.eq_false_or_eq_true (isT l i' s_dots) with hb27 | hb27
        · have E27 := hide hb27
          clear hb27
          have hx := unhide E27
          rw [hx]
          clear hx
          obtain ⟨Af28, cf28, hB28⟩ := (unhide HS1).nb
          obtain ⟨hc28, hg28, -⟩ := hB28.facts
          simp only [nodeC] at hc28
          clear hB28
          have HS28 := hide ((unhide HS1).set (nd' := { nd' with root := nd'.fields.length }) 13 (.int .i64 (nd'.fields.length : Nat)) (fun v => rfl) rfl)
          rcases hr30 : addT l ndp (l.length + 1) 0 { { nd' with root := nd'.fields.length } with more := true } (i' + 1) ns' with ⟨p30, x30⟩ | ⟨ndA, jA, nsA⟩
          · have E30 := hide hr30
            clear hr30
            have HQ29 := hide (additions_q (unhide HS28) hN hXs hNd hle hD0 hD1 (unhide E27))
            rw [unhide E30] at HQ29
            go_wp2_with fail
            clear hc28 hg28
            refine (unhide HQ29).mono ?_
            rintro e w29 ⟨⟨rfl, hp⟩, hf⟩
            have HP29 := hide hp
            have HF29 := hide hf
            clear hp hf HQ29
            go_wp2
            go_ret
            have hE : rB = .error (p30, x30) := by rw [unhide HRR]; simp [rootT, restT, unhide E27, unhide E30, bind, Except.bind, pure, Except.pure]
            rw [hE]
            exact ⟨⟨rfl, unhide HP29⟩, unhide HF29⟩
          · have E30 := hide hr30
            clear hr30
            have HQ29 := hide (additions_q (unhide HS28) hN hXs hNd hle hD0 hD1 (unhide E27))
            rw [unhide E30] at HQ29
            go_wp2_with fail
            clear hc28 hg28
            refine (unhide HQ29).mono ?_
            rintro e w29 ⟨⟨rfl, hS⟩, hf⟩
            have HS29 := hide hS
            clear hS hf HQ29
            rcases hr32 : wantT l jA s_rb with ⟨p32, x32⟩ | k31
            · have E32 := hide hr32
              clear hr32
              have HQ31 := hide (wantS (unhide HS29) s_rb)
              rw [unhide E32] at HQ31
              go_wp2_with fail
              refine (unhide HQ31).mono ?_
              rintro e w31 ⟨⟨rfl, hp⟩, hf⟩
              have HP31 := hide hp
              have HF31 := hide hf
              clear hp hf HQ31
              go_wp2
              go_ret
              have hE : rB = .error (p32, x32) := by rw [unhide HRR]; simp [rootT, restT, unhide E27, unhide E30, unhide E32, bind, Except.bind, pure, Except.pure]
              rw [hE]
              exact ⟨⟨rfl, unhide HP31⟩, unhide HF31⟩
            · have E32 := hide hr32
              clear hr32
              have HQ31 := hide (wantS (unhide HS29) s_rb)
              rw [unhide E32] at HQ31
              go_wp2_with fail
              refine (unhide HQ31).mono ?_
              rintro e w31 ⟨⟨rfl, hS⟩, hf⟩
              have HS31 := hide hS
              clear hS hf HQ31
              go_wp2
              go_ret
              have hE : rB = .ok (ndA, k31, nsA) := by rw [unhide HRR]; simp [rootT, restT, unhide E27, unhide E30, unhide E32, bind, Except.bind, pure, Except.pure]
              rw [hE]
              exact ⟨⟨rfl, unhide HS31⟩, (unhide HS31).2.1⟩
        · have E27 := hide hb27
          clear hb27
          have hx := unhide E27
          rw [hx]
          clear hx
          rcases hr34 : fieldT l ndp nd'.kind 0 i' ns' with ⟨p34, x34⟩ | ⟨xF, jF, nsF⟩
          · have E34 := hide hr34
            clear hr34
            have HQ33 := hide (by have := fieldS (unhide HS1) hN hXs hNd hle hD0 hD1 0 (by omega); exact this)
            rw [unhide E34] at HQ33
            go_wp2_with fail
            refine (unhide HQ33).mono ?_
            rintro e w33 ⟨⟨rfl, hp⟩, hf⟩
            have HP33 := hide hp
            have HF33 := hide hf
            clear hp hf HQ33
            go_wp2
            go_ret
            have hE : rB = .error (p34, x34) := by rw [unhide HRR]; simp [rootT, restT, unhide E27, unhide E34, bind, Except.bind, pure, Except.pure]
            rw [hE]
            exact ⟨⟨rfl, unhide HP33⟩, unhide HF33⟩
          · have E34 := hide hr34
            clear hr34
            have HQ33 := hide (by have := fieldS (unhide HS1) hN hXs hNd hle hD0 hD1 0 (by omega); exact this)
            rw [unhide E34] at HQ33
            go_wp2_with fail
            refine (unhide HQ33).mono ?_
            rintro e w33 ⟨⟨rfl, hS⟩, hf⟩
            have HS33 := hide hS
            clear hS hf HQ33
            have hj := fieldT_lt hle (unhide E34)
            simp only at hj
            have hjl := (unhide HS33).le.1
            have HR2 := hide (show rB = ((if isT l jF s_cm = true then rootT l ndp f { nd' with fields := nd'.fields ++ [xF] } (jF + 1) nsF else pure (({ nd' with fields := nd'.fields ++ [xF] }, false), jF, nsF)) >>= restT l ndp) by rw [unhide HRR]; simp [rootT, unhide E27, unhide E34, bind, Except.bind])
            generalize { nd' with fields := nd'.fields ++ [xF] } = ndX at *
            rcases Bool.eq_false_or_eq_true (isT l jF s_cm) with hb35 | hb35
            · have E35 := hide hb35
              clear hb35
              have hnx := tk_end_le hjl (isT_ne (unhide E35))
              go_wp2_with fail
              refine (takeS_y (unhide HS33) (unhide E35)).mono ?_
              rintro e w36 ⟨rfl, hS⟩
              have HS36 := hide hS
              clear hS
              obtain ⟨b2, hb2⟩ : ∃ b, isT l (jF + 1) s_dots = b := ⟨_, rfl⟩
              have HB2 := hide hb2
              clear hb2
              go_wp2_with fail
              refine (isS (unhide HS36) (unhide HB2)).mono ?_
              rintro e wm ⟨rfl, hS⟩
              have HSM := hide hS
              clear hS
              go_wp2
              go_roundg (l.length + 2 - (jF + 1))
              case measure => have := unhide HK; omega
              case rel => exact ⟨ndX, jF + 1, nsF, f, unhide HSM, by rw [unhide HB2], by rw [unhide HR2, if_pos (unhide E35)], by omega, rfl⟩
            · have E35 := hide hb35
              clear hb35
              go_wp2_with fail
              refine (takeS_n (unhide HS33) (unhide E35)).mono ?_
              rintro e w37 ⟨rfl, hS⟩
              have HS37 := hide hS
              clear hS
              obtain ⟨Af38, cf38, hB38⟩ := (unhide HS37).nb
              obtain ⟨hc38, hg38, -⟩ := hB38.facts
              simp only [nodeC] at hc38
              clear hB38
              have HS38 := hide ((unhide HS37).set (nd' := { ndX with root := ndX.fields.length }) 13 (.int .i64 (ndX.fields.length : Nat)) (fun v => rfl) rfl)
              rcases hr40 : wantT l jF s_rb with ⟨p40, x40⟩ | k39
              · have E40 := hide hr40
                clear hr40
                have HQ39 := hide (wantS (unhide HS38) s_rb)
                rw [unhide E40] at HQ39
                go_wp2_with fail
                clear hc38 hg38
                refine (unhide HQ39).mono ?_
                rintro e w39 ⟨⟨rfl, hp⟩, hf⟩
                have HP39 := hide hp
                have HF39 := hide hf
                clear hp hf HQ39
                go_wp2
                go_ret
                have hE : rB = .error (p40, x40) := by rw [unhide HR2]; simp [restT, unhide E35, unhide E40, bind, Except.bind, pure, Except.pure]
                rw [hE]
                exact ⟨⟨rfl, unhide HP39⟩, unhide HF39⟩
              · have E40 := hide hr40
                clear hr40
                have HQ39 := hide (wantS (unhide HS38) s_rb)
                rw [unhide E40] at HQ39
                go_wp2_with fail
                clear hc38 hg38
                refine (unhide HQ39).mono ?_
                rintro e w39 ⟨⟨rfl, hS⟩, hf⟩
                have HS39 := hide hS
                clear hS hf HQ39
                go_wp2
                go_ret
                have hE : rB = .ok ({ ndX with root := ndX.fields.length }, k39, nsF) := by rw [unhide HR2]; simp [restT, unhide E35, unhide E40, bind, Except.bind, pure, Except.pure]
                rw [hE]
                exact ⟨⟨rfl, unhide HS39⟩, (unhide HS39).2.1⟩
end
end Go.Proofs.YtckcbgijddglpaaGreatDoor
