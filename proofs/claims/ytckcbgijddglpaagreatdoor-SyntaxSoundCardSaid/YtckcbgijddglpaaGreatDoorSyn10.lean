/- The parser: ranges and sizes. -/
import Derived.Test.YtckcbgijddglpaaGreatDoorSyn9
namespace Go.Proofs.YtckcbgijddglpaaGreatDoor
open Go.ChangeShapes Go.WideShapes Go.ChangeAt Go.RowKit Go.PlainAid
set_option linter.unusedVariables false
set_option linter.unusedSimpArgs false
section
variable {w : World} {g : Nat} {A : Option Addr} {c : Nat} {l : List Tok} {i : Nat} {m0 m1 m2 m3 m4 : Value}
set_option maxRecDepth 100000 in
set_option maxHeartbeats 16000000 in
theorem range_q (h : PQ w g A c l i m0 m1 m2 m3 m4) (hN : NumsL l) {n : Nat} {t : TypeId} {a0 a1 a2 a3 a4 b0 b1 b2 b3 b4 : Value} (hB : Blk w n t #[a0, a1, a2, a3, a4, .bool false, .bool false, .bool false, .bool false, .int .i64 0, .int .i64 0, b0, b1, b2, b3, b4]) (hn : g < n) :
    Calls Tryz.prog 107 #[.pointer (some ⟨g, 0, none⟩), .pointer (some ⟨n, 5, none⟩)] w
      (PostT (rangeT l i) g (S2 g n) w (fun r e w' => Yes e ∧ PQ w' g A c l r.2 m0 m1 m2 m3 m4 ∧ Blk w' n t #[a0, a1, a2, a3, a4, .bool r.1.has, .bool r.1.hasLow, .bool r.1.hasHigh, .bool r.1.more, .int .i64 r.1.low, .int .i64 r.1.high, b0, b1, b2, b3, b4]) No) := by
  have HP1 := hide h
  have HB1 := hide hB
  have HF1 := hide (FS.refl (S2 g n) w)
  clear h hB
  go_enter Tryz.func107, Tryz.ntmps107
  rcases Bool.eq_false_or_eq_true (isT l i s_lp) with hb11 | hb11
  · have E11 := hide hb11
    clear hb11
    go_wp2_with fail
    refine (take_y (unhide HP1) (unhide E11)).mono ?_
    rintro e w12 ⟨rfl, hp, hf⟩
    have HP12 := hide hp
    have HF12 := hide ((unhide HF1).fr2 hf)
    have HB12 : Hid (Blk _ n t #[a0, a1, a2, a3, a4, .bool false, .bool false, .bool false, .bool false, .int .i64 0, .int .i64 0, b0, b1, b2, b3, b4]) := hf.blk (unhide HB1) hn
    clear hp hf
    rcases hr14 : boundsT l (i + 1) with ⟨p14, x14⟩ | ⟨c13, k13⟩
    · have E14 := hide hr14
      clear hr14
      go_wp2_with fail
      have HQ13 := hide (bounds_q (unhide HP12) hN (unhide HB12) hn)
      rw [unhide E14] at HQ13
      refine (unhide HQ13).mono ?_
      rintro e w13 ⟨⟨rfl, hp⟩, hf⟩
      have HP13 := hide hp
      have HF13 := hide ((unhide HF12).trans hf)
      clear hp hf HQ13
      go_wp2
      go_ret
      have hE : rangeT l i = .error (p14, x14) := by simp [rangeT, unhide E11, unhide E14, bind, Except.bind, pure, Except.pure]
      rw [hE]
      exact ⟨⟨rfl, unhide HP13⟩, unhide HF13⟩
    · have E14 := hide hr14
      clear hr14
      go_wp2_with fail
      have HQ13 := hide (bounds_q (unhide HP12) hN (unhide HB12) hn)
      rw [unhide E14] at HQ13
      refine (unhide HQ13).mono ?_
      rintro e w13 ⟨⟨rfl, hp, hb⟩, hf⟩
      have HP13 := hide hp
      have HB13 : Hid (Blk _ n t #[a0, a1, a2, a3, a4, .bool c13.has, .bool c13.hasLow, .bool c13.hasHigh, .bool c13.more, .int .i64 c13.low, .int .i64 c13.high, b0, b1, b2, b3, b4]) := hb
      have HF13 := hide ((unhide HF12).trans hf)
      clear hp hf HQ13 hb
      rcases hr16 : wantT l k13 s_rp with ⟨p16, x16⟩ | k15
      · have E16 := hide hr16
        clear hr16
        go_wp2_with fail
        have HQ15 := hide (want_q (unhide HP13) s_rp)
        rw [unhide E16] at HQ15
        refine (unhide HQ15).mono ?_
        rintro e w15 ⟨⟨rfl, hp⟩, hf⟩
        have HP15 := hide hp
        have HF15 := hide ((unhide HF13).fs2 hf)
        clear hp hf HQ15
        go_wp2
        go_ret
        have hE : rangeT l i = .error (p16, x16) := by simp [rangeT, unhide E11, unhide E14, unhide E16, bind, Except.bind, pure, Except.pure]
        rw [hE]
        exact ⟨⟨rfl, unhide HP15⟩, unhide HF15⟩
      · have E16 := hide hr16
        clear hr16
        go_wp2_with fail
        have HQ15 := hide (want_q (unhide HP13) s_rp)
        rw [unhide E16] at HQ15
        refine (unhide HQ15).mono ?_
        rintro e w15 ⟨⟨rfl, hp⟩, hf⟩
        have HP15 := hide hp
        have HB15 : Hid (Blk _ n t #[a0, a1, a2, a3, a4, .bool c13.has, .bool c13.hasLow, .bool c13.hasHigh, .bool c13.more, .int .i64 c13.low, .int .i64 c13.high, b0, b1, b2, b3, b4]) := hf.blk1 (unhide HB13) hn
        have HF15 := hide ((unhide HF13).fs2 hf)
        clear hp hf HQ15
        go_wp2
        go_ret
        have hE : rangeT l i = .ok (c13, k15) := by simp [rangeT, unhide E11, unhide E14, unhide E16, bind, Except.bind, pure, Except.pure]
        rw [hE]
        exact ⟨⟨rfl, unhide HP15, unhide HB15⟩, unhide HF15⟩
  · have E11 := hide hb11
    clear hb11
    go_wp2_with fail
    refine (take_n (unhide HP1) (unhide E11)).mono ?_
    rintro e w17 ⟨rfl, hp, hf⟩
    have HP17 := hide hp
    have HF17 := hide ((unhide HF1).fr2 hf)
    have HB17 : Hid (Blk _ n t #[a0, a1, a2, a3, a4, .bool false, .bool false, .bool false, .bool false, .int .i64 0, .int .i64 0, b0, b1, b2, b3, b4]) := hf.blk (unhide HB1) hn
    clear hp hf
    go_wp2
    go_ret
    have hE : rangeT l i = .ok ({}, i) := by simp [rangeT, unhide E11, bind, Except.bind, pure, Except.pure]
    rw [hE]
    exact ⟨⟨rfl, unhide HP17, unhide HB17⟩, unhide HF17⟩
set_option maxRecDepth 100000 in
set_option maxHeartbeats 16000000 in
theorem size_q (h : PQ w g A c l i m0 m1 m2 m3 m4) (hN : NumsL l) {n : Nat} {t : TypeId} {a0 a1 a2 a3 a4 b0 b1 b2 b3 b4 : Value} (hB : Blk w n t #[a0, a1, a2, a3, a4, .bool false, .bool false, .bool false, .bool false, .int .i64 0, .int .i64 0, b0, b1, b2, b3, b4]) (hn : g < n) :
    Calls Tryz.prog 108 #[.pointer (some ⟨g, 0, none⟩), .pointer (some ⟨n, 5, none⟩)] w
      (PostT (sizeT l i) g (S2 g n) w (fun r e w' => Yes e ∧ PQ w' g A c l r.2 m0 m1 m2 m3 m4 ∧ Blk w' n t #[a0, a1, a2, a3, a4, .bool r.1.has, .bool r.1.hasLow, .bool r.1.hasHigh, .bool r.1.more, .int .i64 r.1.low, .int .i64 r.1.high, b0, b1, b2, b3, b4]) No) := by
  have HP1 := hide h
  have HB1 := hide hB
  have HF1 := hide (FS.refl (S2 g n) w)
  clear h hB
  go_enter Tryz.func108, Tryz.ntmps108
  rcases Bool.eq_false_or_eq_true (isT l i s_lp) with hb18 | hb18
  · have E18 := hide hb18
    clear hb18
    go_wp2_with fail
    refine (take_y (unhide HP1) (unhide E18)).mono ?_
    rintro e w19 ⟨rfl, hp, hf⟩
    have HP19 := hide hp
    have HF19 := hide ((unhide HF1).fr2 hf)
    have HB19 : Hid (Blk _ n t #[a0, a1, a2, a3, a4, .bool false, .bool false, .bool false, .bool false, .int .i64 0, .int .i64 0, b0, b1, b2, b3, b4]) := hf.blk (unhide HB1) hn
    clear hp hf
    rcases hr21 : wantT l (i + 1) wSIZE with ⟨p21, x21⟩ | k20
    · have E21 := hide hr21
      clear hr21
      go_wp2_with fail
      have HQ20 := hide (want_q (unhide HP19) wSIZE)
      rw [unhide E21] at HQ20
      refine (unhide HQ20).mono ?_
      rintro e w20 ⟨⟨rfl, hp⟩, hf⟩
      have HP20 := hide hp
      have HF20 := hide ((unhide HF19).fs2 hf)
      clear hp hf HQ20
      go_wp2
      go_ret
      have hE : sizeT l i = .error (p21, x21) := by simp [sizeT, unhide E18, unhide E21, bind, Except.bind, pure, Except.pure]
      rw [hE]
      exact ⟨⟨rfl, unhide HP20⟩, unhide HF20⟩
    · have E21 := hide hr21
      clear hr21
      go_wp2_with fail
      have HQ20 := hide (want_q (unhide HP19) wSIZE)
      rw [unhide E21] at HQ20
      refine (unhide HQ20).mono ?_
      rintro e w20 ⟨⟨rfl, hp⟩, hf⟩
      have HP20 := hide hp
      have HB20 : Hid (Blk _ n t #[a0, a1, a2, a3, a4, .bool false, .bool false, .bool false, .bool false, .int .i64 0, .int .i64 0, b0, b1, b2, b3, b4]) := hf.blk1 (unhide HB19) hn
      have HF20 := hide ((unhide HF19).fs2 hf)
      clear hp hf HQ20
      rcases hr23 : wantT l k20 s_lp with ⟨p23, x23⟩ | k22
      · have E23 := hide hr23
        clear hr23
        go_wp2_with fail
        have HQ22 := hide (want_q (unhide HP20) s_lp)
        rw [unhide E23] at HQ22
        refine (unhide HQ22).mono ?_
        rintro e w22 ⟨⟨rfl, hp⟩, hf⟩
        have HP22 := hide hp
        have HF22 := hide ((unhide HF20).fs2 hf)
        clear hp hf HQ22
        go_wp2
        go_ret
        have hE : sizeT l i = .error (p23, x23) := by simp [sizeT, unhide E18, unhide E21, unhide E23, bind, Except.bind, pure, Except.pure]
        rw [hE]
        exact ⟨⟨rfl, unhide HP22⟩, unhide HF22⟩
      · have E23 := hide hr23
        clear hr23
        go_wp2_with fail
        have HQ22 := hide (want_q (unhide HP20) s_lp)
        rw [unhide E23] at HQ22
        refine (unhide HQ22).mono ?_
        rintro e w22 ⟨⟨rfl, hp⟩, hf⟩
        have HP22 := hide hp
        have HB22 : Hid (Blk _ n t #[a0, a1, a2, a3, a4, .bool false, .bool false, .bool false, .bool false, .int .i64 0, .int .i64 0, b0, b1, b2, b3, b4]) := hf.blk1 (unhide HB20) hn
        have HF22 := hide ((unhide HF20).fs2 hf)
        clear hp hf HQ22
        rcases hr25 : boundsT l k22 with ⟨p25, x25⟩ | ⟨c24, k24⟩
        · have E25 := hide hr25
          clear hr25
          go_wp2_with fail
          have HQ24 := hide (bounds_q (unhide HP22) hN (unhide HB22) hn)
          rw [unhide E25] at HQ24
          refine (unhide HQ24).mono ?_
          rintro e w24 ⟨⟨rfl, hp⟩, hf⟩
          have HP24 := hide hp
          have HF24 := hide ((unhide HF22).trans hf)
          clear hp hf HQ24
          go_wp2
          go_ret
          have hE : sizeT l i = .error (p25, x25) := by simp [sizeT, unhide E18, unhide E21, unhide E23, unhide E25, bind, Except.bind, pure, Except.pure]
          rw [hE]
          exact ⟨⟨rfl, unhide HP24⟩, unhide HF24⟩
        · have E25 := hide hr25
          clear hr25
          go_wp2_with fail
          have HQ24 := hide (bounds_q (unhide HP22) hN (unhide HB22) hn)
          rw [unhide E25] at HQ24
          refine (unhide HQ24).mono ?_
          rintro e w24 ⟨⟨rfl, hp, hb⟩, hf⟩
          have HP24 := hide hp
          have HB24 : Hid (Blk _ n t #[a0, a1, a2, a3, a4, .bool c24.has, .bool c24.hasLow, .bool c24.hasHigh, .bool c24.more, .int .i64 c24.low, .int .i64 c24.high, b0, b1, b2, b3, b4]) := hb
          have HF24 := hide ((unhide HF22).trans hf)
          clear hp hf HQ24 hb
          rcases hr27 : wantT l k24 s_rp with ⟨p27, x27⟩ | k26
          · have E27 := hide hr27
            clear hr27
            go_wp2_with fail
            have HQ26 := hide (want_q (unhide HP24) s_rp)
            rw [unhide E27] at HQ26
            refine (unhide HQ26).mono ?_
            rintro e w26 ⟨⟨rfl, hp⟩, hf⟩
            have HP26 := hide hp
            have HF26 := hide ((unhide HF24).fs2 hf)
            clear hp hf HQ26
            go_wp2
            go_ret
            have hE : sizeT l i = .error (p27, x27) := by simp [sizeT, unhide E18, unhide E21, unhide E23, unhide E25, unhide E27, bind, Except.bind, pure, Except.pure]
            rw [hE]
            exact ⟨⟨rfl, unhide HP26⟩, unhide HF26⟩
          · have E27 := hide hr27
            clear hr27
            go_wp2_with fail
            have HQ26 := hide (want_q (unhide HP24) s_rp)
            rw [unhide E27] at HQ26
            refine (unhide HQ26).mono ?_
            rintro e w26 ⟨⟨rfl, hp⟩, hf⟩
            have HP26 := hide hp
            have HB26 : Hid (Blk _ n t #[a0, a1, a2, a3, a4, .bool c24.has, .bool c24.hasLow, .bool c24.hasHigh, .bool c24.more, .int .i64 c24.low, .int .i64 c24.high, b0, b1, b2, b3, b4]) := hf.blk1 (unhide HB24) hn
            have HF26 := hide ((unhide HF24).fs2 hf)
            clear hp hf HQ26
            rcases hr29 : wantT l k26 s_rp with ⟨p29, x29⟩ | k28
            · have E29 := hide hr29
              clear hr29
              go_wp2_with fail
              have HQ28 := hide (want_q (unhide HP26) s_rp)
              rw [unhide E29] at HQ28
              refine (unhide HQ28).mono ?_
              rintro e w28 ⟨⟨rfl, hp⟩, hf⟩
              have HP28 := hide hp
              have HF28 := hide ((unhide HF26).fs2 hf)
              clear hp hf HQ28
              go_wp2
              go_ret
              have hE : sizeT l i = .error (p29, x29) := by simp [sizeT, unhide E18, unhide E21, unhide E23, unhide E25, unhide E27, unhide E29, bind, Except.bind, pure, Except.pure]
              rw [hE]
              exact ⟨⟨rfl, unhide HP28⟩, unhide HF28⟩
            · have E29 := hide hr29
              clear hr29
              go_wp2_with fail
              have HQ28 := hide (want_q (unhide HP26) s_rp)
              rw [unhide E29] at HQ28
              refine (unhide HQ28).mono ?_
              rintro e w28 ⟨⟨rfl, hp⟩, hf⟩
              have HP28 := hide hp
              have HB28 : Hid (Blk _ n t #[a0, a1, a2, a3, a4, .bool c24.has, .bool c24.hasLow, .bool c24.hasHigh, .bool c24.more, .int .i64 c24.low, .int .i64 c24.high, b0, b1, b2, b3, b4]) := hf.blk1 (unhide HB26) hn
              have HF28 := hide ((unhide HF26).fs2 hf)
              clear hp hf HQ28
              go_wp2
              go_ret
              have hE : sizeT l i = .ok (c24, k28) := by simp [sizeT, unhide E18, unhide E21, unhide E23, unhide E25, unhide E27, unhide E29, bind, Except.bind, pure, Except.pure]
              rw [hE]
              exact ⟨⟨rfl, unhide HP28, unhide HB28⟩, unhide HF28⟩
  · have E18 := hide hb18
    clear hb18
    go_wp2_with fail
    refine (take_n (unhide HP1) (unhide E18)).mono ?_
    rintro e w30 ⟨rfl, hp, hf⟩
    have HP30 := hide hp
    have HF30 := hide ((unhide HF1).fr2 hf)
    have HB30 : Hid (Blk _ n t #[a0, a1, a2, a3, a4, .bool false, .bool false, .bool false, .bool false, .int .i64 0, .int .i64 0, b0, b1, b2, b3, b4]) := hf.blk (unhide HB1) hn
    clear hp hf
    go_wp2
    go_ret
    have hE : sizeT l i = .ok ({}, i) := by simp [sizeT, unhide E18, bind, Except.bind, pure, Except.pure]
    rw [hE]
    exact ⟨⟨rfl, unhide HP30, unhide HB30⟩, unhide HF30⟩
end
end Go.Proofs.YtckcbgijddglpaaGreatDoor
