/- The parser: marks; what a type begins with. -/
import Derived.Test.YtckcbgijddglpaaGreatDoorSyn10
namespace Go.Proofs.YtckcbgijddglpaaGreatDoor
open Go.ChangeShapes Go.WideShapes Go.ChangeAt Go.RowKit Go.PlainAid
set_option linter.unusedVariables false
set_option linter.unusedSimpArgs false
section
variable {w : World} {g : Nat} {A : Option Addr} {c : Nat} {l : List Tok} {i : Nat} {m0 m1 m2 m3 m4 : Value}
set_option maxRecDepth 100000 in
set_option maxHeartbeats 16000000 in
theorem mark_q (h : PQ w g A c l i m0 m1 m2 m3 m4) (hN : NumsL l) {n : Nat} {t : TypeId} {a0 a1 d5 d6 d7 d8 d9 d10 d11 d12 d13 d14 d15 : Value} (hB : Blk w n t #[a0, a1, .bool false, .int .i64 0, .int .i64 0, d5, d6, d7, d8, d9, d10, d11, d12, d13, d14, d15]) (hn : g < n) :
    Calls Tryz.prog 92 #[.pointer (some ⟨g, 0, none⟩), .pointer (some ⟨n, 2, none⟩)] w
      (PostT (markT l {} i) g (S2 g n) w (fun r e w' => Yes e ∧ PQ w' g A c l r.2 m0 m1 m2 m3 m4 ∧ Blk w' n t #[a0, a1, .bool r.1.mHas, .int .i64 r.1.mNum, .int .i64 r.1.mMode, d5, d6, d7, d8, d9, d10, d11, d12, d13, d14, d15]) No) := by
  have HP1 := hide h
  have HB1 := hide hB
  have HF1 := hide (FS.refl (S2 g n) w)
  clear h hB
  go_enter Tryz.func92, Tryz.ntmps92
  rcases Bool.eq_false_or_eq_true (isT l i s_ls) with hb11 | hb11
  · have E11 := hide hb11
    clear hb11
    go_wp2_with fail
    refine (take_y (unhide HP1) (unhide E11)).mono ?_
    rintro e w12 ⟨rfl, hp, hf⟩
    have HP12 := hide hp
    have HF12 := hide ((unhide HF1).fr2 hf)
    have HB12 : Hid (Blk _ n t #[a0, a1, .bool false, .int .i64 0, .int .i64 0, d5, d6, d7, d8, d9, d10, d11, d12, d13, d14, d15]) := hf.blk (unhide HB1) hn
    clear hp hf
    have HNw13 := hide (now_q (unhide HP12))
    have hfd := fun w => field2 (tk l (i + 1)).1 ((tk l (i + 1)).2.2 : Nat) (tk l (i + 1)).2.1 w
    go_wp2_with fail
    refine (unhide HNw13).mono ?_
    rintro e w13 ⟨rfl, hk⟩
    have HP13 := hide ((unhide HP12).keeps hk)
    have HB13 : Hid (Blk _ n t #[a0, a1, .bool false, .int .i64 0, .int .i64 0, d5, d6, d7, d8, d9, d10, d11, d12, d13, d14, d15]) := (unhide HB12).keeps hk
    have HF13 := hide ((unhide HF12).keeps hk)
    clear hk
    rcases hr15 : numberT l (i + 1) with ⟨p15, x15⟩ | ⟨v14, k14⟩
    · have E15 := hide hr15
      clear hr15
      go_wp2_with fail
      have HQ14 := hide (number_q (unhide HP13) hN)
      rw [unhide E15] at HQ14
      refine (unhide HQ14).mono ?_
      rintro e w14 ⟨⟨rfl, hp⟩, hf⟩
      have HP14 := hide hp
      have HF14 := hide ((unhide HF13).fs2 hf)
      clear hp hf HQ14
      go_wp2
      go_ret
      have hE : markT l {} i = .error (p15, x15) := by simp [markT, unhide E11, unhide E15, bind, Except.bind, pure, Except.pure]
      rw [hE]
      exact ⟨⟨rfl, unhide HP14⟩, unhide HF14⟩
    · have E15 := hide hr15
      clear hr15
      go_wp2_with fail
      have HQ14 := hide (number_q (unhide HP13) hN)
      rw [unhide E15] at HQ14
      refine (unhide HQ14).mono ?_
      rintro e w14 ⟨⟨rfl, hp⟩, hf⟩
      have HP14 := hide hp
      have HB14 : Hid (Blk _ n t #[a0, a1, .bool false, .int .i64 0, .int .i64 0, d5, d6, d7, d8, d9, d10, d11, d12, d13, d14, d15]) := hf.blk1 (unhide HB13) hn
      have HF14 := hide ((unhide HF13).fs2 hf)
      clear hp hf HQ14
      by_cases hv : v14 < 0
      · have Q16 : Hid (v14 < 0 ∨ 268435456 < v14) := hide (.inl hv)
        go_wp2_with fail
        refine (stopAt_q (unhide HP14) _ 12).mono ?_
        rintro e w16 ⟨rfl, hp, hf⟩
        have HP16 := hide hp
        have HF16 := hide ((unhide HF14).fr2 hf)
        clear hp hf
        go_wp2
        go_ret
        have hE : markT l {} i = .error ((tk l (i + 1)).2.2, 12) := by simp [markT, unhide E11, unhide E15, unhide Q16, bind, Except.bind, pure, Except.pure]
        rw [hE]
        exact ⟨⟨rfl, unhide HP16⟩, unhide HF16⟩
      · by_cases hv2 : 268435456 < v14
        · have Q17 : Hid (v14 < 0 ∨ 268435456 < v14) := hide (.inr hv2)
          go_wp2_with fail
          refine (stopAt_q (unhide HP14) _ 12).mono ?_
          rintro e w17 ⟨rfl, hp, hf⟩
          have HP17 := hide hp
          have HF17 := hide ((unhide HF14).fr2 hf)
          clear hp hf
          go_wp2
          go_ret
          have hE : markT l {} i = .error ((tk l (i + 1)).2.2, 12) := by simp [markT, unhide E11, unhide E15, unhide Q17, bind, Except.bind, pure, Except.pure]
          rw [hE]
          exact ⟨⟨rfl, unhide HP17⟩, unhide HF17⟩
        · have Q18 : Hid (¬ (v14 < 0 ∨ 268435456 < v14)) := hide (by omega)
          obtain ⟨hc19, hg19, _⟩ := (unhide HB14).facts
          have HP19 := hide ((unhide HP14).far hn 2 (.bool true))
          have HB19 : Hid (Blk _ n t #[a0, a1, .bool true, .int .i64 0, .int .i64 0, d5, d6, d7, d8, d9, d10, d11, d12, d13, d14, d15]) := (unhide HB14).set_ 2 (.bool true)
          have HF19 := hide ((unhide HF14).set2 2 (.bool true))
          have HP20 := hide ((unhide HP19).far hn 3 (.int .i64 v14))
          have HB20 : Hid (Blk _ n t #[a0, a1, .bool true, .int .i64 v14, .int .i64 0, d5, d6, d7, d8, d9, d10, d11, d12, d13, d14, d15]) := (unhide HB19).set_ 3 (.int .i64 v14)
          have HF20 := hide ((unhide HF19).set2 3 (.int .i64 v14))
          rcases hr22 : wantT l k14 s_rs with ⟨p22, x22⟩ | k21
          · have E22 := hide hr22
            clear hr22
            go_wp2_with fail
            clear hc19 hg19
            have HQ21 := hide (want_q (unhide HP20) s_rs)
            rw [unhide E22] at HQ21
            refine (unhide HQ21).mono ?_
            rintro e w21 ⟨⟨rfl, hp⟩, hf⟩
            have HP21 := hide hp
            have HF21 := hide ((unhide HF20).fs2 hf)
            clear hp hf HQ21
            go_wp2
            go_ret
            have hE : markT l {} i = .error (p22, x22) := by simp [markT, unhide E11, unhide E15, unhide Q18, unhide E22, bind, Except.bind, pure, Except.pure]
            rw [hE]
            exact ⟨⟨rfl, unhide HP21⟩, unhide HF21⟩
          · have E22 := hide hr22
            clear hr22
            go_wp2_with fail
            clear hc19 hg19
            have HQ21 := hide (want_q (unhide HP20) s_rs)
            rw [unhide E22] at HQ21
            refine (unhide HQ21).mono ?_
            rintro e w21 ⟨⟨rfl, hp⟩, hf⟩
            have HP21 := hide hp
            have HB21 : Hid (Blk _ n t #[a0, a1, .bool true, .int .i64 v14, .int .i64 0, d5, d6, d7, d8, d9, d10, d11, d12, d13, d14, d15]) := hf.blk1 (unhide HB20) hn
            have HF21 := hide ((unhide HF20).fs2 hf)
            clear hp hf HQ21
            rcases Bool.eq_false_or_eq_true (isT l k21 wEXPLICIT) with hb23 | hb23
            · have E23 := hide hb23
              clear hb23
              go_wp2_with fail
              refine (take_y (unhide HP21) (unhide E23)).mono ?_
              rintro e w24 ⟨rfl, hp, hf⟩
              have HP24 := hide hp
              have HF24 := hide ((unhide HF21).fr2 hf)
              have HB24 : Hid (Blk _ n t #[a0, a1, .bool true, .int .i64 v14, .int .i64 0, d5, d6, d7, d8, d9, d10, d11, d12, d13, d14, d15]) := hf.blk (unhide HB21) hn
              clear hp hf
              obtain ⟨hc25, hg25, _⟩ := (unhide HB24).facts
              have HP25 := hide ((unhide HP24).far hn 4 (.int .i64 1))
              have HB25 : Hid (Blk _ n t #[a0, a1, .bool true, .int .i64 v14, .int .i64 1, d5, d6, d7, d8, d9, d10, d11, d12, d13, d14, d15]) := (unhide HB24).set_ 4 (.int .i64 1)
              have HF25 := hide ((unhide HF24).set2 4 (.int .i64 1))
              go_wp2
              go_ret
              have hE : markT l {} i = .ok ({ mHas := true, mNum := v14, mMode := 1 }, (k21 + 1)) := by simp [markT, unhide E11, unhide E15, unhide Q18, unhide E22, unhide E23, bind, Except.bind, pure, Except.pure]
              rw [hE]
              exact ⟨⟨rfl, unhide HP25, unhide HB25⟩, unhide HF25⟩
            · have E23 := hide hb23
              clear hb23
              go_wp2_with fail
              refine (take_n (unhide HP21) (unhide E23)).mono ?_
              rintro e w26 ⟨rfl, hp, hf⟩
              have HP26 := hide hp
              have HF26 := hide ((unhide HF21).fr2 hf)
              have HB26 : Hid (Blk _ n t #[a0, a1, .bool true, .int .i64 v14, .int .i64 0, d5, d6, d7, d8, d9, d10, d11, d12, d13, d14, d15]) := hf.blk (unhide HB21) hn
              clear hp hf
              rcases Bool.eq_false_or_eq_true (isT l k21 wIMPLICIT) with hb27 | hb27
              · have E27 := hide hb27
                clear hb27
                go_wp2_with fail
                refine (take_y (unhide HP26) (unhide E27)).mono ?_
                rintro e w28 ⟨rfl, hp, hf⟩
                have HP28 := hide hp
                have HF28 := hide ((unhide HF26).fr2 hf)
                have HB28 : Hid (Blk _ n t #[a0, a1, .bool true, .int .i64 v14, .int .i64 0, d5, d6, d7, d8, d9, d10, d11, d12, d13, d14, d15]) := hf.blk (unhide HB26) hn
                clear hp hf
                obtain ⟨hc29, hg29, _⟩ := (unhide HB28).facts
                have HP29 := hide ((unhide HP28).far hn 4 (.int .i64 2))
                have HB29 : Hid (Blk _ n t #[a0, a1, .bool true, .int .i64 v14, .int .i64 2, d5, d6, d7, d8, d9, d10, d11, d12, d13, d14, d15]) := (unhide HB28).set_ 4 (.int .i64 2)
                have HF29 := hide ((unhide HF28).set2 4 (.int .i64 2))
                go_wp2
                go_ret
                have hE : markT l {} i = .ok ({ mHas := true, mNum := v14, mMode := 2 }, (k21 + 1)) := by simp [markT, unhide E11, unhide E15, unhide Q18, unhide E22, unhide E23, unhide E27, bind, Except.bind, pure, Except.pure]
                rw [hE]
                exact ⟨⟨rfl, unhide HP29, unhide HB29⟩, unhide HF29⟩
              · have E27 := hide hb27
                clear hb27
                go_wp2_with fail
                refine (take_n (unhide HP26) (unhide E27)).mono ?_
                rintro e w30 ⟨rfl, hp, hf⟩
                have HP30 := hide hp
                have HF30 := hide ((unhide HF26).fr2 hf)
                have HB30 : Hid (Blk _ n t #[a0, a1, .bool true, .int .i64 v14, .int .i64 0, d5, d6, d7, d8, d9, d10, d11, d12, d13, d14, d15]) := hf.blk (unhide HB26) hn
                clear hp hf
                go_wp2
                go_ret
                have hE : markT l {} i = .ok ({ mHas := true, mNum := v14, mMode := 0 }, k21) := by simp [markT, unhide E11, unhide E15, unhide Q18, unhide E22, unhide E23, unhide E27, bind, Except.bind, pure, Except.pure]
                rw [hE]
                exact ⟨⟨rfl, unhide HP30, unhide HB30⟩, unhide HF30⟩
  · have E11 := hide hb11
    clear hb11
    go_wp2_with fail
    refine (take_n (unhide HP1) (unhide E11)).mono ?_
    rintro e w31 ⟨rfl, hp, hf⟩
    have HP31 := hide hp
    have HF31 := hide ((unhide HF1).fr2 hf)
    have HB31 : Hid (Blk _ n t #[a0, a1, .bool false, .int .i64 0, .int .i64 0, d5, d6, d7, d8, d9, d10, d11, d12, d13, d14, d15]) := hf.blk (unhide HB1) hn
    clear hp hf
    go_wp2
    go_ret
    have hE : markT l {} i = .ok ({}, i) := by simp [markT, unhide E11, bind, Except.bind, pure, Except.pure]
    rw [hE]
    exact ⟨⟨rfl, unhide HP31, unhide HB31⟩, unhide HF31⟩
set_option maxRecDepth 100000 in
set_option maxHeartbeats 16000000 in
theorem begins_q (h : PQ w g A c l i m0 m1 m2 m3 m4) :
    Calls Tryz.prog 91 #[.pointer (some ⟨g, 0, none⟩)] w fun e w' => e = .returned (.bool (beginsT l i)) ∧ Keeps w w' := by
  have HN := hide (now_q h)
  have HI := hide (show beginsT l i = (decide ((tk l i).1 = 1) || (decide ((tk l i).1 = 6) && (tk l i).2.1.data.toList == [91]) || (decide ((tk l i).1 = 5) && [wBOOLEAN, wNULL, wUTF8String, wINTEGER, wOCTET, wENUMERATED, wSEQUENCE, wSET, wCHOICE].any fun w => (tk l i).2.1.data.toList == w.data.toList)) from rfl)
  clear h
  generalize tk l i = t at *
  obtain ⟨k, x, a⟩ := t
  have hxl : x.data.toList = x.toList := (ByteArray.toList_eq x).symm
  rw [hxl] at HI
  clear hxl
  generalize hX : x.toList = xl at HI
  rcases show k = 1 ∨ k = 6 ∨ k = 5 ∨ (k ≠ 1 ∧ k ≠ 6 ∧ k ≠ 5) by omega with rfl | rfl | rfl | ⟨q1, q2, q3⟩
  · clear hX
    have HR := hide (show beginsT l i = true by rw [unhide HI]; simp)
    go_enter Tryz.func91, Tryz.ntmps91
    go_wp2_with fail
    refine (unhide HN).mono ?_
    rintro e w1 ⟨rfl, hk⟩
    have HK := hide hk
    clear hk
    go_wp2
    go_ret
    exact ⟨ret_bool (unhide HR).symm, (unhide HK).alloc _⟩
  · cases hv : (xl == [91]) with
    | true =>
      have HR := hide (show beginsT l i = true by rw [unhide HI]; simp [hv])
      rw [← hX] at hv
      clear hX
      go_enter Tryz.func91, Tryz.ntmps91
      go_wp2_with fail
      refine (unhide HN).mono ?_
      rintro e w1 ⟨rfl, hk⟩
      have HK := hide hk
      clear hk
      go_wp2
      go_ret
      exact ⟨ret_bool (unhide HR).symm, (unhide HK).alloc _⟩
    | false =>
      have HR := hide (show beginsT l i = false by rw [unhide HI]; simp [hv])
      rw [← hX] at hv
      clear hX
      go_enter Tryz.func91, Tryz.ntmps91
      go_wp2_with fail
      refine (unhide HN).mono ?_
      rintro e w1 ⟨rfl, hk⟩
      have HK := hide hk
      clear hk
      go_wp2
      go_ret
      exact ⟨ret_bool (unhide HR).symm, (unhide HK).alloc _⟩
  · cases hv0 : (xl == [66, 79, 79, 76, 69, 65, 78]) with
    | true =>
      have HR := hide (show beginsT l i = true by rw [unhide HI]; simp [List.any, hv0])
      rw [← hX] at hv0
      clear hX
      go_enter Tryz.func91, Tryz.ntmps91
      go_wp2_with fail
      refine (unhide HN).mono ?_
      rintro e w1 ⟨rfl, hk⟩
      have HK := hide hk
      clear hk
      go_wp2
      go_ret
      exact ⟨ret_bool (unhide HR).symm, (unhide HK).alloc _⟩
    | false =>
      cases hv1 : (xl == [78, 85, 76, 76]) with
      | true =>
        have HR := hide (show beginsT l i = true by rw [unhide HI]; simp [List.any, hv0, hv1])
        rw [← hX] at hv0 hv1
        clear hX
        go_enter Tryz.func91, Tryz.ntmps91
        go_wp2_with fail
        refine (unhide HN).mono ?_
        rintro e w1 ⟨rfl, hk⟩
        have HK := hide hk
        clear hk
        go_wp2
        go_ret
        exact ⟨ret_bool (unhide HR).symm, (unhide HK).alloc _⟩
      | false =>
        cases hv2 : (xl == [85, 84, 70, 56, 83, 116, 114, 105, 110, 103]) with
        | true =>
          have HR := hide (show beginsT l i = true by rw [unhide HI]; simp [List.any, hv0, hv1, hv2])
          rw [← hX] at hv0 hv1 hv2
          clear hX
          go_enter Tryz.func91, Tryz.ntmps91
          go_wp2_with fail
          refine (unhide HN).mono ?_
          rintro e w1 ⟨rfl, hk⟩
          have HK := hide hk
          clear hk
          go_wp2
          go_ret
          exact ⟨ret_bool (unhide HR).symm, (unhide HK).alloc _⟩
        | false =>
          cases hv3 : (xl == [73, 78, 84, 69, 71, 69, 82]) with
          | true =>
            have HR := hide (show beginsT l i = true by rw [unhide HI]; simp [List.any, hv0, hv1, hv2, hv3])
            rw [← hX] at hv0 hv1 hv2 hv3
            clear hX
            go_enter Tryz.func91, Tryz.ntmps91
            go_wp2_with fail
            refine (unhide HN).mono ?_
            rintro e w1 ⟨rfl, hk⟩
            have HK := hide hk
            clear hk
            go_wp2
            go_ret
            exact ⟨ret_bool (unhide HR).symm, (unhide HK).alloc _⟩
          | false =>
            cases hv4 : (xl == [79, 67, 84, 69, 84]) with
            | true =>
              have HR := hide (show beginsT l i = true by rw [unhide HI]; simp [List.any, hv0, hv1, hv2, hv3, hv4])
              rw [← hX] at hv0 hv1 hv2 hv3 hv4
              clear hX
              go_enter Tryz.func91, Tryz.ntmps91
              go_wp2_with fail
              refine (unhide HN).mono ?_
              rintro e w1 ⟨rfl, hk⟩
              have HK := hide hk
              clear hk
              go_wp2
              go_ret
              exact ⟨ret_bool (unhide HR).symm, (unhide HK).alloc _⟩
            | false =>
              cases hv5 : (xl == [69, 78, 85, 77, 69, 82, 65, 84, 69, 68]) with
              | true =>
                have HR := hide (show beginsT l i = true by rw [unhide HI]; simp [List.any, hv0, hv1, hv2, hv3, hv4, hv5])
                rw [← hX] at hv0 hv1 hv2 hv3 hv4 hv5
                clear hX
                go_enter Tryz.func91, Tryz.ntmps91
                go_wp2_with fail
                refine (unhide HN).mono ?_
                rintro e w1 ⟨rfl, hk⟩
                have HK := hide hk
                clear hk
                go_wp2
                go_ret
                exact ⟨ret_bool (unhide HR).symm, (unhide HK).alloc _⟩
              | false =>
                cases hv6 : (xl == [83, 69, 81, 85, 69, 78, 67, 69]) with
                | true =>
                  have HR := hide (show beginsT l i = true by rw [unhide HI]; simp [List.any, hv0, hv1, hv2, hv3, hv4, hv5, hv6])
                  rw [← hX] at hv0 hv1 hv2 hv3 hv4 hv5 hv6
                  clear hX
                  go_enter Tryz.func91, Tryz.ntmps91
                  go_wp2_with fail
                  refine (unhide HN).mono ?_
                  rintro e w1 ⟨rfl, hk⟩
                  have HK := hide hk
                  clear hk
                  go_wp2
                  go_ret
                  exact ⟨ret_bool (unhide HR).symm, (unhide HK).alloc _⟩
                | false =>
                  cases hv7 : (xl == [83, 69, 84]) with
                  | true =>
                    have HR := hide (show beginsT l i = true by rw [unhide HI]; simp [List.any, hv0, hv1, hv2, hv3, hv4, hv5, hv6, hv7])
                    rw [← hX] at hv0 hv1 hv2 hv3 hv4 hv5 hv6 hv7
                    clear hX
                    go_enter Tryz.func91, Tryz.ntmps91
                    go_wp2_with fail
                    refine (unhide HN).mono ?_
                    rintro e w1 ⟨rfl, hk⟩
                    have HK := hide hk
                    clear hk
                    go_wp2
                    go_ret
                    exact ⟨ret_bool (unhide HR).symm, (unhide HK).alloc _⟩
                  | false =>
                    cases hv8 : (xl == [67, 72, 79, 73, 67, 69]) with
                    | true =>
                      have HR := hide (show beginsT l i = true by rw [unhide HI]; simp [List.any, hv0, hv1, hv2, hv3, hv4, hv5, hv6, hv7, hv8])
                      rw [← hX] at hv0 hv1 hv2 hv3 hv4 hv5 hv6 hv7 hv8
                      clear hX
                      go_enter Tryz.func91, Tryz.ntmps91
                      go_wp2_with fail
                      refine (unhide HN).mono ?_
                      rintro e w1 ⟨rfl, hk⟩
                      have HK := hide hk
                      clear hk
                      go_wp2
                      go_ret
                      exact ⟨ret_bool (unhide HR).symm, (unhide HK).alloc _⟩
                    | false =>
                      have HR := hide (show beginsT l i = false by rw [unhide HI]; simp [List.any, hv0, hv1, hv2, hv3, hv4, hv5, hv6, hv7, hv8])
                      rw [← hX] at hv0 hv1 hv2 hv3 hv4 hv5 hv6 hv7 hv8
                      clear hX
                      go_enter Tryz.func91, Tryz.ntmps91
                      go_wp2_with fail
                      refine (unhide HN).mono ?_
                      rintro e w1 ⟨rfl, hk⟩
                      have HK := hide hk
                      clear hk
                      go_wp2
                      go_ret
                      exact ⟨ret_bool (unhide HR).symm, (unhide HK).alloc _⟩
  · clear hX
    have HR := hide (show beginsT l i = false by rw [unhide HI]; simp [q1, q2, q3])
    have e1 : (k == 1) = false := by simp [q1]
    have e2 : (k == 6) = false := by simp [q2]
    have e3 : (k == 5) = false := by simp [q3]
    clear q1 q2 q3
    go_enter Tryz.func91, Tryz.ntmps91
    go_wp2_with fail
    refine (unhide HN).mono ?_
    rintro e w1 ⟨rfl, hk⟩
    have HK := hide hk
    clear hk
    go_wp2
    go_ret
    exact ⟨ret_bool (unhide HR).symm, (unhide HK).alloc _⟩
end
end Go.Proofs.YtckcbgijddglpaaGreatDoor
