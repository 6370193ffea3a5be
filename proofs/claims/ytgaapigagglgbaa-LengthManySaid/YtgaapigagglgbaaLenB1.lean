/- The walk of LengthBack. -/
import Derived.Test.YtgaapigagglgbaaLenB3
import Derived.Test.YtgaapigagglgbaaLenC
namespace Go.Proofs.Ytgaapigagglgbaa
open Go.ChangeShapes Go.WideShapes Go.ChangeAt Go.RowKit
set_option linter.unusedVariables false

theorem mod_u (n : Int) (m : Nat) (hm : 0 < m) : ∃ nb : Nat, nb < m ∧ Hid ((IntKind.u64.wrap n).tmod (m : Int) = (nb : Int)) := by
  have hu0 : 0 ≤ IntKind.u64.wrap n := by rw [IntKind.wrap_u64]; exact Int.emod_nonneg _ (by decide)
  generalize IntKind.u64.wrap n = u at *
  have h0 := Int.emod_nonneg u (show (m : Int) ≠ 0 by omega)
  have h1 := Int.emod_lt_of_pos u (show (0 : Int) < m by omega)
  exact ⟨(u % m).toNat, by omega, hide (by rw [Int.tmod_eq_emod_of_nonneg hu0]; omega)⟩
theorem rowAt {g b o : Nat} (h : rowOf (some ⟨g, o, none⟩) = some b) : g = b := by injection h
/-- The octets that are made, in memory of their own. -/
def MkRel (w : World) (nn : Nat) (zs : List Int) (wr : World) : Prop :=
  zs.length = nn ∧ B8 zs ∧ wr.ownsRow w.heap.size 5 1 (.slice (some ⟨w.heap.size, 0, none⟩) nn nn) nn (zs.map (Value.int .u8)) ∧ Keeps w wr
theorem mk_start (w : World) (nn : Nat) (h : nn ≤ 1000000) : MkRel w nn (List.replicate nn 0) (w.alloc (.cells (madeCells #[.int .u8 0] nn) 5)) :=
  ⟨by simp, fun x hx => by have := List.eq_of_mem_replicate hx; omega, made_own w nn h, (Keeps.refl w).alloc _⟩
theorem mk_cell {w wr : World} {nn : Nat} {zs : List Int} (h : MkRel w nn zs wr) {j : Nat} (hj : j < nn) : (∃ u, wr.cell? ⟨w.heap.size, j, none⟩ = some u) ∧ wr.frozen? ⟨w.heap.size, j, none⟩ = false := by
  refine ⟨?_, h.2.2.1.frozenAt j⟩
  rw [h.2.2.1.cellAt j (by omega)]
  exact ⟨_, List.getElem?_eq_getElem (by rw [List.length_map, h.1]; exact hj)⟩
theorem mk_step {w wr : World} {nn : Nat} {zs : List Int} (h : MkRel w nn zs wr) (j : Nat) (x : Int) (h0 : 0 ≤ x) (h1 : x ≤ 255) : ∃ zs', MkRel w nn zs' (wr.setCell ⟨w.heap.size, j, none⟩ (.int .u8 x)) := by
  obtain ⟨hl, h8, hO, hk⟩ := h
  have hs := hO.stored j (.int .u8 x)
  refine ⟨zs.set j x, by rw [List.length_set]; exact hl, fun y hy => ?_, ?_, hk.setCell (Nat.le_refl _) _⟩
  · rcases List.mem_or_eq_of_mem_set hy with h | h
    · exact h8 y h
    · omega
  · rw [List.map_set]; exact hs.1

set_option maxRecDepth 100000 in
set_option maxHeartbeats 4000000 in
theorem lengthBack_any (n seed ah : Int) (w : World) (hn0 : -9223372036854775808 ≤ n) (hn1 : n ≤ 9223372036854775807) (hs0 : 0 ≤ seed) (hs1 : seed ≤ 255) (ha0 : -9223372036854775808 ≤ ah) (ha1 : ah ≤ 9223372036854775807) :
    Calls Try.prog 5 #[.int .i64 n, .int .u8 seed, .int .i64 ah] w fun e w' => e = .returned (.bool true) ∧ Keeps w w' := by
  obtain ⟨nn, hnn, HN1⟩ := mod_u n 70001 (by omega)
  obtain ⟨kb, hkb, HN2⟩ := mod_u ah 8 (by omega)
  have hmk := run_make_bytes nn (by omega)
  have HM0 := hide (mk_start w nn (by omega))
  have hsv : (IntKind.u64.wrap n).tmod 70001 = (nn : Int) := unhide HN1
  go_enter Try.func5, Try.ntmps5
  go_wp2
  clear hsv HN1 hmk
  go_loopw [23] (fun i wr => ∃ (j : Nat) (zs : List Int), j ≤ nn ∧ i = .int .i64 j ∧ MkRel w nn zs wr) (fun i _ => nn - (intOf i).toNat)
  case atStart => exact ⟨0, _, Nat.zero_le _, rfl, unhide HM0⟩
  case round =>
    obtain ⟨j, zs, hj, rfl, hM⟩ := hrel
    by_cases hlt : j < nn
    · obtain ⟨⟨u, hc⟩, hf⟩ := mk_cell hM hlt
      have HS := hide (fun x h0 h1 => mk_step hM j x h0 h1)
      clear hM
      go_wp2
      obtain ⟨zs', hM'⟩ := unhide HS ((seed + (j : Int) * 7) % 256) (by omega) (by omega)
      exact ⟨⟨j + 1, zs', by omega, by go_num, hM'⟩, by simp [intOf]; omega⟩
    · obtain rfl : j = nn := by omega
      obtain ⟨hzl, hz8, hO, hkw⟩ := hM
      have hbl := (hO.lt w.heap.size rfl).2
      have hhz : Holds wr (some ⟨w.heap.size, 0, none⟩) zs := by
        have := Reads.of_own hO
        unfold Holds
        rw [hzl]; exact this
      have hk0 := hkw.alloc (.cells #[.slice none 0 0, .int .i64 0] 32)
      have hw0 : WrV wr.heap.size (wr.alloc (.cells #[.slice none 0 0, .int .i64 0] 32)) wr.heap.size 0 0 0 0 none 0 := wh_new wr _
      have HC1 := hide (wBits_st 0 (kb : Int) kb (St.start hw0 (by omega)) (by rw [World.size_alloc]; omega) (by omega) (by omega) (by omega) (by omega))
      have HZ0 := hide (hhz.alloc (.cells #[.slice none 0 0, .int .i64 0] 32))
      have HZ8 := hide hz8
      have HZL := hide hzl
      have HK0 := hide hk0
      have hwz := hkw.size
      clear hO hkw hk0 hw0 hhz hz8 hzl hlt
      have hsv : (IntKind.u64.wrap ah).tmod 8 = (kb : Int) := unhide HN2
      go_wp2_with fail
      clear hsv HN2
      with_reducible refine (unhide HC1).mono ?_
      rintro e w3 ⟨rfl, hS3⟩
      have hf3 := hS3.fr
      have hz3 := hf3.2.2.2.1
      rw [World.size_alloc] at hz3
      have hh3 : Holds w3 (some ⟨w.heap.size, 0, none⟩) zs := (unhide HZ0).fr hf3 (fun b e => by have e9 := rowAt e; exact ⟨by omega, fun e2 => by cases e2⟩)
      have hk3 : Keeps w w3 := fr_keeps (unhide HK0) hf3 (by omega) (fun b e => by cases e)
      obtain ⟨m3, room3, A3, ca3, hW3, hr3, _, _⟩ := hS3
      rw [show tot 0 0 kb = 0 from by unfold tot; simp, Nat.zero_add] at hW3
      have hrow3 := fun b e => (hW3.row_lt b e).1
      have hpb := Blk.new w3 28 #[.slice (some ⟨w.heap.size, 0, none⟩) j j]
      have hkp := (Keeps.refl w3).alloc (.cells #[.slice (some ⟨w.heap.size, 0, none⟩) j j] 28)
      have hparts : PartsAny (w3.alloc (.cells #[.slice (some ⟨w.heap.size, 0, none⟩) j j] 28)) (some ⟨w3.heap.size, 0, none⟩) [(some ⟨w.heap.size, 0, none⟩, j, zs)] := by
        refine .inr ⟨w3.heap.size, 0, rfl, hpb.lt, fun i q hq => ?_⟩
        match i, hq with
        | 0, hq =>
          simp at hq; subst hq
          refine ⟨?_, hh3.keeps hkp, unhide HZ8⟩
          have := hpb.cell 0
          rw [unhide HZL]
          exact this
        | i + 1, hq => simp at hq
      have hzl0 := unhide HZL
      have hflat : flat [((some ⟨w.heap.size, 0, none⟩, j, zs) : Part)] = zs := by simp [flat]
      have HC2 := hide (put_any (some ⟨w3.heap.size, 0, none⟩) [(some ⟨w.heap.size, 0, none⟩, j, zs)] 1 1 10 zs (hW3.alloc_ (.cells #[.slice (some ⟨w.heap.size, 0, none⟩) j j] 28)) hr3 (by rw [World.size_alloc]; omega) rfl (Nat.le_refl _) hparts hflat (unhide HZ8) (by omega) (by omega) (by omega) (by omega) (by omega))
      have hK := putK_le 10 zs.length
      have hrng := put_range 10 0 kb zs (unhide HZ8) (by omega) (two_pos kb) (by omega)
      have hpat := put_at (ys := octW (putN 10 0 zs) (kb + putK 10 zs.length)) (NF := putN 10 0 zs) (nF := kb + putK 10 zs.length) (fun a k hak => rd_octW _ _ a k hrng.1 hrng.2 hak) 10 0 kb zs (unhide HZ8) (by omega) rfl rfl
      have HPAT := hide hpat
      have HEND := hide (end_octW _ _ hrng.1 hrng.2)
      have hol := octW_length (putN 10 0 zs) (kb + putK 10 zs.length)
      have HY8 := hide (octW_bytes (putN 10 0 zs) (kb + putK 10 zs.length))
      have HBY := hide fun (w4 : World) (h : St wr.heap.size (w3.alloc (.cells #[.slice (some ⟨w.heap.size, 0, none⟩) j j] 28)) wr.heap.size A3 (putN 10 0 zs) (kb + putK 10 zs.length) w4) (w5 : World) (hk : Keeps w4 w5) => wBytes_st (h.ws.keeps hk) (by omega)
      have hnF : kb + putK 10 zs.length ≤ 1000000 := by omega
      have hle : kb + putK 10 zs.length ≤ 8 * (octW (putN 10 0 zs) (kb + putK 10 zs.length)).length := by omega
      have hyl : (octW (putN 10 0 zs) (kb + putK 10 zs.length)).length ≤ 200000 := by omega
      have HH3 := hide (hh3.keeps hkp)
      have HK3 := hide (hk3.trans hkp)
      have hz3p : (w3.alloc (.cells #[.slice (some ⟨w.heap.size, 0, none⟩) j j] 28)).heap.size = w3.heap.size + 1 := World.size_alloc _ _
      have HZ3P := hide hz3p
      have HROW3 := hide hrow3
      clear hf3 hh3 hk3 hW3 hpb hkp hparts hflat hK hrng hpat hol hz3p hrow3 hzl0
      generalize octW (putN 10 0 zs) (kb + putK 10 zs.length) = ys at *
      generalize hnFg : kb + putK 10 zs.length = nF at *
      have HNF := hide hnFg
      generalize putN 10 0 zs = NF at *
      clear hnFg
      go_wp2_with fail
      with_reducible refine (unhide HC2).mono ?_
      rintro e w4 ⟨rfl, hS4⟩
      have hf4 := hS4.fr
      have hz4 := hf4.2.2.2.1
      rw [unhide HZ3P] at hz4
      have HH4 := hide ((unhide HH3).fr hf4 (fun b e => by have e9 := rowAt e; exact ⟨by omega, fun e2 => by have := unhide HROW3 b e2; omega⟩))
      have HK4 := hide (fr_keeps (unhide HK3) hf4 (by omega) (fun b e => by have := unhide HROW3 b e; omega))
      have HB4 := hide (unhide HBY w4 hS4 w4 (Keeps.refl _))
      have HB4F := hide (unhide HBY w4 hS4)
      clear hS4 hf4 HBY
      go_wp2_with fail
      with_reducible refine (unhide HB4).mono ?_
      rintro e w5 ⟨A5, c5, rfl, _, hf5⟩
      have HC5 := hide (wrNew_any A5 ys c5 w5 hf5.holds (by omega))
      have hk5 := hf5.2
      have hz5 := hk5.size
      have HK5 := hide hk5
      clear hf5 hk5
      go_wp2_with fail
      with_reducible refine (unhide HC5).mono ?_
      rintro e w6 ⟨gr, Ar, cr, rfl, hR6, hg6, hrow6, hk6, hcr⟩
      have HB6 := hide (unhide HB4F w6 ((unhide HK5).trans hk6))
      have HR6 := hide hR6
      have hgr6 := hR6.1.lt
      have HK6 := hide ((unhide HK5).trans hk6)
      clear hR6 hrow6 hk6 HB4F HB4
      go_wp2_with fail
      with_reducible refine (unhide HB6).mono ?_
      rintro e w7 ⟨A7, c7, rfl, _, hf7⟩
      have HC7 := hide (wrNew_any A7 ys c7 w7 hf7.holds (by omega))
      have hk7 := hf7.2
      have hz7 := hk7.size
      have HK7 := hide hk7
      clear hf7 hk7
      go_wp2_with fail
      with_reducible refine (unhide HC7).mono ?_
      rintro e w8 ⟨gs, As, cs, rfl, hR8, hg8, hrow8, hk8, hcs⟩
      have HR8 := hide hR8
      have HROW8 := hide hrow8
      have hgs8 := hR8.1.lt
      have HK8 := hide ((unhide HK7).trans hk8)
      clear hR8 hrow8 hk8
      go_wp2_with fail
      refine (awake18_any _).mono ?_
      rintro e w9 ⟨rfl, hk9⟩
      have hz9 := hk9.size
      have hR9 := (unhide HR6).keeps ((unhide HK8).trans hk9)
      have hS9 := (unhide HR8).keeps hk9
      have HH9 := hide (((unhide HH4).keeps (unhide HK6)).keeps ((unhide HK8).trans hk9))
      have HK9 := hide ((((unhide HK4).trans (unhide HK6)).trans (unhide HK8)).trans hk9)
      have hzw := (unhide HK9).size
      have hzw4 := (unhide HK4).size
      have q1 : rdVal ys 0 0 kb = rd ys 0 kb := if_pos ⟨rfl, by have := unhide HNF; omega⟩
      have q2 : rdAt (8 * ys.length) 0 0 kb = 0 + kb := if_pos ⟨rfl, by have := unhide HNF; omega⟩
      have q3 : rdF (8 * ys.length) 0 0 kb = 0 := by unfold rdF; rw [if_pos rfl, if_pos (by have := unhide HNF; omega)]
      have hc9 := wrBits_any (kb : Int) kb (by omega) hR9 (unhide HY8) (by omega) (by omega)
      rw [q2, q3, Nat.zero_add] at hc9
      have HC9 := hide hc9
      have HC10F := hide fun (w10 : World) (h : WRV w10 gs As cs ys 0 0) => (show Calls _ _ _ w10 _ from by
        have hc := wrBits_any (kb : Int) kb (by omega) h (unhide HY8) (by omega) (by omega)
        rw [q2, q3, Nat.zero_add] at hc
        exact hc)
      have HS9 := hide hS9
      clear hR9 hS9 hk9 hc9 q1 q2 q3
      generalize rdVal ys 0 0 kb = vb at *
      go_wp2_with fail
      with_reducible refine (unhide HC9).mono ?_
      rintro e w10 ⟨rfl, hR10, hf10⟩
      have hS10 := (unhide HS9).fr hf10 (by omega) (fun e => by cases e) (fun b e => ⟨by have := unhide HROW8 b e; omega, fun e2 => by cases e2⟩)
      have HC10 := hide (unhide HC10F _ hS10)
      have hz10 := hf10.2.2.2.1
      have HR10 := hide hR10
      have HF10 := hide hf10
      clear hR10 hf10 hS10
      go_wp2_with fail
      with_reducible refine (unhide HC10).mono ?_
      rintro e w11 ⟨rfl, hS11, hf11⟩
      have hz11 := hf11.2.2.2.1
      have hR11 := (unhide HR10).fr hf11 (by omega) (fun e => by cases e) (fun b e => ⟨by have := (unhide HR10).2.2 b e; omega, fun e2 => by cases e2⟩)
      have HC11 := hide (take_any (j : Int) (j : Int) (by omega) (by omega) 10 kb zs hR11 (unhide HY8) (by omega) hcr (by rw [unhide HZL]; omega) (by rw [unhide HZL]; omega) (unhide HPAT) (by rw [unhide HNF]; exact hle))
      have HS11 := hide hS11
      have HF11 := hide hf11
      have HH11 := hide (((unhide HH9).fr (unhide HF10) (fun b e => by have e9 := rowAt e; exact ⟨by omega, fun e2 => by cases e2⟩)).fr hf11 (fun b e => by have e9 := rowAt e; exact ⟨by omega, fun e2 => by cases e2⟩))
      have HK11 := hide (fr_keeps (fr_keeps (unhide HK9) (unhide HF10) (by omega) (fun b e => by cases e)) hf11 (by omega) (fun b e => by cases e))
      clear hS11 hR11 hf11
      go_wp2_with fail
      with_reducible refine (unhide HC11).mono ?_
      intro e w12 htp
      obtain ⟨B12, d12, rfl, hx12, hrow12, hR12, hf12⟩ := htp.1 (by rw [unhide HZL]; exact Int.le_refl _)
      rw [unhide HNF] at hR12
      have hz12 := hf12.2.2.2.1
      have hS12 := (unhide HS11).fr hf12 (by omega) (fun e => by cases e) (fun b e => ⟨by have := unhide HROW8 b e; omega, fun e2 => by cases e2⟩)
      have HC12 := hide (take_any ((j : Int) - 1) (max ((j : Int) - 1) 0) rfl (by omega) 10 kb zs hS12 (unhide HY8) (by omega) hcs (by rw [unhide HZL]; omega) (by rw [unhide HZL]; omega) (unhide HPAT) (by rw [unhide HNF]; exact hle))
      have HX12 := hide hx12
      have HRW12 := hide hrow12
      have HR12 := hide hR12
      have HH12 := hide ((unhide HH11).fr hf12 (fun b e => by have e9 := rowAt e; exact ⟨by omega, fun e2 => by cases e2⟩))
      have HK12 := hide (fr_keeps (unhide HK11) hf12 (by omega) (fun b e => by cases e))
      have hx12l := unhide HZL
      clear htp hx12 hrow12 hR12 hf12 hS12
      go_wp2_with fail
      with_reducible refine (unhide HC12).mono ?_
      intro e w13 htp
      have hj0 : j = 0 ∨ 0 < j := by omega
      rcases hj0 with hj0 | hj0
      · subst hj0
        obtain ⟨B13, d13, rfl, hy13, _, _, hf13⟩ := htp.1 (by rw [unhide HZL]; omega)
        have hz13 := hf13.2.2.2.1
        have hR13 := (unhide HR12).fr hf13 (by omega) (fun e => by cases e) (fun b e => ⟨by have := (unhide HR12).2.2 b e; omega, fun e2 => by cases e2⟩)
        have hx13 : Holds w13 B12 zs := (unhide HX12).fr hf13 (fun b e => ⟨by have := unhide HRW12 b e; omega, fun e2 => by cases e2⟩)
        have hh13 : Holds w13 (some ⟨w.heap.size, 0, none⟩) zs := (unhide HH12).fr hf13 (fun b e => by have e9 := rowAt e; exact ⟨by omega, fun e2 => by cases e2⟩)
        have HSM := hide (sameBytes_any B12 (some ⟨w.heap.size, 0, none⟩) zs zs d12 0 w13 hx13 hh13 (unhide HZ8) (unhide HZ8))
        rw [decide_eq_true rfl, unhide HZL] at HSM
        have HE13 := hide (wrEnd_any hR13 (unhide HY8) (by omega) hle)
        rw [unhide HEND] at HE13
        have HK13 := hide (fr_keeps (unhide HK12) hf13 (by omega) (fun b e => by cases e))
        clear hf13 hR13 hx13 hh13
        go_wp2_with fail
        with_reducible refine (unhide HSM).mono ?_
        rintro e w14 ⟨rfl, hw14⟩
        rw [← hw14]
        clear hw14
        go_wp2_with fail
        with_reducible refine (unhide HE13).mono ?_
        rintro e w15 ⟨rfl, hk15⟩
        have HK15 := hide ((unhide HK13).trans hk15)
        clear hk15
        go_wp2
        go_ret
        exact ⟨rfl, unhide HK15⟩
      · obtain ⟨rfl, a13, hS13, hf13⟩ := htp.2 (by rw [unhide HZL]; omega)
        have hz13 := hf13.2.2.2.1
        have hR13 := (unhide HR12).fr hf13 (by omega) (fun e => by cases e) (fun b e => ⟨by have := (unhide HR12).2.2 b e; omega, fun e2 => by cases e2⟩)
        have hx13 : Holds w13 B12 zs := (unhide HX12).fr hf13 (fun b e => ⟨by have := unhide HRW12 b e; omega, fun e2 => by cases e2⟩)
        have hh13 : Holds w13 (some ⟨w.heap.size, 0, none⟩) zs := (unhide HH12).fr hf13 (fun b e => by have e9 := rowAt e; exact ⟨by omega, fun e2 => by cases e2⟩)
        have HSM := hide (sameBytes_any B12 (some ⟨w.heap.size, 0, none⟩) zs zs d12 j w13 hx13 hh13 (unhide HZ8) (unhide HZ8))
        rw [decide_eq_true rfl, unhide HZL] at HSM
        have HE13 := hide (wrEnd_any hR13 (unhide HY8) (by omega) hle)
        rw [unhide HEND] at HE13
        have HK13 := hide (fr_keeps (unhide HK12) hf13 (by omega) (fun b e => by cases e))
        have HER := hide fun (w15 : World) (hk : Keeps w13 w15) => wrErr_any (hS13.keeps hk)
        clear hf13 hR13 hx13 hh13 hS13
        go_wp2_with fail
        with_reducible refine (unhide HSM).mono ?_
        rintro e w14 ⟨rfl, hw14⟩
        rw [← hw14]
        clear hw14
        go_wp2_with fail
        with_reducible refine (unhide HE13).mono ?_
        rintro e w15 ⟨rfl, hk15⟩
        have HER15 := hide (unhide HER _ hk15)
        have HK15 := hide ((unhide HK13).trans hk15)
        clear hk15
        have hjn : ((j : Int) == 0) = false := by rw [beq_eq_false_iff_ne]; omega
        go_wp2_with fail
        with_reducible refine (unhide HER15).mono ?_
        rintro e w16 ⟨rfl, hw16⟩
        rw [hw16]
        clear hw16
        go_wp2
        go_ret
        exact ⟨rfl, unhide HK15⟩
end Go.Proofs.Ytgaapigagglgbaa
