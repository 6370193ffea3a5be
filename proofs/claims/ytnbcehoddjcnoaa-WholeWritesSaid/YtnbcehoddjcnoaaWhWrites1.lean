/- The walk of WholeWrites. -/
import Derived.Test.YtnbcehoddjcnoaaOps17
import Derived.Test.YtnbcehoddjcnoaaRefWh
import Derived.Test.YtnbcehoddjcnoaaWP
import Derived.Test.YtnbcehoddjcnoaaSpoilF
namespace Go.Proofs.Ytnbcehoddjcnoaa
open Go.ChangeShapes Go.WideShapes Go.ChangeAt Go.RowKit

/-- What the loop of WholeWrites keeps. -/
def WrInv (w : World) (k : Nat) (wr : World) : Prop := Keeps w wr ∧ ∃ N n, n ≤ 1600 * k ∧ WP w.heap.size wr w.heap.size (w.heap.size + 1) N n (fun _ => True)

set_option maxRecDepth 100000 in
set_option maxHeartbeats 4000000 in
theorem wholeWrites_any (P : Option Addr) (ps : List OpV) (c : Nat) (w : World) (hp : OpsAny w P ps) (hpl : ps.length ≤ maxLen) :
    Calls Try.prog 3 #[.slice P ps.length c] w fun e w' => e = .returned (.bool true) ∧ Keeps w w' := by
  have hm : ps.length ≤ 9223372036854775807 := by unfold maxLen at hpl; exact hpl
  clear hpl
  have HP := hide hp
  clear hp
  generalize hn : ps.length = np at *
  have HN := hide hn
  clear hn
  have hk0 := ((Keeps.refl w).alloc (.cells #[.slice none 0 0, .int .i64 0] 27)).alloc (.cells #[.slice none 0 0] 32)
  have h0 : WrV w.heap.size ((w.alloc (.cells #[.slice none 0 0, .int .i64 0] 27)).alloc (.cells #[.slice none 0 0] 32)) w.heap.size 0 0 0 0 none 0 := (wh_new w _).alloc_ _
  have h0v : RefV w.heap.size ((w.alloc (.cells #[.slice none 0 0, .int .i64 0] 27)).alloc (.cells #[.slice none 0 0] 32)) (w.heap.size + 1) 0 0 none 0 := by
    have := Blk.new (w.alloc (.cells #[.slice none 0 0, .int .i64 0] 27)) 32 #[.slice none 0 0]
    rw [World.size_alloc] at this
    exact ⟨this, by simpa [bl] using World.ownsRow_nil _ _ _ _⟩
  have HI := hide (show WrInv w 0 _ from ⟨hk0, 0, 0, Nat.le_refl _, 0, 0, none, 0, none, 0, h0, by omega, h0v, (fun b e => by cases e), (fun _ _ => trivial), (fun _ _ => trivial)⟩)
  have HWS := hide (St.start h0 (by omega)).ws
  clear hk0 h0 h0v
  go_enter Try.func3, Try.ntmps3
  go_wp2_with fail
  refine (awake17_any _).mono ?_
  rintro e w1 ⟨rfl, hk1⟩
  have HB1 := hide (wBytes_st ((unhide HWS).keeps hk1) (by omega))
  rw [show octW 0 0 = [0] from by decide] at HB1
  have HK1 := hide hk1
  clear hk1 HWS
  go_wp2_with fail
  with_reducible refine (unhide HB1).mono ?_
  rintro e w2 ⟨A2, c2, rfl, hc2, hf2⟩
  have hh2 := hf2.holds.keeps ((Keeps.refl w2).alloc (.cells #[.int .u8 0] 5))
  have hh3 : Holds (w2.alloc (.cells #[.int .u8 0] 5)) (some ⟨w2.heap.size, 0, none⟩) [0] := by
    have := World.ownsRow_lit (base := w2.heap.size) (e := 5) (size := 1) w2 #[.int .u8 0] 1 (Nat.le_refl _) (by simp only [maxLen]; omega) (by simp)
    exact Reads.of_own (xs := [.int .u8 0]) this
  have HSB := hide (sameBytes_any A2 (some ⟨w2.heap.size, 0, none⟩) [0] [0] c2 1 _ hh2 hh3 (by intro x hx; simp at hx; omega) (by intro x hx; simp at hx; omega))
  rw [decide_eq_true rfl] at HSB
  obtain ⟨hka, N0, n0, hn0, hwp0⟩ := unhide HI
  have hk3 := ((unhide HK1).trans hf2.2).alloc (.cells #[.int .u8 0] 5)
  have HI1 := hide (show WrInv w 0 _ from ⟨hka.trans hk3, N0, n0, hn0, hwp0.keeps hk3⟩)
  clear hka hwp0 hn0 hh2 hh3 hf2 hc2 hk3 HI HK1
  go_wp2_with fail
  refine (unhide HSB).mono ?_
  rintro e w3 ⟨rfl, rfl⟩
  go_wp2
  go_loopw [5] (fun i wr => ∃ k : Nat, k ≤ np ∧ k ≤ 60 ∧ i = .int .i64 k ∧ WrInv w k wr) (fun i _ => np - (intOf i).toNat)
  case atStart => exact ⟨0, by omega, by omega, rfl, unhide HI1⟩
  case round =>
    obtain ⟨k, hk, hk1, rfl, hI⟩ := hrel
    by_cases hlt : k < np ∧ k < 60
    · obtain ⟨hlt, hlt60⟩ := hlt
      obtain ⟨hkp, N, n, hn, m, room, A, d, A', d', hW, hroom, hV, hdis, _, _⟩ := hI
      obtain ⟨b, o, kind, x, v, s, qa, qc, xs, rfl, hq, hc0, hc1, hc2, hc3, hc4, hh, h8, hql, hv0, hv1, hs0, hs1, hx0, hx1⟩ := (unhide HP).at_ (k := k) (by rw [unhide HN]; exact hlt)
      have hb := (by rcases unhide HP with h | ⟨b', o', e, hb, _⟩
                     · rw [h] at hq; simp at hq
                     · injection e with e; injection e with e1 _ _; rw [e1]; exact hb : b < w.heap.size)
      replace hc0 := (Below.cell (p := ⟨b, _, none⟩) hkp hb).trans hc0
      replace hc1 := (Below.cell (p := ⟨b, _, none⟩) hkp hb).trans hc1
      replace hc2 := (Below.cell (p := ⟨b, _, none⟩) hkp hb).trans hc2
      replace hc3 := (Below.cell (p := ⟨b, _, none⟩) hkp hb).trans hc3
      replace hc4 := (Below.cell (p := ⟨b, _, none⟩) hkp hb).trans hc4
      have hnb : n ≤ 96000 := by omega
      have hop := (Keeps.refl wr).alloc (.cells #[.int .i64 kind, .int .i64 x, .int .u64 v, .int .u64 s, .slice qa xs.length qc] 38)
      have hWo : WrV w.heap.size (wr.alloc (.cells #[.int .i64 kind, .int .i64 x, .int .u64 v, .int .u64 s, .slice qa xs.length qc] 38)) w.heap.size N n m room A d := hW.alloc_ _
      have hVo : RefV w.heap.size (wr.alloc (.cells #[.int .i64 kind, .int .i64 x, .int .u64 v, .int .u64 s, .slice qa xs.length qc] 38)) (w.heap.size + 1) N n A' d' := ⟨hV.1.alloc _, hV.2.alloc _⟩
      have hOb := Blk.new wr 38 #[.int .i64 kind, .int .i64 x, .int .u64 v, .int .u64 s, .slice qa xs.length qc]
      have hwz := hkp.size
      have hgz := hV.1.lt
      have HRW := hide (fun b e => (hW.row_lt b e).2)
      have HRV := hide (fun b e => (hV.row_lt b e).2)
      have HRWb := hide (fun b e => (hW.row_lt b e).1)
      have HRVb := hide (fun b e => (hV.row_lt b e).1)
      have HW := hide hWo
      have HV := hide hVo
      have HDIS := hide hdis
      have HKP := hide hkp
      have HOP := hide hop
      have HOB := hide hOb
      have HH := hide hh
      have H8 := hide h8
      unfold maxLen at hql
      have HQ := hide hq
      clear hkp hW hV hdis hop hWo hVo hOb hh h8 hq
      by_cases h1 : kind = 1
      · subst h1
        by_cases hbig : 200 < xs.length
        · have HKO := hide ((unhide HKP).trans (unhide HOP))
          have HWP := hide (show WP w.heap.size (wr.alloc (.cells #[.int .i64 1, .int .i64 x, .int .u64 v, .int .u64 s, .slice qa xs.length qc] 38)) w.heap.size (w.heap.size + 1) N n (fun _ => True) from ⟨m, room, A, d, A', d', unhide HW, hroom, unhide HV, unhide HDIS, (fun _ _ => trivial), (fun _ _ => trivial)⟩)
          go_wp2
          exact ⟨⟨k + 1, by omega, by omega, by go_num, unhide HKO, N, n, by omega, unhide HWP⟩, by simp [intOf]; omega⟩
        · have hsm : xs.length ≤ 200 := by omega
          clear hql hbig
          have HCO := hide (own_any qa xs qc 71 (by omega) _ ((unhide HH).keeps ((unhide HKP).trans (unhide HOP))))
          go_wp2_with fail
          with_reducible refine (unhide HCO).mono ?_
          rintro e w2 ⟨gi, rfl, hbi, hgi, hk2⟩
          rw [World.size_alloc] at hgi
          have hgil := hbi.lt
          have hsz2 := hk2.size
          rw [World.size_alloc] at hsz2
          have hob2 := (unhide HOB).keeps hk2
          obtain ⟨hoc, hof, hol⟩ := hob2.facts
          have HW2 := hide ((unhide HW).keeps_ hk2)
          have HV2 := hide ((unhide HV).keeps_ hk2)
          have HKB := hide (((unhide HKP).trans (unhide HOP)).trans hk2)
          have HOB2 := hide hob2
          have HBI2 := hide hbi
          have HC1 := hide (wOctets_any (some ⟨gi, 0, none⟩) (xs.length + 3) xs.length xs (unhide HW2) hroom (unhide HKB).size rfl (unhide H8) (fun w' hf => ownCells_holds (fr_blk hf (unhide HBI2) (by omega) (fun e => by have := unhide HRW _ e; omega))) (by omega))
          clear hbi hk2 hob2
          go_wp2_with fail
          with_reducible refine (unhide HC1).mono ?_
          rintro e w3 ⟨rfl, hS3⟩
          have hr3 := ref_stays (unhide HW2) (unhide HV2) (unhide HDIS) (by omega) hS3
          have hob3 := fr_blk hS3.fr (unhide HOB2) (by omega) (fun e => by have := unhide HRW _ e; omega)
          have hbi3 := fr_blk hS3.fr (unhide HBI2) (by omega) (fun e => by have := unhide HRW _ e; omega)
          have hk3 := fr_keeps (unhide HKB) hS3.fr (Nat.le_refl _) (unhide HRWb)
          have HK3 := hide hk3
          have HS3 := hide hS3
          have HBI3 := hide hbi3
          have HOB3 := hide hob3
          have HC2 := hide (xOctets_any qa qc xs.length xs hr3 hk3.size rfl (unhide H8) (fun w' hf => (unhide HH).keeps (fr_keeps (unhide HK3) hf (by omega) (unhide HRVb))) (by omega))
          obtain ⟨hoc3, hof3, hol3⟩ := hob3.facts
          clear hr3 hob3 hbi3 hk3 hoc hof hol hS3
          go_wp2_with fail
          with_reducible refine (unhide HC2).mono ?_
          rintro e w4 ⟨rfl, hR4⟩
          have hwp4 := both_step (unhide HW2) (unhide HV2) (unhide HDIS) (by omega) (unhide HS3) (Keeps.refl w3) hR4
          have hk4 := fr_keeps (unhide HK3) hR4.fr (by omega) (unhide HRVb)
          have hbi4 := fr_blk hR4.fr (unhide HBI3) (by omega) (fun e => by have := unhide HRV _ e; omega)
          have hob4 := fr_blk hR4.fr (unhide HOB3) (by omega) (fun e => by have := unhide HRV _ e; omega)
          obtain ⟨hoc4, hof4, hol4⟩ := hob4.facts
          have HWP4 := hide hwp4
          have HK4 := hide hk4
          have HC3 := hide (kept_any gi qa xs qc 71 (by omega) w4 hbi4 ((unhide HH).keeps hk4))
          clear hR4 hwp4 hk4 hbi4 hob4 hoc3 hof3 hol3
          go_wp2_with fail
          with_reducible refine (unhide HC3).mono ?_
          rintro e w5 ⟨rfl, hk5⟩
          have hwp := ((unhide HWP4).keeps hk5).any
          have hk3 := (unhide HK4).trans hk5
          have hnk : n + 8 * xs.length ≤ 1600 * (k + 1) := by omega
          clear hk5 hoc4 hof4 hol4
          generalize appB N xs = N2 at *
          generalize n + 8 * xs.length = n2 at *
          have hn2 : n2 ≤ 9000000 := by omega
          have HWP := hide hwp
          have HK3 := hide hk3
          clear hwp hk3
          go_wp2_with fail
          refine (wBytes_st (unhide HWP).w (by omega)).mono ?_
          rintro e w7 ⟨A7, c7, rfl, hc7, hf7⟩
          have hwp7 := (unhide HWP).keeps hf7.2
          have HOL := hide (octW_length N2 n2)
          have HL1 := hide (wLen_st hwp7.w)
          have HL2 := hide (xLen_st hwp7.v)
          have HB2 := hide (xBytes_st hwp7.v (by omega))
          have HF7 := hide hf7
          clear hwp7 hf7 hc7
          go_wp2_with fail
          with_reducible refine (unhide HL1).mono ?_
          rintro e wn ⟨rfl, rfl⟩
          go_wp2_with fail
          with_reducible refine (unhide HL2).mono ?_
          rintro e wn ⟨rfl, rfl⟩
          go_wp2_with fail
          with_reducible refine (unhide HB2).mono ?_
          rintro e w8 ⟨A8, c8, rfl, hc8, hf8⟩
          have HSM := hide (sameBytes_any A7 A8 _ _ c7 c8 _ ((unhide HF7).holds.keeps hf8.2) hf8.holds (octW_bytes N2 n2) (octW_bytes N2 n2))
          rw [decide_eq_true rfl] at HSM
          have HCS := hide (spoilFresh_any A7 (octW N2 n2) c7 (unhide HF7) hf8.2 (octW_bytes N2 n2) (by have := unhide HOL; omega))
          have HK8 := hide hf8.2
          clear hf8 hc8
          go_wp2_with fail
          with_reducible refine (unhide HSM).mono ?_
          rintro e wn ⟨rfl, rfl⟩
          go_wp2_with fail
          with_reducible refine (unhide HCS).mono ?_
          rintro e w10 ⟨rfl, hb10⟩
          have hkk := Below.trans ((unhide HF7).2.trans (unhide HK8)) hb10
          have HKK := hide hkk
          clear hkk hb10
          go_wp2
          exact ⟨⟨k + 1, by omega, by omega, by go_num, (unhide HK3).trans (unhide HKK), N2, n2, hnk, (unhide HWP).keeps (unhide HKK)⟩, by simp [intOf]; omega⟩
      · by_cases h2 : kind = 2
        · subst h2
          have HC1 := hide (wBetween_st v s (St.start (unhide HW) hroom) (by have := (unhide HOP).size; omega) hv0 hv1 hs0 hs1 (by omega))
          have HC2F := hide fun (w2 : World) (h : RefV w.heap.size w2 (w.heap.size + 1) N n A' d') (hb : w.heap.size ≤ w2.heap.size) => xBetween_st v s (RSt.start h) hb hv0 hv1 hs0 hs1 (by omega)
          have h64 := bitLen_64 s.toNat (by omega)
          have hnk : n + Lib.bitLen s.toNat ≤ 1600 * (k + 1) := by omega
          clear hql
          go_wp2_with fail
          with_reducible refine (unhide HC1).mono ?_
          rintro e w2 ⟨rfl, hS2⟩
          have hr2 := ref_stays (unhide HW) (unhide HV) (unhide HDIS) (by omega) hS2
          have HC2 := hide (unhide HC2F _ hr2 (by have := (unhide HOP).size; have := hS2.fr.2.2.2.1; omega))
          have hob2 := fr_blk hS2.fr (unhide HOB) (by omega) (fun e => by have := unhide HRW _ e; omega)
          obtain ⟨hoc, hof, hol⟩ := hob2.facts
          have HF2 := hide hS2.fr
          have HS2 := hide hS2
          clear hS2 hr2 hob2
          go_wp2_with fail
          with_reducible refine (unhide HC2).mono ?_
          rintro e w3 ⟨rfl, hR3⟩
          have hwp := (both_step (unhide HW) (unhide HV) (unhide HDIS) (by omega) (unhide HS2) (Keeps.refl _) hR3).any
          have hk3 := fr_keeps (fr_keeps ((unhide HKP).trans (unhide HOP)) (unhide HF2) (Nat.le_refl _) (unhide HRWb)) hR3.fr (by omega) (unhide HRVb)
          clear hR3 hoc hof hol
          generalize tot N (min v s) (Lib.bitLen s.toNat) = N2 at *
          generalize n + Lib.bitLen s.toNat = n2 at *
          have hn2 : n2 ≤ 9000000 := by omega
          have HWP := hide hwp
          have HK3 := hide hk3
          clear hwp hk3
          go_wp2_with fail
          refine (wBytes_st (unhide HWP).w (by omega)).mono ?_
          rintro e w7 ⟨A7, c7, rfl, hc7, hf7⟩
          have hwp7 := (unhide HWP).keeps hf7.2
          have HOL := hide (octW_length N2 n2)
          have HL1 := hide (wLen_st hwp7.w)
          have HL2 := hide (xLen_st hwp7.v)
          have HB2 := hide (xBytes_st hwp7.v (by omega))
          have HF7 := hide hf7
          clear hwp7 hf7 hc7
          go_wp2_with fail
          with_reducible refine (unhide HL1).mono ?_
          rintro e wn ⟨rfl, rfl⟩
          go_wp2_with fail
          with_reducible refine (unhide HL2).mono ?_
          rintro e wn ⟨rfl, rfl⟩
          go_wp2_with fail
          with_reducible refine (unhide HB2).mono ?_
          rintro e w8 ⟨A8, c8, rfl, hc8, hf8⟩
          have HSM := hide (sameBytes_any A7 A8 _ _ c7 c8 _ ((unhide HF7).holds.keeps hf8.2) hf8.holds (octW_bytes N2 n2) (octW_bytes N2 n2))
          rw [decide_eq_true rfl] at HSM
          have HCS := hide (spoilFresh_any A7 (octW N2 n2) c7 (unhide HF7) hf8.2 (octW_bytes N2 n2) (by have := unhide HOL; omega))
          have HK8 := hide hf8.2
          clear hf8 hc8
          go_wp2_with fail
          with_reducible refine (unhide HSM).mono ?_
          rintro e wn ⟨rfl, rfl⟩
          go_wp2_with fail
          with_reducible refine (unhide HCS).mono ?_
          rintro e w10 ⟨rfl, hb10⟩
          have hkk := Below.trans ((unhide HF7).2.trans (unhide HK8)) hb10
          have HKK := hide hkk
          clear hkk hb10
          go_wp2
          exact ⟨⟨k + 1, by omega, by omega, by go_num, (unhide HK3).trans (unhide HKK), N2, n2, hnk, (unhide HWP).keeps (unhide HKK)⟩, by simp [intOf]; omega⟩
        · by_cases h3 : kind = 3
          · subst h3
            have HMX := hide (show max x 0 = max x 0 from rfl)
            have HC1 := hide (wSmall_st x (max x 0) rfl (St.start (unhide HW) hroom) (by have := (unhide HOP).size; omega) (by omega) (by omega))
            have HC2F := hide fun (w2 : World) (h : RefV w.heap.size w2 (w.heap.size + 1) N n A' d') (hb : w.heap.size ≤ w2.heap.size) => xSmall_st x (max x 0) (by omega) (RSt.start h) hb (by omega) (by omega)
            have h73 := smL_le (max x 0)
            have hnk : n + smL (max x 0) ≤ 1600 * (k + 1) := by omega
            generalize max x 0 = mx at *
            clear hql
            go_wp2_with fail
            with_reducible refine (unhide HC1).mono ?_
            rintro e w2 ⟨rfl, hS2⟩
            have hr2 := ref_stays (unhide HW) (unhide HV) (unhide HDIS) (by omega) hS2
            have HC2 := hide (unhide HC2F _ hr2 (by have := (unhide HOP).size; have := hS2.fr.2.2.2.1; omega))
            have hob2 := fr_blk hS2.fr (unhide HOB) (by omega) (fun e => by have := unhide HRW _ e; omega)
            obtain ⟨hoc, hof, hol⟩ := hob2.facts
            have HF2 := hide hS2.fr
            have HS2 := hide hS2
            clear hS2 hr2 hob2
            go_wp2_with fail
            with_reducible refine (unhide HC2).mono ?_
            rintro e w3 ⟨rfl, hR3⟩
            have hwp := (both_step (unhide HW) (unhide HV) (unhide HDIS) (by omega) (unhide HS2) (Keeps.refl _) hR3).any
            have hk3 := fr_keeps (fr_keeps ((unhide HKP).trans (unhide HOP)) (unhide HF2) (Nat.le_refl _) (unhide HRWb)) hR3.fr (by omega) (unhide HRVb)
            clear hR3 hoc hof hol
            generalize smN N mx = N2 at *
            generalize n + smL mx = n2 at *
            have hn2 : n2 ≤ 9000000 := by omega
            have HWP := hide hwp
            have HK3 := hide hk3
            clear hwp hk3
            go_wp2_with fail
            refine (wBytes_st (unhide HWP).w (by omega)).mono ?_
            rintro e w7 ⟨A7, c7, rfl, hc7, hf7⟩
            have hwp7 := (unhide HWP).keeps hf7.2
            have HOL := hide (octW_length N2 n2)
            have HL1 := hide (wLen_st hwp7.w)
            have HL2 := hide (xLen_st hwp7.v)
            have HB2 := hide (xBytes_st hwp7.v (by omega))
            have HF7 := hide hf7
            clear hwp7 hf7 hc7
            go_wp2_with fail
            with_reducible refine (unhide HL1).mono ?_
            rintro e wn ⟨rfl, rfl⟩
            go_wp2_with fail
            with_reducible refine (unhide HL2).mono ?_
            rintro e wn ⟨rfl, rfl⟩
            go_wp2_with fail
            with_reducible refine (unhide HB2).mono ?_
            rintro e w8 ⟨A8, c8, rfl, hc8, hf8⟩
            have HSM := hide (sameBytes_any A7 A8 _ _ c7 c8 _ ((unhide HF7).holds.keeps hf8.2) hf8.holds (octW_bytes N2 n2) (octW_bytes N2 n2))
            rw [decide_eq_true rfl] at HSM
            have HCS := hide (spoilFresh_any A7 (octW N2 n2) c7 (unhide HF7) hf8.2 (octW_bytes N2 n2) (by have := unhide HOL; omega))
            have HK8 := hide hf8.2
            clear hf8 hc8
            go_wp2_with fail
            with_reducible refine (unhide HSM).mono ?_
            rintro e wn ⟨rfl, rfl⟩
            go_wp2_with fail
            with_reducible refine (unhide HCS).mono ?_
            rintro e w10 ⟨rfl, hb10⟩
            have hkk := Below.trans ((unhide HF7).2.trans (unhide HK8)) hb10
            have HKK := hide hkk
            clear hkk hb10
            go_wp2
            exact ⟨⟨k + 1, by omega, by omega, by go_num, (unhide HK3).trans (unhide HKK), N2, n2, hnk, (unhide HWP).keeps (unhide HKK)⟩, by simp [intOf]; omega⟩
          · have e1 : (kind == 1) = false := beq_eq_false_iff_ne.2 h1
            have e2 : (kind == 2) = false := beq_eq_false_iff_ne.2 h2
            have e3 : (kind == 3) = false := beq_eq_false_iff_ne.2 h3
            obtain ⟨J, hJ1, hJ2⟩ : ∃ J : Nat, min (max x 0) 64 = (J : Int) ∧ max 0 (min x 64) = (J : Int) := ⟨(min (max x 0) 64).toNat, by omega, by omega⟩
            have hJ64 : J ≤ 64 := by omega
            have HC1 := hide (wBits_st v x J (St.start (unhide HW) hroom) (by have := (unhide HOP).size; omega) hv0 hv1 hJ1 (by omega))
            have HC2F := hide fun (w2 : World) (h : RefV w.heap.size w2 (w.heap.size + 1) N n A' d') (hb : w.heap.size ≤ w2.heap.size) => xBits_st v x J (RSt.start h) hb hv0 hv1 hJ2 (by omega)
            have hnk : n + J ≤ 1600 * (k + 1) := by omega
            clear hql h1 h2 h3 hJ1 hJ2
            go_wp2_with fail
            with_reducible refine (unhide HC1).mono ?_
            rintro e w2 ⟨rfl, hS2⟩
            have hr2 := ref_stays (unhide HW) (unhide HV) (unhide HDIS) (by omega) hS2
            have HC2 := hide (unhide HC2F _ hr2 (by have := (unhide HOP).size; have := hS2.fr.2.2.2.1; omega))
            have hob2 := fr_blk hS2.fr (unhide HOB) (by omega) (fun e => by have := unhide HRW _ e; omega)
            obtain ⟨hoc, hof, hol⟩ := hob2.facts
            have HF2 := hide hS2.fr
            have HS2 := hide hS2
            clear hS2 hr2 hob2
            go_wp2_with fail
            with_reducible refine (unhide HC2).mono ?_
            rintro e w3 ⟨rfl, hR3⟩
            have hwp := (both_step (unhide HW) (unhide HV) (unhide HDIS) (by omega) (unhide HS2) (Keeps.refl _) hR3).any
            have hk3 := fr_keeps (fr_keeps ((unhide HKP).trans (unhide HOP)) (unhide HF2) (Nat.le_refl _) (unhide HRWb)) hR3.fr (by omega) (unhide HRVb)
            clear hR3 hoc hof hol
            generalize tot N v J = N2 at *
            generalize n + J = n2 at *
            have hn2 : n2 ≤ 9000000 := by omega
            have HWP := hide hwp
            have HK3 := hide hk3
            clear hwp hk3
            go_wp2_with fail
            refine (wBytes_st (unhide HWP).w (by omega)).mono ?_
            rintro e w7 ⟨A7, c7, rfl, hc7, hf7⟩
            have hwp7 := (unhide HWP).keeps hf7.2
            have HOL := hide (octW_length N2 n2)
            have HL1 := hide (wLen_st hwp7.w)
            have HL2 := hide (xLen_st hwp7.v)
            have HB2 := hide (xBytes_st hwp7.v (by omega))
            have HF7 := hide hf7
            clear hwp7 hf7 hc7
            go_wp2_with fail
            with_reducible refine (unhide HL1).mono ?_
            rintro e wn ⟨rfl, rfl⟩
            go_wp2_with fail
            with_reducible refine (unhide HL2).mono ?_
            rintro e wn ⟨rfl, rfl⟩
            go_wp2_with fail
            with_reducible refine (unhide HB2).mono ?_
            rintro e w8 ⟨A8, c8, rfl, hc8, hf8⟩
            have HSM := hide (sameBytes_any A7 A8 _ _ c7 c8 _ ((unhide HF7).holds.keeps hf8.2) hf8.holds (octW_bytes N2 n2) (octW_bytes N2 n2))
            rw [decide_eq_true rfl] at HSM
            have HCS := hide (spoilFresh_any A7 (octW N2 n2) c7 (unhide HF7) hf8.2 (octW_bytes N2 n2) (by have := unhide HOL; omega))
            have HK8 := hide hf8.2
            clear hf8 hc8
            go_wp2_with fail
            with_reducible refine (unhide HSM).mono ?_
            rintro e wn ⟨rfl, rfl⟩
            go_wp2_with fail
            with_reducible refine (unhide HCS).mono ?_
            rintro e w10 ⟨rfl, hb10⟩
            have hkk := Below.trans ((unhide HF7).2.trans (unhide HK8)) hb10
            have HKK := hide hkk
            clear hkk hb10
            go_wp2
            exact ⟨⟨k + 1, by omega, by omega, by go_num, (unhide HK3).trans (unhide HKK), N2, n2, hnk, (unhide HWP).keeps (unhide HKK)⟩, by simp [intOf]; omega⟩
    · obtain ⟨hkp, N, n, hn, hwp⟩ := hI
      have HWP := hide hwp
      have HKP := hide hkp
      clear hwp hkp
      have hnb : n ≤ 9000000 := by omega
      rcases Nat.lt_or_ge k np with hA | hA
      · have hB : ¬ ((k : Int) < 60) := by omega
        go_wp2_with fail
        refine (wBytes_st (unhide HWP).w (by omega)).mono ?_
        rintro e w7 ⟨A7, c7, rfl, hc7, hf7⟩
        have HF7 := hide hf7
        clear hf7 hc7
        go_wp2_with fail
        refine (xBytes_st ((unhide HWP).keeps (unhide HF7).2).v (by omega)).mono ?_
        rintro e w8 ⟨A8, c8, rfl, hc8, hf8⟩
        have HF8 := hide hf8
        clear hf8 hc8
        have HSM := hide (sameBytes_any A7 A8 _ _ c7 c8 _ ((unhide HF7).holds.keeps (unhide HF8).2) (unhide HF8).holds (octW_bytes N n) (octW_bytes N n))
        rw [decide_eq_true rfl] at HSM
        go_wp2_with fail
        refine (unhide HSM).mono ?_
        rintro e wn ⟨rfl, rfl⟩
        go_wp2
        go_ret
        exact ⟨rfl, ((unhide HKP).trans (unhide HF7).2).trans (unhide HF8).2⟩
      · have hB : ¬ ((k : Int) < (np : Int)) := by omega
        go_wp2_with fail
        refine (wBytes_st (unhide HWP).w (by omega)).mono ?_
        rintro e w7 ⟨A7, c7, rfl, hc7, hf7⟩
        have HF7 := hide hf7
        clear hf7 hc7
        go_wp2_with fail
        refine (xBytes_st ((unhide HWP).keeps (unhide HF7).2).v (by omega)).mono ?_
        rintro e w8 ⟨A8, c8, rfl, hc8, hf8⟩
        have HF8 := hide hf8
        clear hf8 hc8
        have HSM := hide (sameBytes_any A7 A8 _ _ c7 c8 _ ((unhide HF7).holds.keeps (unhide HF8).2) (unhide HF8).holds (octW_bytes N n) (octW_bytes N n))
        rw [decide_eq_true rfl] at HSM
        go_wp2_with fail
        refine (unhide HSM).mono ?_
        rintro e wn ⟨rfl, rfl⟩
        go_wp2
        go_ret
        exact ⟨rfl, ((unhide HKP).trans (unhide HF7).2).trans (unhide HF8).2⟩
end Go.Proofs.Ytnbcehoddjcnoaa
