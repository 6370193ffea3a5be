/- The walk of BitsBack. -/
import Derived.Test.YtocnmnimlmehgaaBackB0
import Derived.Test.YtocnmnimlmehgaaBitsRdO
import Derived.Test.YtocnmnimlmehgaaBitsOct1
import Derived.Deep.RegionHeld3
namespace Go.Proofs.Ytocnmnimlmehgaa
open Go.ChangeShapes Go.WideShapes Go.ChangeAt Go.RowKit

theorem opK2 {q : OpV} (h2 : q.1 = 2) (hl : q.2.2.2.2.2.length ≤ 200) : opK q = 8 * q.2.2.2.2.2.length := by
  have h1 : q.1 ≠ 1 := by omega
  unfold opK; rw [if_neg h1, if_pos h2, if_pos hl]
theorem opN2 {q : OpV} {N : Int} (h2 : q.1 = 2) (hl : q.2.2.2.2.2.length ≤ 200) : opN N q = appB N q.2.2.2.2.2 := by
  have h1 : q.1 ≠ 1 := by omega
  unfold opN; rw [if_neg h1, if_pos h2, if_pos hl]
theorem OpsAny.get {w wr : World} {A : Option Addr} {ps : List OpV} (h : OpsAny w A ps) (hk : Keeps w wr) {k : Nat} (hkl : k < ps.length) :
    ∃ b o kind n v qa qc xs, A = some ⟨b, o, none⟩ ∧ ps[k]? = some (kind, n, v, qa, qc, xs) ∧ wr.cell? ⟨b, o + k * 4, none⟩ = some (.int .i64 kind) ∧ wr.cell? ⟨b, o + k * 4 + 1, none⟩ = some (.int .i64 n) ∧ wr.cell? ⟨b, o + k * 4 + 2, none⟩ = some (.int .u32 v) ∧
      wr.cell? ⟨b, o + k * 4 + 3, none⟩ = some (.slice qa xs.length qc) ∧ Holds w qa xs ∧ B8 xs ∧ xs.length ≤ maxLen ∧ 0 ≤ v ∧ v ≤ 4294967295 ∧ -9223372036854775808 ≤ n ∧ n ≤ 9223372036854775807 := by
  obtain ⟨b, o, kind, n, v, qa, qc, xs, e, hq, h0, h1, h2, h3, h4⟩ := h.at_ hkl
  have hb : b < w.heap.size := by
    rcases h with h | ⟨b', o', e', hb, _⟩
    · rw [h] at hkl; simp at hkl
    · rw [e] at e'; injection e' with e'; injection e' with e1 _ _; rw [e1]; exact hb
  exact ⟨b, o, kind, n, v, qa, qc, xs, e, hq, (Below.cell (p := ⟨b, _, none⟩) hk hb).trans h0, (Below.cell (p := ⟨b, _, none⟩) hk hb).trans h1, (Below.cell (p := ⟨b, _, none⟩) hk hb).trans h2, (Below.cell (p := ⟨b, _, none⟩) hk hb).trans h3, h4⟩
theorem held_fr {w w' : World} {g go : Nat} {cs : Array Value} (h : (∀ i, w.cell? ⟨go, i, none⟩ = cs[i]?) ∧ True) (hf : Fr g none w w') (hg : go ≠ g) (hlt : go < w.heap.size) : (∀ i, w'.cell? ⟨go, i, none⟩ = cs[i]?) ∧ True :=
  ⟨fun i => (World.cell?_of_block (a := ⟨go, i, none⟩) (hf.2.2.2.2 go hlt hg (fun e => by cases e))).trans (h.1 i), trivial⟩
/-- Where the reader lies. -/
def BkLay (w : World) (gr : Nat) (A : Option Addr) : Prop := w.heap.size ≤ gr ∧ ∀ b, rowOf A = some b → w.heap.size ≤ b ∧ b < gr
theorem k_any {w wr w1 : World} {gr : Nat} (hk : Keeps w wr) (hf : Fr gr none wr w1) (h : w.heap.size ≤ gr) : Keeps w w1 := fr_keeps hk hf h (fun b e => by cases e)
theorem flat_one (a : Option Addr) (c : Nat) (xs : List Int) : flat [(a, c, xs)] = xs := by simp [flat]
theorem hold_w {w w' : World} {A : Option Addr} {xs : List Int} (h : Holds w A xs) (hk : Keeps w w') : Holds w' A xs := h.keeps hk
theorem piece64 (v : Int) (k : Nat) (h0 : 0 ≤ v) (h1 : v ≤ 4294967295) (hk : k ≤ 32) : bits .and .u64 v (2 ^ k - 1) = v % 2 ^ k := by
  obtain ⟨x, rfl⟩ := Int.eq_ofNat_of_zero_le h0
  have hp : 2 ^ k ≤ 4294967296 := by
    have := Nat.pow_le_pow_right (show 2 > 0 by omega) hk
    exact this
  have e : ((2 : Int) ^ k - 1) = ((2 ^ k - 1 : Nat) : Int) := by
    rw [Int.natCast_sub (Nat.one_le_two_pow), Int.natCast_pow]; rfl
  have := u64_and_nat x (2 ^ k - 1) (by omega) (by omega)
  rw [Nat.and_two_pow_sub_one_eq_mod] at this
  rw [e, this, Int.natCast_emod, Int.natCast_pow]
  rfl

set_option maxRecDepth 100000 in
set_option maxHeartbeats 4000000 in
theorem bitsBack_any (P : Option Addr) (ps : List OpV) (c0 : Nat) (w : World) (hp : OpsAny w P ps) (hpl : ps.length ≤ maxLen) :
    Calls Try.prog 5 #[.slice P ps.length c0] w fun e w' => e = .returned (.bool true) ∧ Keeps w w' := by
  have hm : ps.length ≤ 9223372036854775807 := by unfold maxLen at hpl; exact hpl
  clear hpl
  have hob : OpsB ps := fun i q hq => by
    rcases hp with h | ⟨b, o, _, _, hp⟩
    · rw [h] at hq; simp at hq
    · exact (hp i q hq).2.2.2.2.2.1
  have HOPS := hide hob
  have HP := hide hp
  clear hp hob
  have HK1600 := hide (fun i => (show stK ps i ≤ 1600 * i from by
    induction i with
    | zero => simp [stK]
    | succ i ih =>
      cases hq : ps[i]? with
      | none =>
        have e2 : stK ps (i + 1) = stK ps i := by unfold stK; rw [List.take_add_one, hq]; simp
        omega
      | some q => have := opK_le q; rw [stK_succ ps i q hq]; omega))
  generalize hn : ps.length = np at *
  have HN := hide hn
  clear hn
  have hk0 := (Keeps.refl w).alloc (.cells #[.slice none 0 0, .int .i64 0] 25)
  have h0 : WrV w.heap.size (w.alloc (.cells #[.slice none 0 0, .int .i64 0] 25)) w.heap.size 0 0 0 0 none 0 :=
    ⟨rfl, Blk.new _ _ _, by simpa [lo] using World.ownsRow_nil _ _ _ _⟩
  have HK0 := hide hk0
  have HW0 := hide h0
  clear hk0 h0
  go_enter Try.func5, Try.ntmps5
  go_wp2_with fail
  refine (awake01_any _).mono ?_
  rintro e w1 ⟨rfl, hk1⟩
  have HI1 := hide (show Keeps w w1 ∧ WS w.heap.size w1 w.heap.size (stN ps 0) (stK ps 0) from ⟨(unhide HK0).trans hk1, (show WS w.heap.size _ w.heap.size 0 0 from ⟨0, 0, none, 0, unhide HW0, by omega⟩).keeps hk1⟩)
  clear hk1
  go_wp2
  go_loopw [4] (fun i wr => ∃ k : Nat, k ≤ np ∧ k ≤ 60 ∧ i = .int .i64 k ∧ Keeps w wr ∧ WS w.heap.size wr w.heap.size (stN ps k) (stK ps k)) (fun i _ => np - (intOf i).toNat)
  case atStart => exact ⟨0, by omega, by omega, rfl, (unhide HI1).1, (unhide HI1).2⟩
  case round =>
    obtain ⟨k, hk, hk1, rfl, hkp, hws⟩ := hrel
    have hkb := unhide HK1600 k
    by_cases hlt : k < np ∧ k < 60
    · obtain ⟨hlt, hlt60⟩ := hlt
      obtain ⟨b, o, kind, x, v, qa, qc, xs, rfl, hq, hc0, hc1, hc2, hc3, hh, h8, hql, hv0, hv1, hx0, hx1⟩ := (unhide HP).get hkp (k := k) (by rw [unhide HN]; exact hlt)
      have HSK := hide (stK_succ ps k _ hq)
      have HSN := hide (stN_succ ps k _ hq)
      obtain ⟨m, room, A, d, hW, hroom⟩ := hws
      have hnb : stK ps k ≤ 96000 := by omega
      have hop := (Keeps.refl wr).alloc (.cells #[.int .i64 kind, .int .i64 x, .int .u32 v, .slice qa xs.length qc] 32)
      have hOb := Blk.new wr 32 #[.int .i64 kind, .int .i64 x, .int .u32 v, .slice qa xs.length qc]
      have hWo : WrV w.heap.size (wr.alloc (.cells #[.int .i64 kind, .int .i64 x, .int .u32 v, .slice qa xs.length qc] 32)) w.heap.size (stN ps k) (stK ps k) m room A d := hW.alloc_ _
      have hgl := hW.2.1.lt
      have HRL := hide hW.row_lt
      have HW := hide hWo
      have HKP := hide (hkp.trans hop)
      have hks := hkp.size
      have HH := hide hh
      have H8 := hide h8
      unfold maxLen at hql
      clear hkp hW hop hOb hWo hh h8 hq hkb
      by_cases h1 : kind = 1
      · subst h1
        obtain ⟨hcl1, hcl2, hcl3⟩ := clampN_eq x
        have HC1 := hide (bits_st v x (clampN x) (St.start (unhide HW) hroom) (by rw [World.size_alloc]; omega) hv0 hv1 hcl1 (by omega))
        have HE1 := hide (show opK (1, x, v, qa, qc, xs) = clampN x from if_pos rfl)
        have HE2 := hide (show opN (stN ps k) (1, x, v, qa, qc, xs) = tot (stN ps k) v (clampN x) from if_pos rfl)
        clear hcl1 hcl2 hql
        go_wp2_with fail
        with_reducible refine (unhide HC1).mono ?_
        rintro e w2 ⟨rfl, hS2⟩
        have HKF := hide (fr_keeps (unhide HKP) hS2.fr (Nat.le_refl _) (fun b e => (unhide HRL b e).1))
        have HWF := hide hS2.ws
        clear hS2
        go_wp2
        refine ⟨⟨k + 1, by omega, by omega, by go_num, unhide HKF, ?_⟩, by simp [intOf]; omega⟩
        rw [unhide HSK, unhide HSN, unhide HE1, unhide HE2]
        exact unhide HWF
      · have e1 : (kind == 1) = false := beq_eq_false_iff_ne.2 h1
        by_cases h2 : kind = 2
        · subst h2
          by_cases hbig : 200 < xs.length
          · obtain ⟨b1, b2⟩ := opK_big (2, x, v, qa, qc, xs) rfl hbig (stN ps k)
            have HE1 := hide b1
            have HE2 := hide b2
            have HWF := hide (show WS w.heap.size (wr.alloc (.cells #[.int .i64 2, .int .i64 x, .int .u32 v, .slice qa xs.length qc] 32)) w.heap.size (stN ps k) (stK ps k) from ⟨m, room, A, d, unhide HW, hroom⟩)
            clear b1 b2
            go_wp2
            refine ⟨⟨k + 1, by omega, by omega, by go_num, unhide HKP, ?_⟩, by simp [intOf]; omega⟩
            rw [unhide HSK, unhide HSN, unhide HE1, unhide HE2, Nat.add_zero]
            exact unhide HWF
          · have hsm : xs.length ≤ 200 := by omega
            clear hql hbig
            have HE1 := hide (show opK (2, x, v, qa, qc, xs) = 8 * xs.length from opK2 rfl hsm)
            have HE2 := hide (show opN (stN ps k) (2, x, v, qa, qc, xs) = appB (stN ps k) xs from opN2 rfl hsm)
            have HPB := hide (Blk.new (wr.alloc (.cells #[.int .i64 2, .int .i64 x, .int .u32 v, .slice qa xs.length qc] 32)) 23 #[.slice qa xs.length qc])
            rw [World.size_alloc] at HPB
            have HW2 := hide ((unhide HW).alloc_ (.cells #[.slice qa xs.length qc] 23))
            have HKB := hide ((unhide HKP).alloc (.cells #[.slice qa xs.length qc] 23))
            have hst : ∀ w', Fr w.heap.size (rowOf A) ((wr.alloc (.cells #[.int .i64 2, .int .i64 x, .int .u32 v, .slice qa xs.length qc] 32)).alloc (.cells #[.slice qa xs.length qc] 23)) w' → PartsAny w' (some ⟨wr.heap.size + 1, 0, none⟩) [(qa, qc, xs)] := by
              intro w' hf
              have hp' := fr_blk hf (unhide HPB) (by omega) (fun e => by have := (unhide HRL _ e).2; omega)
              have hq' := (unhide HH).keeps (fr_keeps (unhide HKB) hf (Nat.le_refl _) (fun b e => (unhide HRL b e).1))
              refine .inr ⟨wr.heap.size + 1, 0, rfl, hp'.lt, fun i q hq => ?_⟩
              match i, hq with
              | 0, hq => simp at hq; subst hq; exact ⟨hp'.cell 0, hq', unhide H8⟩
              | i + 1, hq => simp at hq
            have HC1 := hide (octets_st (some ⟨wr.heap.size + 1, 0, none⟩) [(qa, qc, xs)] 1 1 rfl (St.start (unhide HW2) hroom) (unhide HKB).size hst (by rw [flat_one]; omega) (by omega))
            rw [flat_one] at HC1
            clear hst
            go_wp2_with fail
            with_reducible refine (unhide HC1).mono ?_
            rintro e w2 ⟨rfl, hS2⟩
            have HKF := hide (fr_keeps (unhide HKB) hS2.fr (Nat.le_refl _) (fun b e => (unhide HRL b e).1))
            have HWF := hide hS2.ws
            clear hS2
            go_wp2
            refine ⟨⟨k + 1, by omega, by omega, by go_num, unhide HKF, ?_⟩, by simp [intOf]; omega⟩
            rw [unhide HSK, unhide HSN, unhide HE1, unhide HE2]
            exact unhide HWF
        · have e2 : (kind == 2) = false := beq_eq_false_iff_ne.2 h2
          have HC1 := hide (bit_st x (St.start (unhide HW) hroom) (by rw [World.size_alloc]; omega) (by omega))
          have HE1 := hide (show opK (kind, x, v, qa, qc, xs) = 1 from by unfold opK; rw [if_neg h1, if_neg h2])
          have HE2 := hide (show opN (stN ps k) (kind, x, v, qa, qc, xs) = tot (stN ps k) (if x = 0 then 0 else 1) 1 from by unfold opN; rw [if_neg h1, if_neg h2]; rfl)
          clear h1 h2 hql
          generalize hbv : (if x = 0 then (0 : Int) else 1) = bv1 at *
          clear hbv
          go_wp2_with fail
          with_reducible refine (unhide HC1).mono ?_
          rintro e w2 ⟨rfl, hS2⟩
          have HKF := hide (fr_keeps (unhide HKP) hS2.fr (Nat.le_refl _) (fun b e => (unhide HRL b e).1))
          have HWF := hide hS2.ws
          clear hS2
          go_wp2
          refine ⟨⟨k + 1, by omega, by omega, by go_num, unhide HKF, ?_⟩, by simp [intOf]; omega⟩
          rw [unhide HSK, unhide HSN, unhide HE1, unhide HE2]
          exact unhide HWF
    · obtain ⟨F, hF, hFnp, hF60⟩ : ∃ F : Nat, F = k ∧ F ≤ np ∧ F ≤ 60 := ⟨k, rfl, hk, hk1⟩
      have hend : ¬ (F < np ∧ F < 60) := by rw [hF]; exact hlt
      have HF0 := hide hF
      have hrg := stN_range ps (unhide HOPS) F
      have HRG := hide hrg
      have HENDV := hide (end_oct _ _ hrg.1 hrg.2)
      rw [← hF] at hws hkb
      have hnf : stK ps F ≤ 96000 := by omega
      have hmono := stK_mono ps
      have HMONO := hide hmono
      have hlen := oct_length (stN ps F) (stK ps F)
      have HLEN := hide hlen
      have hys : (oct (stN ps F) (stK ps F)).length ≤ 20000 := by omega
      have hyn : stK ps F ≤ 8 * (oct (stN ps F) (stK ps F)).length := by omega
      have hyr : 8 * (oct (stN ps F) (stK ps F)).length - stK ps F < 8 := by omega
      have HBI := hide (rd_bits ps (unhide HOPS))
      have HBT := hide (rd_bit ps (unhide HOPS))
      have HOC := hide (rd_octs ps (unhide HOPS))
      have HY8 := hide (oct_bytes (stN ps F) (stK ps F))
      have HCB := hide (bytes_st hws (by omega))
      have HKP := hide hkp
      have hz0 : stK ps 0 = 0 := rfl
      clear hkp hws hrg hlen hkb hmono
      have HYN := hide hyn
      have HYR := hide hyr
      have HBIF := hide (fun i q => unhide HBI i F q)
      have HBTF := hide (fun i q => unhide HBT i F q)
      have HOCF := hide (fun i q => unhide HOC i F q)
      clear HBI HBT HOC hyn hyr
      generalize hygen : oct (stN ps F) (stK ps F) = ys at *
      clear hygen
      have hstop : ¬ (((k : Int) < (np : Int)) ∧ ((k : Int) < 60)) := by omega
      have hkk : (k : Int) < (np : Int) → ¬ ((k : Int) < 60) := by omega
      clear hlt hend
      have hfirst : ∀ (Q : Prop), (((k : Int) < (np : Int)) → ¬ ((k : Int) < 60) → Q) → (¬ ((k : Int) < (np : Int)) → Q) → Q := fun Q h1 h2 => by
        by_cases h : (k : Int) < (np : Int)
        · exact h1 h (hkk h)
        · exact h2 h
      have HST := hide hstop
      clear hstop hkk
      refine hfirst _ (fun hA hB => ?_) (fun hB => ?_)
      all_goals
        clear hfirst
        go_wp2_with fail
        with_reducible refine (unhide HCB).mono ?_
        rintro e w3 ⟨A3, c3, rfl, hc3, hf3⟩
        have HF3 := hide hf3
        have HCN := hide (new_any A3 ys c3 w3 hf3.holds (by omega))
        clear hf3 hc3
        go_wp2_with fail
        with_reducible refine (unhide HCN).mono ?_
        rintro e w4 ⟨gr, A, c, rfl, hrv, hgr, hrow, hk4, hcl⟩
        have HK4 := hide (((unhide HKP).trans (unhide HF3).2).trans hk4)
        have hgz : w.heap.size ≤ gr := by have := ((unhide HKP).trans (unhide HF3).2).size; omega
        have HGR := hide hgz
        have HROWN := hide (fun b e => (hrow b e).2)
        have HRV := hide hrv
        have hgrl := hrv.1.lt
        clear hrv hrow hk4
        go_wp2
        go_loopw [7] (fun i wr => ∃ j : Nat, j ≤ F ∧ i = .int .i64 j ∧ Keeps w wr ∧ gr < wr.heap.size ∧ RV wr gr A c ys (stK ps j) 0) (fun i _ => F - (intOf i).toNat)
        case atStart => exact ⟨0, Nat.zero_le _, rfl, unhide HK4, hgrl, unhide HRV⟩
        case round =>
          obtain ⟨j, hj, rfl, hkp, hgrw, hR⟩ := hrel
          by_cases hlt : j < F
          · have hj1 : (j : Int) < (np : Int) := by omega
            have hj2 : (j : Int) < 60 := by omega
            have hmj := unhide HMONO j F (by omega)
            obtain ⟨b, o, kind, x, v, qa, qc, xs, rfl, hq, hc0, hc1, hc2, hc3, hh, h8, hql, hv0, hv1, hx0, hx1⟩ := (unhide HP).get hkp (k := j) (by rw [unhide HN]; omega)
            have HSK := hide (stK_succ ps j _ hq)
            have hop := (Keeps.refl wr).alloc (.cells #[.int .i64 kind, .int .i64 x, .int .u32 v, .slice qa xs.length qc] 32)
            have hOb := Blk.new wr 32 #[.int .i64 kind, .int .i64 x, .int .u32 v, .slice qa xs.length qc]
            have HR := hide (hR.keeps hop).drew
            have HR0 := hide (hR.keeps hop)
            have HKP := hide (hkp.trans hop)
            have hsz : gr < (wr.alloc (.cells #[.int .i64 kind, .int .i64 x, .int .u32 v, .slice qa xs.length qc] 32)).heap.size := by rw [World.size_alloc]; omega
            have HSZ := hide hsz
            have HOB := hide hOb
            have HHX := hide hh
            have H8 := hide h8
            have HQ := hide hq
            have hF1 : j + 1 ≤ F := by omega
            unfold maxLen at hql
            obtain ⟨hoc, hof, hol⟩ := hOb.facts
            clear hkp hR hop hOb hh h8 hq hsz
            by_cases h1 : kind = 1
            · subst h1
              obtain ⟨b1, b2⟩ := unhide HBIF j _ (unhide HQ) hF1 rfl
              simp only at b1 b2
              rw [b1] at HSK
              obtain ⟨hcl1, hcl2, hcl3⟩ := clampN_eq x
              have hnext := unhide HMONO (j + 1) F (by omega)
              rw [unhide HSK] at hnext
              have e1 : rdVal ys (stK ps j) 0 (clampN x) = v % 2 ^ clampN x := (if_pos ⟨rfl, by have := unhide HYN; omega⟩).trans b2
              have e2 : rdAt (8 * ys.length) (stK ps j) 0 (clampN x) = stK ps j + clampN x := by unfold rdAt; rw [if_pos ⟨rfl, by have := unhide HYN; omega⟩]
              have e3 : rdF (8 * ys.length) (stK ps j) 0 (clampN x) = 0 := by unfold rdF; rw [if_pos rfl, if_pos (by have := unhide HYN; omega)]
              have HC1 := hide (rdBits_any x (clampN x) hcl1 (unhide HR) (unhide HY8) (by omega) (by have := unhide HYN; omega))
              rw [e1, e2, e3, ← unhide HSK] at HC1
              have hand := piece64 v (clampN x) hv0 hv1 hcl3
              have hr0 := Int.emod_nonneg v (Int.ne_of_gt (two_pos (clampN x)))
              have hr1 := Int.emod_lt_of_pos v (two_pos (clampN x))
              have hpw : (2 : Int) ^ clampN x ≤ 4294967296 := by
                have := Nat.pow_le_pow_right (show 2 > 0 by omega) hcl3
                have h2 : ((2 ^ clampN x : Nat) : Int) ≤ ((2 ^ 32 : Nat) : Int) := Int.ofNat_le.2 this
                rw [Int.natCast_pow] at h2
                exact h2
              have hp0 := two_pos (clampN x)
              clear b1 b2 e1 e2 e3 hnext hql hcl2 hmj
              have hvw : IntKind.u64.wrap v = v := by rw [IntKind.wrap_u64]; omega
              have hrw : IntKind.u64.wrap (v % 2 ^ clampN x) = v % 2 ^ clampN x := by rw [IntKind.wrap_u64]; omega
              generalize v % 2 ^ clampN x = rv at *
              by_cases hx : 0 < x
              · by_cases hx3 : x ≤ 32
                · obtain ⟨kb, rfl⟩ : ∃ K : Nat, x = (K : Int) := ⟨x.toNat, by omega⟩
                  have hKe : clampN (kb : Int) = kb := by omega
                  rw [hKe] at hand hpw hp0 hr1
                  clear hKe
                  have m1 : IntKind.u64.wrap (kb : Int) = kb := by rw [IntKind.wrap_u64]; omega
                  have m2 : min kb 64 = kb := by omega
                  have m3 : IntKind.u64.wrap ((2 : Int) ^ kb) = 2 ^ kb := by rw [IntKind.wrap_u64]; omega
                  have m4 : IntKind.u64.wrap ((2 : Int) ^ kb - 1) = 2 ^ kb - 1 := by rw [IntKind.wrap_u64]; omega
                  go_wp2
                  all_goals first
                    | (exfalso; omega)
                    | skip
                  refine wp_region_held_drew (S := fun w' => (∀ i, w'.cell? ⟨wr.heap.size, i, none⟩ = (#[.int .i64 1, .int .i64 kb, .int .u32 v, .slice qa xs.length qc] : Array Value)[i]?) ∧ True) (by kernel_rfl) ?_ (fun hHeld => ?_)
                  · exact ⟨(unhide HOB).drew.cell, trivial⟩
                  refine wpAnyH_take (i := 0) (oi := { dst := some 81, op := Op.move (Operand.tmp 6), type := 43, pos := "law.go:133", after := #[], guard := none }) (v := ?_) rfl (by kernel_rfl) (by kernel_rfl) (by kernel_rfl) (fun _ _ _ h => h) (Or.inl ⟨by rfl, ?_⟩) (by assumption) ?_
                  rotate_left
                  · intro w hSw
                    go_simp
                    try with_reducible rfl
                  try simp only [Act.put, List.setIfInBounds_toArray, List.set_cons_zero, List.set_cons_succ]
                  refine wpAnyH_take (i := 1) (oi := { dst := some 82, op := Op.fieldAddr 32 (Operand.tmp 8) 1, type := 0, pos := "law.go:133", after := #[], guard := none }) (v := ?_) rfl (by kernel_rfl) (by kernel_rfl) (by kernel_rfl) (fun _ _ _ h => h) (Or.inl ⟨by rfl, ?_⟩) (by assumption) ?_
                  rotate_left
                  · intro w hSw
                    go_simp
                    try with_reducible rfl
                  try simp only [Act.put, List.setIfInBounds_toArray, List.set_cons_zero, List.set_cons_succ]
                  refine wpAnyH_take (i := 2) (oi := { dst := some 83, op := Op.load 3 (Operand.tmp 82), type := 3, pos := "law.go:133", after := #[{ on := 1, ground := Ground.data }], guard := none }) (v := ?_) rfl (by kernel_rfl) (by kernel_rfl) (by kernel_rfl) (fun _ _ _ h => h) (Or.inl ⟨by rfl, ?_⟩) (by assumption) ?_
                  rotate_left
                  · intro w hSw
                    go_simp
                    try with_reducible rfl
                  try simp only [Act.put, List.setIfInBounds_toArray, List.set_cons_zero, List.set_cons_succ]
                  refine wpAnyH_take (i := 5) (oi := { dst := some 86, op := Op.fieldAddr 32 (Operand.tmp 8) 2, type := 0, pos := "law.go:133", after := #[], guard := none }) (v := ?_) rfl (by kernel_rfl) (by kernel_rfl) (by kernel_rfl) (fun _ _ _ h => h) (Or.inl ⟨by rfl, ?_⟩) (by assumption) ?_
                  rotate_left
                  · intro w hSw
                    go_simp
                    try with_reducible rfl
                  try simp only [Act.put, List.setIfInBounds_toArray, List.set_cons_zero, List.set_cons_succ]
                  refine wpAnyH_take (i := 6) (oi := { dst := some 87, op := Op.load 30 (Operand.tmp 86), type := 30, pos := "law.go:133", after := #[{ on := 5, ground := Ground.data }], guard := none }) (v := ?_) rfl (by kernel_rfl) (by kernel_rfl) (by kernel_rfl) (fun _ _ _ h => h) (Or.inl ⟨by rfl, ?_⟩) (by assumption) ?_
                  rotate_left
                  · intro w hSw
                    go_simp
                    try with_reducible rfl
                  try simp only [Act.put, List.setIfInBounds_toArray, List.set_cons_zero, List.set_cons_succ]
                  refine wpAnyH_take (i := 7) (oi := { dst := some 88, op := Op.convert 30 53 (Operand.tmp 87), type := 53, pos := "law.go:133", after := #[{ on := 6, ground := Ground.data }], guard := none }) (v := ?_) rfl (by kernel_rfl) (by kernel_rfl) (by kernel_rfl) (fun _ _ _ h => h) (Or.inl ⟨by rfl, ?_⟩) (by assumption) ?_
                  rotate_left
                  · intro w hSw
                    go_simp
                    try with_reducible rfl
                  try simp only [Act.put, List.setIfInBounds_toArray, List.set_cons_zero, List.set_cons_succ]
                  refine wpAnyH_take (i := 8) (oi := { dst := some 89, op := Op.move (Operand.tmp 9), type := 3, pos := "law.go:133", after := #[], guard := none }) (v := ?_) rfl (by kernel_rfl) (by kernel_rfl) (by kernel_rfl) (fun _ _ _ h => h) (Or.inl ⟨by rfl, ?_⟩) (by assumption) ?_
                  rotate_left
                  · intro w hSw
                    go_simp
                    try with_reducible rfl
                  try simp only [Act.put, List.setIfInBounds_toArray, List.set_cons_zero, List.set_cons_succ]
                  refine wpAnyH_take (i := 9) (oi := { dst := some 90, op := Op.convert 3 54 (Operand.tmp 89), type := 54, pos := "law.go:133", after := #[{ on := 8, ground := Ground.data }], guard := none }) (v := ?_) rfl (by kernel_rfl) (by kernel_rfl) (by kernel_rfl) (fun _ _ _ h => h) (Or.inl ⟨by rfl, ?_⟩) (by assumption) ?_
                  rotate_left
                  · intro w hSw
                    go_simp
                    try with_reducible rfl
                  try simp only [Act.put, List.setIfInBounds_toArray, List.set_cons_zero, List.set_cons_succ]
                  refine wpAnyH_take (i := 10) (oi := { dst := some 91, op := Op.binOp BinOp.shl 53 (Operand.const (Value.int IntKind.u64 1)) (Operand.tmp 90) 54, type := 53, pos := "law.go:133", after := #[{ on := 9, ground := Ground.data }], guard := none }) (v := ?_) rfl (by kernel_rfl) (by kernel_rfl) (by kernel_rfl) (fun _ _ _ h => h) (Or.inl ⟨by rfl, ?_⟩) (by assumption) ?_
                  rotate_left
                  · intro w hSw
                    go_simp
                    try with_reducible rfl
                  try simp only [Act.put, List.setIfInBounds_toArray, List.set_cons_zero, List.set_cons_succ]
                  refine wpAnyH_take (i := 11) (oi := { dst := some 92, op := Op.binOp BinOp.sub 53 (Operand.tmp 91) (Operand.const (Value.int IntKind.u64 1)) 53, type := 53, pos := "law.go:133", after := #[{ on := 10, ground := Ground.data }], guard := none }) (v := ?_) rfl (by kernel_rfl) (by kernel_rfl) (by kernel_rfl) (fun _ _ _ h => h) (Or.inl ⟨by rfl, ?_⟩) (by assumption) ?_
                  rotate_left
                  · intro w hSw
                    go_simp
                    try with_reducible rfl
                  try simp only [Act.put, List.setIfInBounds_toArray, List.set_cons_zero, List.set_cons_succ]
                  refine wpAnyH_take (i := 12) (oi := { dst := some 93, op := Op.binOp BinOp.and 53 (Operand.tmp 88) (Operand.tmp 92) 53, type := 53, pos := "law.go:133", after := #[{ on := 7, ground := Ground.data }, { on := 11, ground := Ground.data }], guard := none }) (v := ?_) rfl (by kernel_rfl) (by kernel_rfl) (by kernel_rfl) (fun _ _ _ h => h) (Or.inl ⟨by rfl, ?_⟩) (by assumption) ?_
                  rotate_left
                  · intro w hSw
                    go_simp
                    try with_reducible rfl
                  try simp only [Act.put, List.setIfInBounds_toArray, List.set_cons_zero, List.set_cons_succ]
                  refine wpAnyH_ready (rs := [3]) (by kernel_rfl) (by simp) ?_
                  refine AllReadyH.cons (o := { dst := some 84, op := Op.call { callee := Callee.value (Operand.func 24), args := #[Operand.tmp 81, Operand.tmp 83], argTypes := #[43, 3] }, type := 30, pos := "law.go:133", after := #[{ on := 0, ground := Ground.data }, { on := 2, ground := Ground.data }], guard := none }) rfl (fun K hK => ?_) AllReadyH.nil
                  go_simp
                  go_at_call 24
                  with_reducible refine (unhide HC1).mono ?_
                  rintro e w7 ⟨rfl, hR7, hf7⟩
                  have HR7 := hide hR7
                  have HFR7 := hide hf7
                  clear hR7 hf7
                  go_wp2_with fail
                  refine hK.out _ _ ?_ (fun hHeld => ?_)
                  · exact held_fr (by assumption) (unhide HFR7) (by have := unhide HGR; omega) (by have e1 := World.size_alloc wr (.cells #[.int .i64 1, .int .i64 kb, .int .u32 v, .slice qa xs.length qc] 32); exact Nat.lt_of_lt_of_eq (Nat.lt_succ_self _) e1.symm)
                  clear hK K
                  try simp only [Act.put, List.setIfInBounds_toArray, List.set_cons_zero, List.set_cons_succ]
                  refine wpAnyH_take (i := 4) (oi := { dst := some 85, op := Op.convert 30 53 (Operand.tmp 84), type := 53, pos := "law.go:133", after := #[{ on := 3, ground := Ground.data }], guard := none }) (v := ?_) rfl (by kernel_rfl) (by kernel_rfl) (by kernel_rfl) (fun _ _ _ h => h) (Or.inl ⟨by rfl, ?_⟩) (by assumption) ?_
                  rotate_left
                  · intro w hSw
                    go_simp
                    try with_reducible rfl
                  try simp only [Act.put, List.setIfInBounds_toArray, List.set_cons_zero, List.set_cons_succ]
                  refine wpAnyH_take (i := 13) (oi := { dst := some 94, op := Op.binOp BinOp.neq 53 (Operand.tmp 85) (Operand.tmp 93) 53, type := 4, pos := "law.go:133", after := #[{ on := 4, ground := Ground.data }, { on := 12, ground := Ground.data }], guard := none }) (v := ?_) rfl (by kernel_rfl) (by kernel_rfl) (by kernel_rfl) (fun _ _ _ h => h) (Or.inl ⟨by rfl, ?_⟩) (by assumption) ?_
                  rotate_left
                  · intro w hSw
                    go_simp
                    try with_reducible rfl
                  try simp only [Act.put, List.setIfInBounds_toArray, List.set_cons_zero, List.set_cons_succ]
                  refine wpAnyH_done (by kernel_rfl) ?_ _
                  have HKF := hide (k_any (unhide HKP).drew (unhide HFR7) (unhide HGR))
                  have hszf : gr < w7.heap.size := Nat.lt_of_lt_of_le (unhide HSZ) (unhide HFR7).2.2.2.1
                  have HSZF := hide hszf
                  clear hHeld hszf
                  go_wp2
                  exact ⟨⟨j + 1, by omega, by go_num, unhide HKF, unhide HSZF, unhide HR7⟩, by simp [intOf]; omega⟩
                · have hKe : clampN x = 32 := by omega
                  rw [hKe, show (2 : Int) ^ 32 - 1 = 4294967295 from by decide] at hand
                  rw [hKe] at hpw hp0 hr1
                  clear hKe
                  have m1 : IntKind.u64.wrap 32 = 32 := by decide
                  have m2 : IntKind.u64.wrap 4294967296 = 4294967296 := by decide
                  have m3 : IntKind.u64.wrap 4294967295 = 4294967295 := by decide
                  go_wp2
                  all_goals first
                    | (exfalso; omega)
                    | skip
                  refine wp_region_held_drew (S := fun w' => (∀ i, w'.cell? ⟨wr.heap.size, i, none⟩ = (#[.int .i64 1, .int .i64 x, .int .u32 v, .slice qa xs.length qc] : Array Value)[i]?) ∧ True) (by kernel_rfl) ?_ (fun hHeld => ?_)
                  · exact ⟨(unhide HOB).drew.cell, trivial⟩
                  refine wpAnyH_take (i := 0) (oi := { dst := some 81, op := Op.move (Operand.tmp 6), type := 43, pos := "law.go:133", after := #[], guard := none }) (v := ?_) rfl (by kernel_rfl) (by kernel_rfl) (by kernel_rfl) (fun _ _ _ h => h) (Or.inl ⟨by rfl, ?_⟩) (by assumption) ?_
                  rotate_left
                  · intro w hSw
                    go_simp
                    try with_reducible rfl
                  try simp only [Act.put, List.setIfInBounds_toArray, List.set_cons_zero, List.set_cons_succ]
                  refine wpAnyH_take (i := 1) (oi := { dst := some 82, op := Op.fieldAddr 32 (Operand.tmp 8) 1, type := 0, pos := "law.go:133", after := #[], guard := none }) (v := ?_) rfl (by kernel_rfl) (by kernel_rfl) (by kernel_rfl) (fun _ _ _ h => h) (Or.inl ⟨by rfl, ?_⟩) (by assumption) ?_
                  rotate_left
                  · intro w hSw
                    go_simp
                    try with_reducible rfl
                  try simp only [Act.put, List.setIfInBounds_toArray, List.set_cons_zero, List.set_cons_succ]
                  refine wpAnyH_take (i := 2) (oi := { dst := some 83, op := Op.load 3 (Operand.tmp 82), type := 3, pos := "law.go:133", after := #[{ on := 1, ground := Ground.data }], guard := none }) (v := ?_) rfl (by kernel_rfl) (by kernel_rfl) (by kernel_rfl) (fun _ _ _ h => h) (Or.inl ⟨by rfl, ?_⟩) (by assumption) ?_
                  rotate_left
                  · intro w hSw
                    go_simp
                    try with_reducible rfl
                  try simp only [Act.put, List.setIfInBounds_toArray, List.set_cons_zero, List.set_cons_succ]
                  refine wpAnyH_take (i := 5) (oi := { dst := some 86, op := Op.fieldAddr 32 (Operand.tmp 8) 2, type := 0, pos := "law.go:133", after := #[], guard := none }) (v := ?_) rfl (by kernel_rfl) (by kernel_rfl) (by kernel_rfl) (fun _ _ _ h => h) (Or.inl ⟨by rfl, ?_⟩) (by assumption) ?_
                  rotate_left
                  · intro w hSw
                    go_simp
                    try with_reducible rfl
                  try simp only [Act.put, List.setIfInBounds_toArray, List.set_cons_zero, List.set_cons_succ]
                  refine wpAnyH_take (i := 6) (oi := { dst := some 87, op := Op.load 30 (Operand.tmp 86), type := 30, pos := "law.go:133", after := #[{ on := 5, ground := Ground.data }], guard := none }) (v := ?_) rfl (by kernel_rfl) (by kernel_rfl) (by kernel_rfl) (fun _ _ _ h => h) (Or.inl ⟨by rfl, ?_⟩) (by assumption) ?_
                  rotate_left
                  · intro w hSw
                    go_simp
                    try with_reducible rfl
                  try simp only [Act.put, List.setIfInBounds_toArray, List.set_cons_zero, List.set_cons_succ]
                  refine wpAnyH_take (i := 7) (oi := { dst := some 88, op := Op.convert 30 53 (Operand.tmp 87), type := 53, pos := "law.go:133", after := #[{ on := 6, ground := Ground.data }], guard := none }) (v := ?_) rfl (by kernel_rfl) (by kernel_rfl) (by kernel_rfl) (fun _ _ _ h => h) (Or.inl ⟨by rfl, ?_⟩) (by assumption) ?_
                  rotate_left
                  · intro w hSw
                    go_simp
                    try with_reducible rfl
                  try simp only [Act.put, List.setIfInBounds_toArray, List.set_cons_zero, List.set_cons_succ]
                  refine wpAnyH_take (i := 8) (oi := { dst := some 89, op := Op.move (Operand.tmp 9), type := 3, pos := "law.go:133", after := #[], guard := none }) (v := ?_) rfl (by kernel_rfl) (by kernel_rfl) (by kernel_rfl) (fun _ _ _ h => h) (Or.inl ⟨by rfl, ?_⟩) (by assumption) ?_
                  rotate_left
                  · intro w hSw
                    go_simp
                    try with_reducible rfl
                  try simp only [Act.put, List.setIfInBounds_toArray, List.set_cons_zero, List.set_cons_succ]
                  refine wpAnyH_take (i := 9) (oi := { dst := some 90, op := Op.convert 3 54 (Operand.tmp 89), type := 54, pos := "law.go:133", after := #[{ on := 8, ground := Ground.data }], guard := none }) (v := ?_) rfl (by kernel_rfl) (by kernel_rfl) (by kernel_rfl) (fun _ _ _ h => h) (Or.inl ⟨by rfl, ?_⟩) (by assumption) ?_
                  rotate_left
                  · intro w hSw
                    go_simp
                    try with_reducible rfl
                  try simp only [Act.put, List.setIfInBounds_toArray, List.set_cons_zero, List.set_cons_succ]
                  refine wpAnyH_take (i := 10) (oi := { dst := some 91, op := Op.binOp BinOp.shl 53 (Operand.const (Value.int IntKind.u64 1)) (Operand.tmp 90) 54, type := 53, pos := "law.go:133", after := #[{ on := 9, ground := Ground.data }], guard := none }) (v := ?_) rfl (by kernel_rfl) (by kernel_rfl) (by kernel_rfl) (fun _ _ _ h => h) (Or.inl ⟨by rfl, ?_⟩) (by assumption) ?_
                  rotate_left
                  · intro w hSw
                    go_simp
                    try with_reducible rfl
                  try simp only [Act.put, List.setIfInBounds_toArray, List.set_cons_zero, List.set_cons_succ]
                  refine wpAnyH_take (i := 11) (oi := { dst := some 92, op := Op.binOp BinOp.sub 53 (Operand.tmp 91) (Operand.const (Value.int IntKind.u64 1)) 53, type := 53, pos := "law.go:133", after := #[{ on := 10, ground := Ground.data }], guard := none }) (v := ?_) rfl (by kernel_rfl) (by kernel_rfl) (by kernel_rfl) (fun _ _ _ h => h) (Or.inl ⟨by rfl, ?_⟩) (by assumption) ?_
                  rotate_left
                  · intro w hSw
                    go_simp
                    try with_reducible rfl
                  try simp only [Act.put, List.setIfInBounds_toArray, List.set_cons_zero, List.set_cons_succ]
                  refine wpAnyH_take (i := 12) (oi := { dst := some 93, op := Op.binOp BinOp.and 53 (Operand.tmp 88) (Operand.tmp 92) 53, type := 53, pos := "law.go:133", after := #[{ on := 7, ground := Ground.data }, { on := 11, ground := Ground.data }], guard := none }) (v := ?_) rfl (by kernel_rfl) (by kernel_rfl) (by kernel_rfl) (fun _ _ _ h => h) (Or.inl ⟨by rfl, ?_⟩) (by assumption) ?_
                  rotate_left
                  · intro w hSw
                    go_simp
                    try with_reducible rfl
                  try simp only [Act.put, List.setIfInBounds_toArray, List.set_cons_zero, List.set_cons_succ]
                  refine wpAnyH_ready (rs := [3]) (by kernel_rfl) (by simp) ?_
                  refine AllReadyH.cons (o := { dst := some 84, op := Op.call { callee := Callee.value (Operand.func 24), args := #[Operand.tmp 81, Operand.tmp 83], argTypes := #[43, 3] }, type := 30, pos := "law.go:133", after := #[{ on := 0, ground := Ground.data }, { on := 2, ground := Ground.data }], guard := none }) rfl (fun K hK => ?_) AllReadyH.nil
                  go_simp
                  go_at_call 24
                  with_reducible refine (unhide HC1).mono ?_
                  rintro e w7 ⟨rfl, hR7, hf7⟩
                  have HR7 := hide hR7
                  have HFR7 := hide hf7
                  clear hR7 hf7
                  go_wp2_with fail
                  refine hK.out _ _ ?_ (fun hHeld => ?_)
                  · exact held_fr (by assumption) (unhide HFR7) (by have := unhide HGR; omega) (by have e1 := World.size_alloc wr (.cells #[.int .i64 1, .int .i64 x, .int .u32 v, .slice qa xs.length qc] 32); exact Nat.lt_of_lt_of_eq (Nat.lt_succ_self _) e1.symm)
                  clear hK K
                  try simp only [Act.put, List.setIfInBounds_toArray, List.set_cons_zero, List.set_cons_succ]
                  refine wpAnyH_take (i := 4) (oi := { dst := some 85, op := Op.convert 30 53 (Operand.tmp 84), type := 53, pos := "law.go:133", after := #[{ on := 3, ground := Ground.data }], guard := none }) (v := ?_) rfl (by kernel_rfl) (by kernel_rfl) (by kernel_rfl) (fun _ _ _ h => h) (Or.inl ⟨by rfl, ?_⟩) (by assumption) ?_
                  rotate_left
                  · intro w hSw
                    go_simp
                    try with_reducible rfl
                  try simp only [Act.put, List.setIfInBounds_toArray, List.set_cons_zero, List.set_cons_succ]
                  refine wpAnyH_take (i := 13) (oi := { dst := some 94, op := Op.binOp BinOp.neq 53 (Operand.tmp 85) (Operand.tmp 93) 53, type := 4, pos := "law.go:133", after := #[{ on := 4, ground := Ground.data }, { on := 12, ground := Ground.data }], guard := none }) (v := ?_) rfl (by kernel_rfl) (by kernel_rfl) (by kernel_rfl) (fun _ _ _ h => h) (Or.inl ⟨by rfl, ?_⟩) (by assumption) ?_
                  rotate_left
                  · intro w hSw
                    go_simp
                    try with_reducible rfl
                  try simp only [Act.put, List.setIfInBounds_toArray, List.set_cons_zero, List.set_cons_succ]
                  refine wpAnyH_done (by kernel_rfl) ?_ _
                  have HKF := hide (k_any (unhide HKP).drew (unhide HFR7) (unhide HGR))
                  have hszf : gr < w7.heap.size := Nat.lt_of_lt_of_le (unhide HSZ) (unhide HFR7).2.2.2.1
                  have HSZF := hide hszf
                  clear hHeld hszf
                  go_wp2
                  exact ⟨⟨j + 1, by omega, by go_num, unhide HKF, unhide HSZF, unhide HR7⟩, by simp [intOf]; omega⟩
              · have hKe : clampN x = 0 := by omega
                rw [hKe, show (2 : Int) ^ 0 - 1 = 0 from by decide] at hand
                rw [hKe] at hpw hp0 hr1
                clear hKe
                have m1 : IntKind.u64.wrap 0 = 0 := by decide
                have m2 : IntKind.u64.wrap 1 = 1 := by decide
                by_cases hx0 : x = 0
                · subst hx0
                  go_wp2
                  refine wp_region_held_drew (S := fun w' => (∀ i, w'.cell? ⟨wr.heap.size, i, none⟩ = (#[.int .i64 1, .int .i64 0, .int .u32 v, .slice qa xs.length qc] : Array Value)[i]?) ∧ True) (by kernel_rfl) ?_ (fun hHeld => ?_)
                  · exact ⟨(unhide HOB).drew.cell, trivial⟩
                  refine wpAnyH_take (i := 0) (oi := { dst := some 81, op := Op.move (Operand.tmp 6), type := 43, pos := "law.go:133", after := #[], guard := none }) (v := ?_) rfl (by kernel_rfl) (by kernel_rfl) (by kernel_rfl) (fun _ _ _ h => h) (Or.inl ⟨by rfl, ?_⟩) (by assumption) ?_
                  rotate_left
                  · intro w hSw
                    go_simp
                    try with_reducible rfl
                  try simp only [Act.put, List.setIfInBounds_toArray, List.set_cons_zero, List.set_cons_succ]
                  refine wpAnyH_take (i := 1) (oi := { dst := some 82, op := Op.fieldAddr 32 (Operand.tmp 8) 1, type := 0, pos := "law.go:133", after := #[], guard := none }) (v := ?_) rfl (by kernel_rfl) (by kernel_rfl) (by kernel_rfl) (fun _ _ _ h => h) (Or.inl ⟨by rfl, ?_⟩) (by assumption) ?_
                  rotate_left
                  · intro w hSw
                    go_simp
                    try with_reducible rfl
                  try simp only [Act.put, List.setIfInBounds_toArray, List.set_cons_zero, List.set_cons_succ]
                  refine wpAnyH_take (i := 2) (oi := { dst := some 83, op := Op.load 3 (Operand.tmp 82), type := 3, pos := "law.go:133", after := #[{ on := 1, ground := Ground.data }], guard := none }) (v := ?_) rfl (by kernel_rfl) (by kernel_rfl) (by kernel_rfl) (fun _ _ _ h => h) (Or.inl ⟨by rfl, ?_⟩) (by assumption) ?_
                  rotate_left
                  · intro w hSw
                    go_simp
                    try with_reducible rfl
                  try simp only [Act.put, List.setIfInBounds_toArray, List.set_cons_zero, List.set_cons_succ]
                  refine wpAnyH_take (i := 5) (oi := { dst := some 86, op := Op.fieldAddr 32 (Operand.tmp 8) 2, type := 0, pos := "law.go:133", after := #[], guard := none }) (v := ?_) rfl (by kernel_rfl) (by kernel_rfl) (by kernel_rfl) (fun _ _ _ h => h) (Or.inl ⟨by rfl, ?_⟩) (by assumption) ?_
                  rotate_left
                  · intro w hSw
                    go_simp
                    try with_reducible rfl
                  try simp only [Act.put, List.setIfInBounds_toArray, List.set_cons_zero, List.set_cons_succ]
                  refine wpAnyH_take (i := 6) (oi := { dst := some 87, op := Op.load 30 (Operand.tmp 86), type := 30, pos := "law.go:133", after := #[{ on := 5, ground := Ground.data }], guard := none }) (v := ?_) rfl (by kernel_rfl) (by kernel_rfl) (by kernel_rfl) (fun _ _ _ h => h) (Or.inl ⟨by rfl, ?_⟩) (by assumption) ?_
                  rotate_left
                  · intro w hSw
                    go_simp
                    try with_reducible rfl
                  try simp only [Act.put, List.setIfInBounds_toArray, List.set_cons_zero, List.set_cons_succ]
                  refine wpAnyH_take (i := 7) (oi := { dst := some 88, op := Op.convert 30 53 (Operand.tmp 87), type := 53, pos := "law.go:133", after := #[{ on := 6, ground := Ground.data }], guard := none }) (v := ?_) rfl (by kernel_rfl) (by kernel_rfl) (by kernel_rfl) (fun _ _ _ h => h) (Or.inl ⟨by rfl, ?_⟩) (by assumption) ?_
                  rotate_left
                  · intro w hSw
                    go_simp
                    try with_reducible rfl
                  try simp only [Act.put, List.setIfInBounds_toArray, List.set_cons_zero, List.set_cons_succ]
                  refine wpAnyH_take (i := 8) (oi := { dst := some 89, op := Op.move (Operand.tmp 9), type := 3, pos := "law.go:133", after := #[], guard := none }) (v := ?_) rfl (by kernel_rfl) (by kernel_rfl) (by kernel_rfl) (fun _ _ _ h => h) (Or.inl ⟨by rfl, ?_⟩) (by assumption) ?_
                  rotate_left
                  · intro w hSw
                    go_simp
                    try with_reducible rfl
                  try simp only [Act.put, List.setIfInBounds_toArray, List.set_cons_zero, List.set_cons_succ]
                  refine wpAnyH_take (i := 9) (oi := { dst := some 90, op := Op.convert 3 54 (Operand.tmp 89), type := 54, pos := "law.go:133", after := #[{ on := 8, ground := Ground.data }], guard := none }) (v := ?_) rfl (by kernel_rfl) (by kernel_rfl) (by kernel_rfl) (fun _ _ _ h => h) (Or.inl ⟨by rfl, ?_⟩) (by assumption) ?_
                  rotate_left
                  · intro w hSw
                    go_simp
                    try with_reducible rfl
                  try simp only [Act.put, List.setIfInBounds_toArray, List.set_cons_zero, List.set_cons_succ]
                  refine wpAnyH_take (i := 10) (oi := { dst := some 91, op := Op.binOp BinOp.shl 53 (Operand.const (Value.int IntKind.u64 1)) (Operand.tmp 90) 54, type := 53, pos := "law.go:133", after := #[{ on := 9, ground := Ground.data }], guard := none }) (v := ?_) rfl (by kernel_rfl) (by kernel_rfl) (by kernel_rfl) (fun _ _ _ h => h) (Or.inl ⟨by rfl, ?_⟩) (by assumption) ?_
                  rotate_left
                  · intro w hSw
                    go_simp
                    try with_reducible rfl
                  try simp only [Act.put, List.setIfInBounds_toArray, List.set_cons_zero, List.set_cons_succ]
                  refine wpAnyH_take (i := 11) (oi := { dst := some 92, op := Op.binOp BinOp.sub 53 (Operand.tmp 91) (Operand.const (Value.int IntKind.u64 1)) 53, type := 53, pos := "law.go:133", after := #[{ on := 10, ground := Ground.data }], guard := none }) (v := ?_) rfl (by kernel_rfl) (by kernel_rfl) (by kernel_rfl) (fun _ _ _ h => h) (Or.inl ⟨by rfl, ?_⟩) (by assumption) ?_
                  rotate_left
                  · intro w hSw
                    go_simp
                    try with_reducible rfl
                  try simp only [Act.put, List.setIfInBounds_toArray, List.set_cons_zero, List.set_cons_succ]
                  refine wpAnyH_take (i := 12) (oi := { dst := some 93, op := Op.binOp BinOp.and 53 (Operand.tmp 88) (Operand.tmp 92) 53, type := 53, pos := "law.go:133", after := #[{ on := 7, ground := Ground.data }, { on := 11, ground := Ground.data }], guard := none }) (v := ?_) rfl (by kernel_rfl) (by kernel_rfl) (by kernel_rfl) (fun _ _ _ h => h) (Or.inl ⟨by rfl, ?_⟩) (by assumption) ?_
                  rotate_left
                  · intro w hSw
                    go_simp
                    try with_reducible rfl
                  try simp only [Act.put, List.setIfInBounds_toArray, List.set_cons_zero, List.set_cons_succ]
                  refine wpAnyH_ready (rs := [3]) (by kernel_rfl) (by simp) ?_
                  refine AllReadyH.cons (o := { dst := some 84, op := Op.call { callee := Callee.value (Operand.func 24), args := #[Operand.tmp 81, Operand.tmp 83], argTypes := #[43, 3] }, type := 30, pos := "law.go:133", after := #[{ on := 0, ground := Ground.data }, { on := 2, ground := Ground.data }], guard := none }) rfl (fun K hK => ?_) AllReadyH.nil
                  go_simp
                  go_at_call 24
                  with_reducible refine (unhide HC1).mono ?_
                  rintro e w7 ⟨rfl, hR7, hf7⟩
                  have HR7 := hide hR7
                  have HFR7 := hide hf7
                  clear hR7 hf7
                  go_wp2_with fail
                  refine hK.out _ _ ?_ (fun hHeld => ?_)
                  · exact held_fr (by assumption) (unhide HFR7) (by have := unhide HGR; omega) (by have e1 := World.size_alloc wr (.cells #[.int .i64 1, .int .i64 0, .int .u32 v, .slice qa xs.length qc] 32); exact Nat.lt_of_lt_of_eq (Nat.lt_succ_self _) e1.symm)
                  clear hK K
                  try simp only [Act.put, List.setIfInBounds_toArray, List.set_cons_zero, List.set_cons_succ]
                  refine wpAnyH_take (i := 4) (oi := { dst := some 85, op := Op.convert 30 53 (Operand.tmp 84), type := 53, pos := "law.go:133", after := #[{ on := 3, ground := Ground.data }], guard := none }) (v := ?_) rfl (by kernel_rfl) (by kernel_rfl) (by kernel_rfl) (fun _ _ _ h => h) (Or.inl ⟨by rfl, ?_⟩) (by assumption) ?_
                  rotate_left
                  · intro w hSw
                    go_simp
                    try with_reducible rfl
                  try simp only [Act.put, List.setIfInBounds_toArray, List.set_cons_zero, List.set_cons_succ]
                  refine wpAnyH_take (i := 13) (oi := { dst := some 94, op := Op.binOp BinOp.neq 53 (Operand.tmp 85) (Operand.tmp 93) 53, type := 4, pos := "law.go:133", after := #[{ on := 4, ground := Ground.data }, { on := 12, ground := Ground.data }], guard := none }) (v := ?_) rfl (by kernel_rfl) (by kernel_rfl) (by kernel_rfl) (fun _ _ _ h => h) (Or.inl ⟨by rfl, ?_⟩) (by assumption) ?_
                  rotate_left
                  · intro w hSw
                    go_simp
                    try with_reducible rfl
                  try simp only [Act.put, List.setIfInBounds_toArray, List.set_cons_zero, List.set_cons_succ]
                  refine wpAnyH_done (by kernel_rfl) ?_ _
                  have HKF := hide (k_any (unhide HKP).drew (unhide HFR7) (unhide HGR))
                  have hszf : gr < w7.heap.size := Nat.lt_of_lt_of_le (unhide HSZ) (unhide HFR7).2.2.2.1
                  have HSZF := hide hszf
                  clear hHeld hszf
                  go_wp2
                  exact ⟨⟨j + 1, by omega, by go_num, unhide HKF, unhide HSZF, unhide HR7⟩, by simp [intOf]; omega⟩
                · have hxn : x < 0 := by omega
                  clear hx hx0
                  go_wp2
                  all_goals first
                    | (exfalso; omega)
                    | skip
                  refine wp_region_held_drew (S := fun w' => (∀ i, w'.cell? ⟨wr.heap.size, i, none⟩ = (#[.int .i64 1, .int .i64 x, .int .u32 v, .slice qa xs.length qc] : Array Value)[i]?) ∧ True) (by kernel_rfl) ?_ (fun hHeld => ?_)
                  · exact ⟨(unhide HOB).drew.cell, trivial⟩
                  refine wpAnyH_take (i := 0) (oi := { dst := some 81, op := Op.move (Operand.tmp 6), type := 43, pos := "law.go:133", after := #[], guard := none }) (v := ?_) rfl (by kernel_rfl) (by kernel_rfl) (by kernel_rfl) (fun _ _ _ h => h) (Or.inl ⟨by rfl, ?_⟩) (by assumption) ?_
                  rotate_left
                  · intro w hSw
                    go_simp
                    try with_reducible rfl
                  try simp only [Act.put, List.setIfInBounds_toArray, List.set_cons_zero, List.set_cons_succ]
                  refine wpAnyH_take (i := 1) (oi := { dst := some 82, op := Op.fieldAddr 32 (Operand.tmp 8) 1, type := 0, pos := "law.go:133", after := #[], guard := none }) (v := ?_) rfl (by kernel_rfl) (by kernel_rfl) (by kernel_rfl) (fun _ _ _ h => h) (Or.inl ⟨by rfl, ?_⟩) (by assumption) ?_
                  rotate_left
                  · intro w hSw
                    go_simp
                    try with_reducible rfl
                  try simp only [Act.put, List.setIfInBounds_toArray, List.set_cons_zero, List.set_cons_succ]
                  refine wpAnyH_take (i := 2) (oi := { dst := some 83, op := Op.load 3 (Operand.tmp 82), type := 3, pos := "law.go:133", after := #[{ on := 1, ground := Ground.data }], guard := none }) (v := ?_) rfl (by kernel_rfl) (by kernel_rfl) (by kernel_rfl) (fun _ _ _ h => h) (Or.inl ⟨by rfl, ?_⟩) (by assumption) ?_
                  rotate_left
                  · intro w hSw
                    go_simp
                    try with_reducible rfl
                  try simp only [Act.put, List.setIfInBounds_toArray, List.set_cons_zero, List.set_cons_succ]
                  refine wpAnyH_take (i := 5) (oi := { dst := some 86, op := Op.fieldAddr 32 (Operand.tmp 8) 2, type := 0, pos := "law.go:133", after := #[], guard := none }) (v := ?_) rfl (by kernel_rfl) (by kernel_rfl) (by kernel_rfl) (fun _ _ _ h => h) (Or.inl ⟨by rfl, ?_⟩) (by assumption) ?_
                  rotate_left
                  · intro w hSw
                    go_simp
                    try with_reducible rfl
                  try simp only [Act.put, List.setIfInBounds_toArray, List.set_cons_zero, List.set_cons_succ]
                  refine wpAnyH_take (i := 6) (oi := { dst := some 87, op := Op.load 30 (Operand.tmp 86), type := 30, pos := "law.go:133", after := #[{ on := 5, ground := Ground.data }], guard := none }) (v := ?_) rfl (by kernel_rfl) (by kernel_rfl) (by kernel_rfl) (fun _ _ _ h => h) (Or.inl ⟨by rfl, ?_⟩) (by assumption) ?_
                  rotate_left
                  · intro w hSw
                    go_simp
                    try with_reducible rfl
                  try simp only [Act.put, List.setIfInBounds_toArray, List.set_cons_zero, List.set_cons_succ]
                  refine wpAnyH_take (i := 7) (oi := { dst := some 88, op := Op.convert 30 53 (Operand.tmp 87), type := 53, pos := "law.go:133", after := #[{ on := 6, ground := Ground.data }], guard := none }) (v := ?_) rfl (by kernel_rfl) (by kernel_rfl) (by kernel_rfl) (fun _ _ _ h => h) (Or.inl ⟨by rfl, ?_⟩) (by assumption) ?_
                  rotate_left
                  · intro w hSw
                    go_simp
                    try with_reducible rfl
                  try simp only [Act.put, List.setIfInBounds_toArray, List.set_cons_zero, List.set_cons_succ]
                  refine wpAnyH_take (i := 8) (oi := { dst := some 89, op := Op.move (Operand.tmp 9), type := 3, pos := "law.go:133", after := #[], guard := none }) (v := ?_) rfl (by kernel_rfl) (by kernel_rfl) (by kernel_rfl) (fun _ _ _ h => h) (Or.inl ⟨by rfl, ?_⟩) (by assumption) ?_
                  rotate_left
                  · intro w hSw
                    go_simp
                    try with_reducible rfl
                  try simp only [Act.put, List.setIfInBounds_toArray, List.set_cons_zero, List.set_cons_succ]
                  refine wpAnyH_take (i := 9) (oi := { dst := some 90, op := Op.convert 3 54 (Operand.tmp 89), type := 54, pos := "law.go:133", after := #[{ on := 8, ground := Ground.data }], guard := none }) (v := ?_) rfl (by kernel_rfl) (by kernel_rfl) (by kernel_rfl) (fun _ _ _ h => h) (Or.inl ⟨by rfl, ?_⟩) (by assumption) ?_
                  rotate_left
                  · intro w hSw
                    go_simp
                    try with_reducible rfl
                  try simp only [Act.put, List.setIfInBounds_toArray, List.set_cons_zero, List.set_cons_succ]
                  refine wpAnyH_take (i := 10) (oi := { dst := some 91, op := Op.binOp BinOp.shl 53 (Operand.const (Value.int IntKind.u64 1)) (Operand.tmp 90) 54, type := 53, pos := "law.go:133", after := #[{ on := 9, ground := Ground.data }], guard := none }) (v := ?_) rfl (by kernel_rfl) (by kernel_rfl) (by kernel_rfl) (fun _ _ _ h => h) (Or.inl ⟨by rfl, ?_⟩) (by assumption) ?_
                  rotate_left
                  · intro w hSw
                    go_simp
                    try with_reducible rfl
                  try simp only [Act.put, List.setIfInBounds_toArray, List.set_cons_zero, List.set_cons_succ]
                  refine wpAnyH_take (i := 11) (oi := { dst := some 92, op := Op.binOp BinOp.sub 53 (Operand.tmp 91) (Operand.const (Value.int IntKind.u64 1)) 53, type := 53, pos := "law.go:133", after := #[{ on := 10, ground := Ground.data }], guard := none }) (v := ?_) rfl (by kernel_rfl) (by kernel_rfl) (by kernel_rfl) (fun _ _ _ h => h) (Or.inl ⟨by rfl, ?_⟩) (by assumption) ?_
                  rotate_left
                  · intro w hSw
                    go_simp
                    try with_reducible rfl
                  try simp only [Act.put, List.setIfInBounds_toArray, List.set_cons_zero, List.set_cons_succ]
                  refine wpAnyH_take (i := 12) (oi := { dst := some 93, op := Op.binOp BinOp.and 53 (Operand.tmp 88) (Operand.tmp 92) 53, type := 53, pos := "law.go:133", after := #[{ on := 7, ground := Ground.data }, { on := 11, ground := Ground.data }], guard := none }) (v := ?_) rfl (by kernel_rfl) (by kernel_rfl) (by kernel_rfl) (fun _ _ _ h => h) (Or.inl ⟨by rfl, ?_⟩) (by assumption) ?_
                  rotate_left
                  · intro w hSw
                    go_simp
                    try with_reducible rfl
                  try simp only [Act.put, List.setIfInBounds_toArray, List.set_cons_zero, List.set_cons_succ]
                  refine wpAnyH_ready (rs := [3]) (by kernel_rfl) (by simp) ?_
                  refine AllReadyH.cons (o := { dst := some 84, op := Op.call { callee := Callee.value (Operand.func 24), args := #[Operand.tmp 81, Operand.tmp 83], argTypes := #[43, 3] }, type := 30, pos := "law.go:133", after := #[{ on := 0, ground := Ground.data }, { on := 2, ground := Ground.data }], guard := none }) rfl (fun K hK => ?_) AllReadyH.nil
                  go_simp
                  go_at_call 24
                  with_reducible refine (unhide HC1).mono ?_
                  rintro e w7 ⟨rfl, hR7, hf7⟩
                  have HR7 := hide hR7
                  have HFR7 := hide hf7
                  clear hR7 hf7
                  go_wp2_with fail
                  refine hK.out _ _ ?_ (fun hHeld => ?_)
                  · exact held_fr (by assumption) (unhide HFR7) (by have := unhide HGR; omega) (by have e1 := World.size_alloc wr (.cells #[.int .i64 1, .int .i64 x, .int .u32 v, .slice qa xs.length qc] 32); exact Nat.lt_of_lt_of_eq (Nat.lt_succ_self _) e1.symm)
                  clear hK K
                  try simp only [Act.put, List.setIfInBounds_toArray, List.set_cons_zero, List.set_cons_succ]
                  refine wpAnyH_take (i := 4) (oi := { dst := some 85, op := Op.convert 30 53 (Operand.tmp 84), type := 53, pos := "law.go:133", after := #[{ on := 3, ground := Ground.data }], guard := none }) (v := ?_) rfl (by kernel_rfl) (by kernel_rfl) (by kernel_rfl) (fun _ _ _ h => h) (Or.inl ⟨by rfl, ?_⟩) (by assumption) ?_
                  rotate_left
                  · intro w hSw
                    go_simp
                    try with_reducible rfl
                  try simp only [Act.put, List.setIfInBounds_toArray, List.set_cons_zero, List.set_cons_succ]
                  refine wpAnyH_take (i := 13) (oi := { dst := some 94, op := Op.binOp BinOp.neq 53 (Operand.tmp 85) (Operand.tmp 93) 53, type := 4, pos := "law.go:133", after := #[{ on := 4, ground := Ground.data }, { on := 12, ground := Ground.data }], guard := none }) (v := ?_) rfl (by kernel_rfl) (by kernel_rfl) (by kernel_rfl) (fun _ _ _ h => h) (Or.inl ⟨by rfl, ?_⟩) (by assumption) ?_
                  rotate_left
                  · intro w hSw
                    go_simp
                    try with_reducible rfl
                  try simp only [Act.put, List.setIfInBounds_toArray, List.set_cons_zero, List.set_cons_succ]
                  refine wpAnyH_done (by kernel_rfl) ?_ _
                  have HKF := hide (k_any (unhide HKP).drew (unhide HFR7) (unhide HGR))
                  have hszf : gr < w7.heap.size := Nat.lt_of_lt_of_le (unhide HSZ) (unhide HFR7).2.2.2.1
                  have HSZF := hide hszf
                  clear hHeld hszf
                  go_wp2
                  exact ⟨⟨j + 1, by omega, by go_num, unhide HKF, unhide HSZF, unhide HR7⟩, by simp [intOf]; omega⟩
            · have e1 : (kind == 1) = false := beq_eq_false_iff_ne.2 h1
              by_cases h2 : kind = 2
              · subst h2
                clear h1 e1
                by_cases hbig : 200 < xs.length
                · obtain ⟨b1, _⟩ := opK_big (2, x, v, qa, qc, xs) rfl hbig 0
                  rw [b1, Nat.add_zero] at HSK
                  have hbi : ¬ ((xs.length : Int) ≤ 200) := by omega
                  have hbd : decide ((xs.length : Int) ≤ 200) = false := decide_eq_false hbi
                  clear b1
                  go_wp2
                  refine wp_region_held_drew (S := fun w' => (∀ i, w'.cell? ⟨wr.heap.size, i, none⟩ = (#[.int .i64 2, .int .i64 x, .int .u32 v, .slice qa xs.length qc] : Array Value)[i]?) ∧ True) (by kernel_rfl) ?_ (fun hHeld => ?_)
                  · exact ⟨(unhide HOB).drew.cell, trivial⟩
                  refine wpAnyH_take (i := 0) (oi := { dst := some 97, op := Op.fieldAddr 32 (Operand.tmp 8) 3, type := 0, pos := "law.go:137", after := #[], guard := none }) (v := ?_) rfl (by kernel_rfl) (by kernel_rfl) (by kernel_rfl) (fun _ _ _ h => h) (Or.inl ⟨by rfl, ?_⟩) (by assumption) ?_
                  rotate_left
                  · intro w hSw
                    go_simp
                    try with_reducible rfl
                  try simp only [Act.put, List.setIfInBounds_toArray, List.set_cons_zero, List.set_cons_succ]
                  refine wpAnyH_take (i := 1) (oi := { dst := some 98, op := Op.load 23 (Operand.tmp 97), type := 23, pos := "law.go:137", after := #[{ on := 0, ground := Ground.data }], guard := none }) (v := ?_) rfl (by kernel_rfl) (by kernel_rfl) (by kernel_rfl) (fun _ _ _ h => h) (Or.inl ⟨by rfl, ?_⟩) (by assumption) ?_
                  rotate_left
                  · intro w hSw
                    go_simp
                    try with_reducible rfl
                  try simp only [Act.put, List.setIfInBounds_toArray, List.set_cons_zero, List.set_cons_succ]
                  refine wpAnyH_take (i := 2) (oi := { dst := some 99, op := Op.call { callee := Callee.builtin Builtin.len, args := #[Operand.tmp 98], argTypes := #[23] }, type := 3, pos := "law.go:137", after := #[{ on := 1, ground := Ground.data }], guard := none }) (v := ?_) rfl (by kernel_rfl) (by kernel_rfl) (by kernel_rfl) (fun _ _ _ h => h) (Or.inl ⟨by rfl, ?_⟩) (by assumption) ?_
                  rotate_left
                  · intro w hSw
                    go_simp
                    try with_reducible rfl
                  try simp only [Act.put, List.setIfInBounds_toArray, List.set_cons_zero, List.set_cons_succ]
                  refine wpAnyH_take (i := 3) (oi := { dst := some 100, op := Op.binOp BinOp.leq 3 (Operand.tmp 99) (Operand.const (Value.int IntKind.i64 200)) 3, type := 4, pos := "law.go:137", after := #[{ on := 2, ground := Ground.data }], guard := none }) (v := ?_) rfl (by kernel_rfl) (by kernel_rfl) (by kernel_rfl) (fun _ _ _ h => h) (Or.inl ⟨by rfl, ?_⟩) (by assumption) ?_
                  rotate_left
                  · intro w hSw
                    go_simp
                    try with_reducible rfl
                  try simp only [Act.put, List.setIfInBounds_toArray, List.set_cons_zero, List.set_cons_succ]
                  refine wpAnyH_take (i := 4) (oi := { dst := some 101, op := Op.move (Operand.tmp 100), type := 4, pos := "law.go:137", after := #[{ on := 3, ground := Ground.data }], guard := none }) (v := ?_) rfl (by kernel_rfl) (by kernel_rfl) (by kernel_rfl) (fun _ _ _ h => h) (Or.inl ⟨by rfl, ?_⟩) (by assumption) ?_
                  rotate_left
                  · intro w hSw
                    go_simp
                    try with_reducible rfl
                  try simp only [Act.put, List.setIfInBounds_toArray, List.set_cons_zero, List.set_cons_succ]
                  refine wpAnyH_take (i := 5) (oi := { dst := some 102, op := Op.move (Operand.tmp 6), type := 43, pos := "law.go:137", after := #[{ on := 4, ground := Ground.guard }], guard := some (4, true) }) rfl (by kernel_rfl) (by kernel_rfl) (by kernel_rfl) (fun _ _ _ h => h) (Or.inr ⟨by rfl, rfl⟩) (by assumption) ?_
                  try simp only [Act.put, List.setIfInBounds_toArray, List.set_cons_zero, List.set_cons_succ]
                  refine wpAnyH_take (i := 6) (oi := { dst := some 103, op := Op.fieldAddr 32 (Operand.tmp 8) 3, type := 0, pos := "law.go:137", after := #[{ on := 4, ground := Ground.guard }], guard := some (4, true) }) rfl (by kernel_rfl) (by kernel_rfl) (by kernel_rfl) (fun _ _ _ h => h) (Or.inr ⟨by rfl, rfl⟩) (by assumption) ?_
                  try simp only [Act.put, List.setIfInBounds_toArray, List.set_cons_zero, List.set_cons_succ]
                  refine wpAnyH_take (i := 7) (oi := { dst := some 104, op := Op.load 23 (Operand.tmp 103), type := 23, pos := "law.go:137", after := #[{ on := 6, ground := Ground.data }, { on := 4, ground := Ground.guard }], guard := some (4, true) }) rfl (by kernel_rfl) (by kernel_rfl) (by kernel_rfl) (fun _ _ _ h => h) (Or.inr ⟨by rfl, rfl⟩) (by assumption) ?_
                  try simp only [Act.put, List.setIfInBounds_toArray, List.set_cons_zero, List.set_cons_succ]
                  refine wpAnyH_take (i := 8) (oi := { dst := some 105, op := Op.call { callee := Callee.builtin Builtin.len, args := #[Operand.tmp 104], argTypes := #[23] }, type := 3, pos := "law.go:137", after := #[{ on := 7, ground := Ground.data }, { on := 4, ground := Ground.guard }], guard := some (4, true) }) rfl (by kernel_rfl) (by kernel_rfl) (by kernel_rfl) (fun _ _ _ h => h) (Or.inr ⟨by rfl, rfl⟩) (by assumption) ?_
                  try simp only [Act.put, List.setIfInBounds_toArray, List.set_cons_zero, List.set_cons_succ]
                  refine wpAnyH_take (i := 9) (oi := { dst := some 106, op := Op.call { callee := Callee.value (Operand.func 26), args := #[Operand.tmp 102, Operand.tmp 105], argTypes := #[43, 3] }, type := 23, pos := "law.go:137", after := #[{ on := 5, ground := Ground.data }, { on := 8, ground := Ground.data }, { on := 4, ground := Ground.chain }, { on := 4, ground := Ground.guard }], guard := some (4, true) }) rfl (by kernel_rfl) (by kernel_rfl) (by kernel_rfl) (fun _ _ _ h => h) (Or.inr ⟨by rfl, rfl⟩) (by assumption) ?_
                  try simp only [Act.put, List.setIfInBounds_toArray, List.set_cons_zero, List.set_cons_succ]
                  refine wpAnyH_take (i := 10) (oi := { dst := some 107, op := Op.fieldAddr 32 (Operand.tmp 8) 3, type := 0, pos := "law.go:137", after := #[{ on := 4, ground := Ground.guard }], guard := some (4, true) }) rfl (by kernel_rfl) (by kernel_rfl) (by kernel_rfl) (fun _ _ _ h => h) (Or.inr ⟨by rfl, rfl⟩) (by assumption) ?_
                  try simp only [Act.put, List.setIfInBounds_toArray, List.set_cons_zero, List.set_cons_succ]
                  refine wpAnyH_take (i := 11) (oi := { dst := some 108, op := Op.load 23 (Operand.tmp 107), type := 23, pos := "law.go:137", after := #[{ on := 10, ground := Ground.data }, { on := 4, ground := Ground.guard }], guard := some (4, true) }) rfl (by kernel_rfl) (by kernel_rfl) (by kernel_rfl) (fun _ _ _ h => h) (Or.inr ⟨by rfl, rfl⟩) (by assumption) ?_
                  try simp only [Act.put, List.setIfInBounds_toArray, List.set_cons_zero, List.set_cons_succ]
                  refine wpAnyH_take (i := 12) (oi := { dst := some 109, op := Op.call { callee := Callee.value (Operand.func 21), args := #[Operand.tmp 106, Operand.tmp 108], argTypes := #[23, 23] }, type := 4, pos := "law.go:137", after := #[{ on := 9, ground := Ground.data }, { on := 11, ground := Ground.data }, { on := 9, ground := Ground.chain }, { on := 4, ground := Ground.guard }], guard := some (4, true) }) rfl (by kernel_rfl) (by kernel_rfl) (by kernel_rfl) (fun _ _ _ h => h) (Or.inr ⟨by rfl, rfl⟩) (by assumption) ?_
                  try simp only [Act.put, List.setIfInBounds_toArray, List.set_cons_zero, List.set_cons_succ]
                  refine wpAnyH_take (i := 13) (oi := { dst := some 110, op := Op.unOp UnOp.not 4 (Operand.tmp 109), type := 4, pos := "law.go:137", after := #[{ on := 12, ground := Ground.data }, { on := 4, ground := Ground.guard }], guard := some (4, true) }) rfl (by kernel_rfl) (by kernel_rfl) (by kernel_rfl) (fun _ _ _ h => h) (Or.inr ⟨by rfl, rfl⟩) (by assumption) ?_
                  try simp only [Act.put, List.setIfInBounds_toArray, List.set_cons_zero, List.set_cons_succ]
                  refine wpAnyH_take (i := 14) (oi := { dst := some 111, op := Op.pick (Operand.tmp 101) (Operand.tmp 110) (Operand.const (Value.bool false)), type := 4, pos := "law.go:137", after := #[{ on := 4, ground := Ground.data }, { on := 13, ground := Ground.data }], guard := none }) (v := ?_) rfl (by kernel_rfl) (by kernel_rfl) (by kernel_rfl) (fun _ _ _ h => h) (Or.inl ⟨by rfl, ?_⟩) (by assumption) ?_
                  rotate_left
                  · intro w hSw
                    go_simp
                    try with_reducible rfl
                  try simp only [Act.put, List.setIfInBounds_toArray, List.set_cons_zero, List.set_cons_succ]
                  refine wpAnyH_done (by kernel_rfl) ?_ _
                  go_wp2
                  refine ⟨⟨j + 1, by omega, by go_num, (unhide HKP).drew, unhide HSZ, ?_⟩, by simp [intOf]; omega⟩
                  rw [unhide HSK]
                  exact unhide HR
                · have hsm : xs.length ≤ 200 := by omega
                  obtain ⟨b1, b2⟩ := unhide HOCF j _ (unhide HQ) hF1 rfl hsm
                  simp only at b1 b2
                  rw [b1] at HSK
                  have hnext := unhide HMONO (j + 1) F (by omega)
                  rw [unhide HSK] at hnext
                  have hc1 := rdOctets_any (xs.length : Int) xs.length (by omega) (unhide HR) (unhide HY8) (by omega) (by have := unhide HYN; omega) hcl (by have := unhide HYN; omega) (by omega)
                  rw [b2, ← unhide HSK] at hc1
                  have HC1 := hide hc1
                  have hsi : (xs.length : Int) ≤ 200 := by omega
                  clear b1 b2 hnext hc1 hql hbig hmj
                  go_wp2
                  refine wp_region_held_drew (S := fun w' => (∀ i, w'.cell? ⟨wr.heap.size, i, none⟩ = (#[.int .i64 2, .int .i64 x, .int .u32 v, .slice qa xs.length qc] : Array Value)[i]?) ∧ True) (by kernel_rfl) ?_ (fun hHeld => ?_)
                  · exact ⟨(unhide HOB).drew.cell, trivial⟩
                  refine wpAnyH_take (i := 0) (oi := { dst := some 97, op := Op.fieldAddr 32 (Operand.tmp 8) 3, type := 0, pos := "law.go:137", after := #[], guard := none }) (v := ?_) rfl (by kernel_rfl) (by kernel_rfl) (by kernel_rfl) (fun _ _ _ h => h) (Or.inl ⟨by rfl, ?_⟩) (by assumption) ?_
                  rotate_left
                  · intro w hSw
                    go_simp
                    try with_reducible rfl
                  try simp only [Act.put, List.setIfInBounds_toArray, List.set_cons_zero, List.set_cons_succ]
                  refine wpAnyH_take (i := 1) (oi := { dst := some 98, op := Op.load 23 (Operand.tmp 97), type := 23, pos := "law.go:137", after := #[{ on := 0, ground := Ground.data }], guard := none }) (v := ?_) rfl (by kernel_rfl) (by kernel_rfl) (by kernel_rfl) (fun _ _ _ h => h) (Or.inl ⟨by rfl, ?_⟩) (by assumption) ?_
                  rotate_left
                  · intro w hSw
                    go_simp
                    try with_reducible rfl
                  try simp only [Act.put, List.setIfInBounds_toArray, List.set_cons_zero, List.set_cons_succ]
                  refine wpAnyH_take (i := 2) (oi := { dst := some 99, op := Op.call { callee := Callee.builtin Builtin.len, args := #[Operand.tmp 98], argTypes := #[23] }, type := 3, pos := "law.go:137", after := #[{ on := 1, ground := Ground.data }], guard := none }) (v := ?_) rfl (by kernel_rfl) (by kernel_rfl) (by kernel_rfl) (fun _ _ _ h => h) (Or.inl ⟨by rfl, ?_⟩) (by assumption) ?_
                  rotate_left
                  · intro w hSw
                    go_simp
                    try with_reducible rfl
                  try simp only [Act.put, List.setIfInBounds_toArray, List.set_cons_zero, List.set_cons_succ]
                  refine wpAnyH_take (i := 3) (oi := { dst := some 100, op := Op.binOp BinOp.leq 3 (Operand.tmp 99) (Operand.const (Value.int IntKind.i64 200)) 3, type := 4, pos := "law.go:137", after := #[{ on := 2, ground := Ground.data }], guard := none }) (v := ?_) rfl (by kernel_rfl) (by kernel_rfl) (by kernel_rfl) (fun _ _ _ h => h) (Or.inl ⟨by rfl, ?_⟩) (by assumption) ?_
                  rotate_left
                  · intro w hSw
                    go_simp
                    try with_reducible rfl
                  try simp only [Act.put, List.setIfInBounds_toArray, List.set_cons_zero, List.set_cons_succ]
                  refine wpAnyH_take (i := 4) (oi := { dst := some 101, op := Op.move (Operand.tmp 100), type := 4, pos := "law.go:137", after := #[{ on := 3, ground := Ground.data }], guard := none }) (v := ?_) rfl (by kernel_rfl) (by kernel_rfl) (by kernel_rfl) (fun _ _ _ h => h) (Or.inl ⟨by rfl, ?_⟩) (by assumption) ?_
                  rotate_left
                  · intro w hSw
                    go_simp
                    try with_reducible rfl
                  try simp only [Act.put, List.setIfInBounds_toArray, List.set_cons_zero, List.set_cons_succ]
                  refine wpAnyH_take (i := 5) (oi := { dst := some 102, op := Op.move (Operand.tmp 6), type := 43, pos := "law.go:137", after := #[{ on := 4, ground := Ground.guard }], guard := some (4, true) }) (v := ?_) rfl (by kernel_rfl) (by kernel_rfl) (by kernel_rfl) (fun _ _ _ h => h) (Or.inl ⟨by rfl, ?_⟩) (by assumption) ?_
                  rotate_left
                  · intro w hSw
                    go_simp
                    try with_reducible rfl
                  try simp only [Act.put, List.setIfInBounds_toArray, List.set_cons_zero, List.set_cons_succ]
                  refine wpAnyH_take (i := 6) (oi := { dst := some 103, op := Op.fieldAddr 32 (Operand.tmp 8) 3, type := 0, pos := "law.go:137", after := #[{ on := 4, ground := Ground.guard }], guard := some (4, true) }) (v := ?_) rfl (by kernel_rfl) (by kernel_rfl) (by kernel_rfl) (fun _ _ _ h => h) (Or.inl ⟨by rfl, ?_⟩) (by assumption) ?_
                  rotate_left
                  · intro w hSw
                    go_simp
                    try with_reducible rfl
                  try simp only [Act.put, List.setIfInBounds_toArray, List.set_cons_zero, List.set_cons_succ]
                  refine wpAnyH_take (i := 7) (oi := { dst := some 104, op := Op.load 23 (Operand.tmp 103), type := 23, pos := "law.go:137", after := #[{ on := 6, ground := Ground.data }, { on := 4, ground := Ground.guard }], guard := some (4, true) }) (v := ?_) rfl (by kernel_rfl) (by kernel_rfl) (by kernel_rfl) (fun _ _ _ h => h) (Or.inl ⟨by rfl, ?_⟩) (by assumption) ?_
                  rotate_left
                  · intro w hSw
                    go_simp
                    try with_reducible rfl
                  try simp only [Act.put, List.setIfInBounds_toArray, List.set_cons_zero, List.set_cons_succ]
                  refine wpAnyH_take (i := 8) (oi := { dst := some 105, op := Op.call { callee := Callee.builtin Builtin.len, args := #[Operand.tmp 104], argTypes := #[23] }, type := 3, pos := "law.go:137", after := #[{ on := 7, ground := Ground.data }, { on := 4, ground := Ground.guard }], guard := some (4, true) }) (v := ?_) rfl (by kernel_rfl) (by kernel_rfl) (by kernel_rfl) (fun _ _ _ h => h) (Or.inl ⟨by rfl, ?_⟩) (by assumption) ?_
                  rotate_left
                  · intro w hSw
                    go_simp
                    try with_reducible rfl
                  try simp only [Act.put, List.setIfInBounds_toArray, List.set_cons_zero, List.set_cons_succ]
                  refine wpAnyH_take (i := 10) (oi := { dst := some 107, op := Op.fieldAddr 32 (Operand.tmp 8) 3, type := 0, pos := "law.go:137", after := #[{ on := 4, ground := Ground.guard }], guard := some (4, true) }) (v := ?_) rfl (by kernel_rfl) (by kernel_rfl) (by kernel_rfl) (fun _ _ _ h => h) (Or.inl ⟨by rfl, ?_⟩) (by assumption) ?_
                  rotate_left
                  · intro w hSw
                    go_simp
                    try with_reducible rfl
                  try simp only [Act.put, List.setIfInBounds_toArray, List.set_cons_zero, List.set_cons_succ]
                  refine wpAnyH_take (i := 11) (oi := { dst := some 108, op := Op.load 23 (Operand.tmp 107), type := 23, pos := "law.go:137", after := #[{ on := 10, ground := Ground.data }, { on := 4, ground := Ground.guard }], guard := some (4, true) }) (v := ?_) rfl (by kernel_rfl) (by kernel_rfl) (by kernel_rfl) (fun _ _ _ h => h) (Or.inl ⟨by rfl, ?_⟩) (by assumption) ?_
                  rotate_left
                  · intro w hSw
                    go_simp
                    try with_reducible rfl
                  try simp only [Act.put, List.setIfInBounds_toArray, List.set_cons_zero, List.set_cons_succ]
                  refine wpAnyH_ready (rs := [9]) (by kernel_rfl) (by simp) ?_
                  refine AllReadyH.cons (o := { dst := some 106, op := Op.call { callee := Callee.value (Operand.func 26), args := #[Operand.tmp 102, Operand.tmp 105], argTypes := #[43, 3] }, type := 23, pos := "law.go:137", after := #[{ on := 5, ground := Ground.data }, { on := 8, ground := Ground.data }, { on := 4, ground := Ground.chain }, { on := 4, ground := Ground.guard }], guard := some (4, true) }) rfl (fun K hK => ?_) AllReadyH.nil
                  go_simp
                  go_at_call 26
                  with_reducible refine (unhide HC1).mono ?_
                  rintro e w7 ⟨B, d, rfl, hd7, hhB, _, hR7, hf7⟩
                  have HR7 := hide hR7
                  have HFR7 := hide hf7
                  have HHB := hide hhB
                  have HSM := hide (sameBytes_any B qa xs xs d qc w7 hhB (hold_w (unhide HHX) (k_any (unhide HKP).drew hf7 (unhide HGR))) (unhide H8) (unhide H8))
                  rw [decide_eq_true rfl] at HSM
                  clear hR7 hf7 hhB hd7
                  go_wp2_with fail
                  refine hK.out _ _ ?_ (fun hHeld => ?_)
                  · exact held_fr (by assumption) (unhide HFR7) (by have := unhide HGR; omega) (by have e1 := World.size_alloc wr (.cells #[.int .i64 2, .int .i64 x, .int .u32 v, .slice qa xs.length qc] 32); exact Nat.lt_of_lt_of_eq (Nat.lt_succ_self _) e1.symm)
                  clear hK K
                  try simp only [Act.put, List.setIfInBounds_toArray, List.set_cons_zero, List.set_cons_succ]
                  refine wpAnyH_ready (rs := [12]) (by kernel_rfl) (by simp) ?_
                  refine AllReadyH.cons (o := { dst := some 109, op := Op.call { callee := Callee.value (Operand.func 21), args := #[Operand.tmp 106, Operand.tmp 108], argTypes := #[23, 23] }, type := 4, pos := "law.go:137", after := #[{ on := 9, ground := Ground.data }, { on := 11, ground := Ground.data }, { on := 9, ground := Ground.chain }, { on := 4, ground := Ground.guard }], guard := some (4, true) }) rfl (fun K hK => ?_) AllReadyH.nil
                  go_simp
                  go_at_call 21
                  with_reducible refine (unhide HSM).mono ?_
                  rintro e wn ⟨rfl, hwn⟩
                  rw [← hwn]
                  clear hwn
                  go_wp2_with fail
                  refine hK.out _ _ ?_ (fun hHeld => ?_)
                  · assumption
                  clear hK K
                  try simp only [Act.put, List.setIfInBounds_toArray, List.set_cons_zero, List.set_cons_succ]
                  refine wpAnyH_take (i := 13) (oi := { dst := some 110, op := Op.unOp UnOp.not 4 (Operand.tmp 109), type := 4, pos := "law.go:137", after := #[{ on := 12, ground := Ground.data }, { on := 4, ground := Ground.guard }], guard := some (4, true) }) (v := ?_) rfl (by kernel_rfl) (by kernel_rfl) (by kernel_rfl) (fun _ _ _ h => h) (Or.inl ⟨by rfl, ?_⟩) (by assumption) ?_
                  rotate_left
                  · intro w hSw
                    go_simp
                    try with_reducible rfl
                  try simp only [Act.put, List.setIfInBounds_toArray, List.set_cons_zero, List.set_cons_succ]
                  refine wpAnyH_take (i := 14) (oi := { dst := some 111, op := Op.pick (Operand.tmp 101) (Operand.tmp 110) (Operand.const (Value.bool false)), type := 4, pos := "law.go:137", after := #[{ on := 4, ground := Ground.data }, { on := 13, ground := Ground.data }], guard := none }) (v := ?_) rfl (by kernel_rfl) (by kernel_rfl) (by kernel_rfl) (fun _ _ _ h => h) (Or.inl ⟨by rfl, ?_⟩) (by assumption) ?_
                  rotate_left
                  · intro w hSw
                    go_simp
                    try with_reducible rfl
                  try simp only [Act.put, List.setIfInBounds_toArray, List.set_cons_zero, List.set_cons_succ]
                  refine wpAnyH_done (by kernel_rfl) ?_ _
                  have HKF := hide (k_any (unhide HKP).drew (unhide HFR7) (unhide HGR))
                  have hszf : gr < w7.heap.size := Nat.lt_of_lt_of_le (unhide HSZ) (unhide HFR7).2.2.2.1
                  have HSZF := hide hszf
                  clear hHeld hszf
                  go_wp2
                  exact ⟨⟨j + 1, by omega, by go_num, unhide HKF, unhide HSZF, unhide HR7⟩, by simp [intOf]; omega⟩
              · have e2 : (kind == 2) = false := beq_eq_false_iff_ne.2 h2
                obtain ⟨b1, b2⟩ := unhide HBTF j _ (unhide HQ) hF1 h1 h2
                simp only at b1 b2
                rw [b1] at HSK
                have hnext := unhide HMONO (j + 1) F (by omega)
                rw [unhide HSK] at hnext
                have d1 : rdVal ys (stK ps j) 0 1 = bitOf x := (if_pos ⟨rfl, by have := unhide HYN; omega⟩).trans b2
                have d2 : rdAt (8 * ys.length) (stK ps j) 0 1 = stK ps j + 1 := by unfold rdAt; rw [if_pos ⟨rfl, by have := unhide HYN; omega⟩]
                have d3 : rdF (8 * ys.length) (stK ps j) 0 1 = 0 := by unfold rdF; rw [if_pos rfl, if_pos (by have := unhide HYN; omega)]
                have HC1 := hide (rdBit_any (unhide HR) (unhide HY8) (by omega) (by have := unhide HYN; omega))
                rw [d1, d2, d3, ← unhide HSK] at HC1
                clear b1 b2 d1 d2 d3 hnext hql h1 h2 hmj
                by_cases hx : x = 0
                · subst hx
                  rw [show bitOf 0 = 0 from rfl] at HC1
                  go_wp2
                  refine wp_region_held_drew (S := fun w' => (∀ i, w'.cell? ⟨wr.heap.size, i, none⟩ = (#[.int .i64 kind, .int .i64 0, .int .u32 v, .slice qa xs.length qc] : Array Value)[i]?) ∧ True) (by kernel_rfl) ?_ (fun hHeld => ?_)
                  · exact ⟨(unhide HOB).drew.cell, trivial⟩
                  refine wpAnyH_take (i := 0) (oi := { dst := some 68, op := Op.move (Operand.tmp 6), type := 43, pos := "law.go:141", after := #[], guard := none }) (v := ?_) rfl (by kernel_rfl) (by kernel_rfl) (by kernel_rfl) (fun _ _ _ h => h) (Or.inl ⟨by rfl, ?_⟩) (by assumption) ?_
                  rotate_left
                  · intro w hSw
                    go_simp
                    try with_reducible rfl
                  try simp only [Act.put, List.setIfInBounds_toArray, List.set_cons_zero, List.set_cons_succ]
                  refine wpAnyH_take (i := 3) (oi := { dst := some 71, op := Op.fieldAddr 32 (Operand.tmp 8) 1, type := 0, pos := "law.go:141", after := #[], guard := none }) (v := ?_) rfl (by kernel_rfl) (by kernel_rfl) (by kernel_rfl) (fun _ _ _ h => h) (Or.inl ⟨by rfl, ?_⟩) (by assumption) ?_
                  rotate_left
                  · intro w hSw
                    go_simp
                    try with_reducible rfl
                  try simp only [Act.put, List.setIfInBounds_toArray, List.set_cons_zero, List.set_cons_succ]
                  refine wpAnyH_take (i := 4) (oi := { dst := some 72, op := Op.load 3 (Operand.tmp 71), type := 3, pos := "law.go:141", after := #[{ on := 3, ground := Ground.data }], guard := none }) (v := ?_) rfl (by kernel_rfl) (by kernel_rfl) (by kernel_rfl) (fun _ _ _ h => h) (Or.inl ⟨by rfl, ?_⟩) (by assumption) ?_
                  rotate_left
                  · intro w hSw
                    go_simp
                    try with_reducible rfl
                  try simp only [Act.put, List.setIfInBounds_toArray, List.set_cons_zero, List.set_cons_succ]
                  refine wpAnyH_take (i := 5) (oi := { dst := some 73, op := Op.binOp BinOp.neq 3 (Operand.tmp 72) (Operand.const (Value.int IntKind.i64 0)) 3, type := 4, pos := "law.go:141", after := #[{ on := 4, ground := Ground.data }], guard := none }) (v := ?_) rfl (by kernel_rfl) (by kernel_rfl) (by kernel_rfl) (fun _ _ _ h => h) (Or.inl ⟨by rfl, ?_⟩) (by assumption) ?_
                  rotate_left
                  · intro w hSw
                    go_simp
                    try with_reducible rfl
                  try simp only [Act.put, List.setIfInBounds_toArray, List.set_cons_zero, List.set_cons_succ]
                  refine wpAnyH_ready (rs := [1]) (by kernel_rfl) (by simp) ?_
                  refine AllReadyH.cons (o := { dst := some 69, op := Op.call { callee := Callee.value (Operand.func 30), args := #[Operand.tmp 68], argTypes := #[43] }, type := 3, pos := "law.go:141", after := #[{ on := 0, ground := Ground.data }], guard := none }) rfl (fun K hK => ?_) AllReadyH.nil
                  go_simp
                  go_at_call 30
                  with_reducible refine (unhide HC1).mono ?_
                  rintro e w7 ⟨rfl, hR7, hf7⟩
                  have HR7 := hide hR7
                  have HFR7 := hide hf7
                  clear hR7 hf7
                  go_wp2_with fail
                  refine hK.out _ _ ?_ (fun hHeld => ?_)
                  · exact held_fr (by assumption) (unhide HFR7) (by have := unhide HGR; omega) (by have e1 := World.size_alloc wr (.cells #[.int .i64 kind, .int .i64 0, .int .u32 v, .slice qa xs.length qc] 32); exact Nat.lt_of_lt_of_eq (Nat.lt_succ_self _) e1.symm)
                  clear hK K
                  try simp only [Act.put, List.setIfInBounds_toArray, List.set_cons_zero, List.set_cons_succ]
                  refine wpAnyH_take (i := 2) (oi := { dst := some 70, op := Op.binOp BinOp.eql 3 (Operand.tmp 69) (Operand.const (Value.int IntKind.i64 1)) 3, type := 4, pos := "law.go:141", after := #[{ on := 1, ground := Ground.data }], guard := none }) (v := ?_) rfl (by kernel_rfl) (by kernel_rfl) (by kernel_rfl) (fun _ _ _ h => h) (Or.inl ⟨by rfl, ?_⟩) (by assumption) ?_
                  rotate_left
                  · intro w hSw
                    go_simp
                    try with_reducible rfl
                  try simp only [Act.put, List.setIfInBounds_toArray, List.set_cons_zero, List.set_cons_succ]
                  refine wpAnyH_take (i := 6) (oi := { dst := some 74, op := Op.binOp BinOp.neq 4 (Operand.tmp 70) (Operand.tmp 73) 4, type := 4, pos := "law.go:141", after := #[{ on := 2, ground := Ground.data }, { on := 5, ground := Ground.data }], guard := none }) (v := ?_) rfl (by kernel_rfl) (by kernel_rfl) (by kernel_rfl) (fun _ _ _ h => h) (Or.inl ⟨by rfl, ?_⟩) (by assumption) ?_
                  rotate_left
                  · intro w hSw
                    go_simp
                    try with_reducible rfl
                  try simp only [Act.put, List.setIfInBounds_toArray, List.set_cons_zero, List.set_cons_succ]
                  refine wpAnyH_done (by kernel_rfl) ?_ _
                  have HKF := hide (k_any (unhide HKP).drew (unhide HFR7) (unhide HGR))
                  have hszf : gr < w7.heap.size := Nat.lt_of_lt_of_le (unhide HSZ) (unhide HFR7).2.2.2.1
                  have HSZF := hide hszf
                  clear hHeld hszf
                  go_wp2
                  exact ⟨⟨j + 1, by omega, by go_num, unhide HKF, unhide HSZF, unhide HR7⟩, by simp [intOf]; omega⟩
                · have x1 : (x != 0) = true := by rw [bne_iff_ne]; exact hx
                  have x2 : (x == 0) = false := beq_eq_false_iff_ne.2 hx
                  rw [show bitOf x = 1 from if_neg hx] at HC1
                  clear hx
                  go_wp2
                  refine wp_region_held_drew (S := fun w' => (∀ i, w'.cell? ⟨wr.heap.size, i, none⟩ = (#[.int .i64 kind, .int .i64 x, .int .u32 v, .slice qa xs.length qc] : Array Value)[i]?) ∧ True) (by kernel_rfl) ?_ (fun hHeld => ?_)
                  · exact ⟨(unhide HOB).drew.cell, trivial⟩
                  refine wpAnyH_take (i := 0) (oi := { dst := some 68, op := Op.move (Operand.tmp 6), type := 43, pos := "law.go:141", after := #[], guard := none }) (v := ?_) rfl (by kernel_rfl) (by kernel_rfl) (by kernel_rfl) (fun _ _ _ h => h) (Or.inl ⟨by rfl, ?_⟩) (by assumption) ?_
                  rotate_left
                  · intro w hSw
                    go_simp
                    try with_reducible rfl
                  try simp only [Act.put, List.setIfInBounds_toArray, List.set_cons_zero, List.set_cons_succ]
                  refine wpAnyH_take (i := 3) (oi := { dst := some 71, op := Op.fieldAddr 32 (Operand.tmp 8) 1, type := 0, pos := "law.go:141", after := #[], guard := none }) (v := ?_) rfl (by kernel_rfl) (by kernel_rfl) (by kernel_rfl) (fun _ _ _ h => h) (Or.inl ⟨by rfl, ?_⟩) (by assumption) ?_
                  rotate_left
                  · intro w hSw
                    go_simp
                    try with_reducible rfl
                  try simp only [Act.put, List.setIfInBounds_toArray, List.set_cons_zero, List.set_cons_succ]
                  refine wpAnyH_take (i := 4) (oi := { dst := some 72, op := Op.load 3 (Operand.tmp 71), type := 3, pos := "law.go:141", after := #[{ on := 3, ground := Ground.data }], guard := none }) (v := ?_) rfl (by kernel_rfl) (by kernel_rfl) (by kernel_rfl) (fun _ _ _ h => h) (Or.inl ⟨by rfl, ?_⟩) (by assumption) ?_
                  rotate_left
                  · intro w hSw
                    go_simp
                    try with_reducible rfl
                  try simp only [Act.put, List.setIfInBounds_toArray, List.set_cons_zero, List.set_cons_succ]
                  refine wpAnyH_take (i := 5) (oi := { dst := some 73, op := Op.binOp BinOp.neq 3 (Operand.tmp 72) (Operand.const (Value.int IntKind.i64 0)) 3, type := 4, pos := "law.go:141", after := #[{ on := 4, ground := Ground.data }], guard := none }) (v := ?_) rfl (by kernel_rfl) (by kernel_rfl) (by kernel_rfl) (fun _ _ _ h => h) (Or.inl ⟨by rfl, ?_⟩) (by assumption) ?_
                  rotate_left
                  · intro w hSw
                    go_simp
                    try with_reducible rfl
                  try simp only [Act.put, List.setIfInBounds_toArray, List.set_cons_zero, List.set_cons_succ]
                  refine wpAnyH_ready (rs := [1]) (by kernel_rfl) (by simp) ?_
                  refine AllReadyH.cons (o := { dst := some 69, op := Op.call { callee := Callee.value (Operand.func 30), args := #[Operand.tmp 68], argTypes := #[43] }, type := 3, pos := "law.go:141", after := #[{ on := 0, ground := Ground.data }], guard := none }) rfl (fun K hK => ?_) AllReadyH.nil
                  go_simp
                  go_at_call 30
                  with_reducible refine (unhide HC1).mono ?_
                  rintro e w7 ⟨rfl, hR7, hf7⟩
                  have HR7 := hide hR7
                  have HFR7 := hide hf7
                  clear hR7 hf7
                  go_wp2_with fail
                  refine hK.out _ _ ?_ (fun hHeld => ?_)
                  · exact held_fr (by assumption) (unhide HFR7) (by have := unhide HGR; omega) (by have e1 := World.size_alloc wr (.cells #[.int .i64 kind, .int .i64 x, .int .u32 v, .slice qa xs.length qc] 32); exact Nat.lt_of_lt_of_eq (Nat.lt_succ_self _) e1.symm)
                  clear hK K
                  try simp only [Act.put, List.setIfInBounds_toArray, List.set_cons_zero, List.set_cons_succ]
                  refine wpAnyH_take (i := 2) (oi := { dst := some 70, op := Op.binOp BinOp.eql 3 (Operand.tmp 69) (Operand.const (Value.int IntKind.i64 1)) 3, type := 4, pos := "law.go:141", after := #[{ on := 1, ground := Ground.data }], guard := none }) (v := ?_) rfl (by kernel_rfl) (by kernel_rfl) (by kernel_rfl) (fun _ _ _ h => h) (Or.inl ⟨by rfl, ?_⟩) (by assumption) ?_
                  rotate_left
                  · intro w hSw
                    go_simp
                    try with_reducible rfl
                  try simp only [Act.put, List.setIfInBounds_toArray, List.set_cons_zero, List.set_cons_succ]
                  refine wpAnyH_take (i := 6) (oi := { dst := some 74, op := Op.binOp BinOp.neq 4 (Operand.tmp 70) (Operand.tmp 73) 4, type := 4, pos := "law.go:141", after := #[{ on := 2, ground := Ground.data }, { on := 5, ground := Ground.data }], guard := none }) (v := ?_) rfl (by kernel_rfl) (by kernel_rfl) (by kernel_rfl) (fun _ _ _ h => h) (Or.inl ⟨by rfl, ?_⟩) (by assumption) ?_
                  rotate_left
                  · intro w hSw
                    go_simp
                    try with_reducible rfl
                  try simp only [Act.put, List.setIfInBounds_toArray, List.set_cons_zero, List.set_cons_succ]
                  refine wpAnyH_done (by kernel_rfl) ?_ _
                  have HKF := hide (k_any (unhide HKP).drew (unhide HFR7) (unhide HGR))
                  have hszf : gr < w7.heap.size := Nat.lt_of_lt_of_le (unhide HSZ) (unhide HFR7).2.2.2.1
                  have HSZF := hide hszf
                  clear hHeld hszf
                  go_wp2
                  exact ⟨⟨j + 1, by omega, by go_num, unhide HKF, unhide HSZF, unhide HR7⟩, by simp [intOf]; omega⟩
          · obtain rfl : j = F := by omega
            have hff := unhide HF0
            have HFF := hide hff
            have HKP := hide hkp
            have HCE := hide (rdErr_any hR)
            have HCD := hide (rdEnd_any hR (unhide HY8) (by omega) (unhide HYN) (fun b e => Nat.lt_trans (unhide HROWN b e) hgrw))
            rw [unhide HENDV] at HCD
            have hyr := unhide HYR
            have HCL := hide (fun w' (hk : Keeps wr w') => rdLeft_any (hR.keeps hk) (by omega) (unhide HYN))
            clear hkp hR hff
            generalize 8 * ys.length - stK ps j = T8 at *
            have hT8 : (T8 : Int) < 8 := by omega
            have hff2 := unhide HFF
            first
              | (have hc : ¬ ((j : Int) < (np : Int)) := by omega)
              | (have hc1 : (j : Int) < (np : Int) := (by omega); have hc2 : ¬ ((j : Int) < 60) := (by omega))
            clear hff2
            go_wp2_with fail
            with_reducible refine (unhide HCE).mono ?_
            rintro e w7 ⟨rfl, hw7⟩
            rw [hw7]
            clear hw7
            go_wp2_with fail
            with_reducible refine (unhide HCD).mono ?_
            rintro e w8 ⟨rfl, hk8⟩
            have HK8 := hide hk8
            clear hk8
            go_wp2_with fail
            with_reducible refine (unhide HCL _ (unhide HK8)).mono ?_
            rintro e w9 ⟨rfl, hw9⟩
            have HW9 := hide hw9
            clear hw9
            go_wp2
            go_ret
            rw [unhide HW9]
            exact ⟨rfl, ((unhide HKP).trans (unhide HK8)).drew⟩
end Go.Proofs.Ytocnmnimlmehgaa
