/- The reference's Writer: Bit, Octets, Bytes. -/
import Derived.Test.YtgaapigagglgbaaRefW
namespace Go.Proofs.Ytgaapigagglgbaa
open Go.ChangeShapes Go.WideShapes Go.ChangeAt Go.RowKit

set_option maxRecDepth 100000 in
set_option maxHeartbeats 2000000 in
theorem refBit_st (x : Int) {base : Nat} {w wr : World} {g : Nat} {A0 : Option Addr} {N : Int} {n : Nat} (hS : RSt base w g A0 N n wr) (hb : base ≤ w.heap.size) (hn : n ≤ 10000000) :
    Calls Try.prog 36 #[.pointer (some ⟨g, 0, none⟩), .int .i64 x] wr fun e w' => e = .returned (.tuple #[]) ∧ RSt base w g A0 (tot N (if x = 0 then 0 else 1) 1) (n + 1) w' := by
  obtain ⟨i0, hi0, hz0, hz1, hz2⟩ := info_parts u8_info
  obtain ⟨A, c, ⟨hg, hown⟩, hfr, hmv⟩ := hS
  have hbw := hfr.2.2.2.1
  have hg0 : wr.cell? ⟨g, 0, none⟩ = some (.slice A n c) := hg.cell 0
  have HG := hide hg
  have HOWN := hide hown
  have HFR := hide hfr
  have HMV := hide hmv
  by_cases hx : x = 0
  · subst hx
    rw [if_pos rfl]
    have hown1 := hown.alloc (.cells #[.int .u8 0] 5)
    have hnew : (wr.alloc (.cells #[.int .u8 0] 5)).ownsRow wr.heap.size 5 1 (.slice (some ⟨wr.heap.size, 0, none⟩) 1 1) 1 [.int .u8 0] := by
      simpa using World.ownsRow_lit (base := wr.heap.size) (e := 5) (size := 1) wr #[.int .u8 0] 1 (Nat.le_refl _) (by simp only [maxLen]; omega) (by simp)
    have HRD := hide (Reads.of_own hnew)
    have HOWN1 := hide hown1
    clear hg hown hfr hmv hown1 hnew
    go_enter Try.func36, Try.ntmps36
    go_wp2_with (at_builtin; refine wpList_append_any _ rfl (.tmp 19) (.tmp 20) _ rfl base 5 i0 _ 1 1 Try.underlying28 hi0 hz0 hz1 hz2 rfl (by omega) _ n _ rfl (unhide HOWN1) _ _ 1 1 [.int .u8 0] rfl (unhide HRD) (by intro u hu; simp at hu; subst hu; rfl) (by simp only [maxLen]; omega) (by omega) (by simp; omega) ?_; intro v' w3 hown3 hg3 hat3; obtain ⟨A3, c3, rfl, hc3, hf3, hS3⟩ := ref_append (Int.le_refl 0) (by omega) (unhide HG) (unhide HOWN) (unhide HFR) (unhide HMV) hown3 hg3 hat3; have HS3 := hide hS3; clear hS3 hown3 hg3 hat3)
    go_end0
    refine ⟨rfl, ?_⟩
    have := unhide HS3
    rwa [show tot N 0 1 = N * 2 + 0 from rfl]
  · have e1 : (x != 0) = true := by rw [bne_iff_ne]; exact hx
    have e2 : (x == 0) = false := beq_eq_false_iff_ne.2 hx
    have hown1 := hown.alloc (.cells #[.int .u8 1] 5)
    have hnew : (wr.alloc (.cells #[.int .u8 1] 5)).ownsRow wr.heap.size 5 1 (.slice (some ⟨wr.heap.size, 0, none⟩) 1 1) 1 [.int .u8 1] := by
      simpa using World.ownsRow_lit (base := wr.heap.size) (e := 5) (size := 1) wr #[.int .u8 1] 1 (Nat.le_refl _) (by simp only [maxLen]; omega) (by simp)
    have HRD := hide (Reads.of_own hnew)
    have HOWN1 := hide hown1
    rw [if_neg hx]
    have HT := hide (show tot N 1 1 = N * 2 + 1 from rfl)
    clear hg hown hfr hmv hown1 hnew hx
    go_enter Try.func36, Try.ntmps36
    go_wp2_with (at_builtin; refine wpList_append_any _ rfl (.tmp 10) (.tmp 11) _ rfl base 5 i0 _ 1 1 Try.underlying28 hi0 hz0 hz1 hz2 rfl (by omega) _ n _ rfl (unhide HOWN1) _ _ 1 1 [.int .u8 1] rfl (unhide HRD) (by intro u hu; simp at hu; subst hu; rfl) (by simp only [maxLen]; omega) (by omega) (by simp; omega) ?_; intro v' w3 hown3 hg3 hat3; obtain ⟨A3, c3, rfl, hc3, hf3, hS3⟩ := ref_append (by omega) (Int.le_refl 1) (unhide HG) (unhide HOWN) (unhide HFR) (unhide HMV) hown3 hg3 hat3; have HS3 := hide hS3; clear hS3 hown3 hg3 hat3)
    go_end0
    refine ⟨rfl, ?_⟩
    rw [unhide HT]
    exact unhide HS3

set_option maxRecDepth 100000 in
set_option maxHeartbeats 4000000 in
theorem refOctets_st (P : Option Addr) (ps : List Part) (np c : Nat) {base : Nat} {w wr : World} {g : Nat} {A0 : Option Addr} {N : Int} {n : Nat} (hnp : ps.length = np) (hS : RSt base w g A0 N n wr) (hb : base ≤ w.heap.size)
    (hst : ∀ w', Fr g (rowOf A0) w w' → PartsAny w' P ps) (hn : n + 8 * (flat ps).length ≤ 10000000) (hl0 : np ≤ 1000000) :
    Calls Try.prog 58 #[.pointer (some ⟨g, 0, none⟩), .slice P np c] wr fun e w' => e = .returned (.tuple #[]) ∧ RSt base w g A0 (appB N (flat ps)) (n + 8 * (flat ps).length) w' := by
  have HST := hide hst
  have HN := hide hn
  have HNP := hide hnp
  have HS := hide hS
  clear hst hn hnp hS
  go_enter Try.func58, Try.ntmps58
  go_wp2
  go_loopw [4] (fun i wr => ∃ k : Nat, k ≤ np ∧ i = .int .i64 k ∧ RSt base w g A0 (appB N (flat (ps.take k))) (n + 8 * (flat (ps.take k)).length) wr) (fun i _ => np - (intOf i).toNat)
  case atStart => exact ⟨0, by omega, rfl, by simpa [flat, appB] using unhide HS⟩
  case round =>
    obtain ⟨k, hk, rfl, hR⟩ := hrel
    by_cases hlt : k < np
    · obtain ⟨b, o, rfl, q, hq, hc, hh, h8⟩ := (unhide HST _ hR.fr).at_ (k := k) (by rw [unhide HNP]; exact hlt)
      have hfl := flat_le1 ps k q hq
      have HFT := hide (flat_takeP ps k q hq)
      have HQ := hide hq
      clear hq
      obtain ⟨qa, qc, xs⟩ := q
      simp only at hc hh h8 hfl HFT
      have hN := unhide HN
      generalize hM : flat (ps.take k) = done at *
      have hlx : xs.length ≤ 10000000 := by omega
      generalize hnn : n + 8 * done.length = nn at *
      have HNN := hide hnn
      have hbd : nn + 8 * xs.length ≤ 10000000 := by omega
      have HR := hide hR
      have HX := hide h8
      have HM := hide hM
      clear hR hh h8 hnn hM
      go_wp2
      go_loopw [5] (fun j wr' => ∃ l : Nat, l ≤ xs.length ∧ j = .int .i64 l ∧ RSt base w g A0 (appB N (done ++ xs.take l)) (nn + 8 * l) wr') (fun j _ => xs.length - (intOf j).toNat)
      case atStart => exact ⟨0, by omega, rfl, by simpa using unhide HR⟩
      case round =>
        obtain ⟨l, hl, rfl, hR2⟩ := hrel
        obtain ⟨b2, o2, e2, q2, hq2, hc2, hh2, _⟩ := (unhide HST _ hR2.fr).at_ (k := k) (by rw [unhide HNP]; exact hlt)
        injection e2 with e2; injection e2 with e3 e4 _
        subst e3; subst e4
        rw [unhide HQ] at hq2
        injection hq2 with hq2
        subst hq2
        simp only at hc2 hh2
        by_cases hlt2 : l < xs.length
        · obtain ⟨b3, o3, rfl, hc3⟩ := hh2.at_ hlt2
          have hxr := unhide HX (xs.getD l 0) (by rw [show xs.getD l 0 = xs[l] from by simp [hlt2]]; exact List.getElem_mem _)
          have htk : xs.take (l + 1) = xs.take l ++ [xs.getD l 0] := by rw [List.take_succ_eq_append_getElem hlt2]; simp [hlt2]
          have HTK := hide htk
          clear htk hh2
          generalize hy : xs.getD l 0 = y at *
          have HB := hide (refBits_st y 8 8 hR2 hb hxr.1 (by omega) (by omega) (by omega))
          clear hR2
          go_wp2_with fail
          with_reducible refine (unhide HB).mono ?_
          rintro e w3 ⟨rfl, hR3⟩
          have HR3 := hide hR3
          clear hR3
          go_wp2
          refine ⟨⟨l + 1, by omega, by go_num, ?_⟩, by simp [intOf]; omega⟩
          have h3 := unhide HR3
          rw [tot_octet _ _ hxr.1 hxr.2] at h3
          rw [unhide HTK, ← List.append_assoc, appB_snoc]
          exact h3
        · obtain rfl : l = xs.length := by omega
          have HR2 := hide hR2
          clear hR2 hh2
          go_wp2
          refine ⟨⟨k + 1, by omega, by go_num, ?_⟩, by simp [intOf]; omega⟩
          rw [unhide HFT, List.length_append, show n + 8 * (done.length + xs.length) = nn + 8 * xs.length from by rw [← unhide HNN]; omega]
          have := unhide HR2
          rwa [List.take_length] at this
    · obtain rfl : k = np := by omega
      have HR := hide hR
      clear hR
      go_wp2
      go_end0
      refine ⟨rfl, ?_⟩
      have := unhide HR
      rwa [List.take_of_length_le (by rw [unhide HNP]; exact Nat.le_refl _)] at this

/-! ### Bytes -/
/-- What the reference's Bytes has made of the first i bits of N (of n). -/
def RbRel (w : World) (N : Int) (n i : Nat) (v : Value) (wr : World) : Prop :=
  ∃ m room A c, v = .slice A m c ∧ 8 * m = i + room ∧ room < 8 ∧ wr.ownsRow w.heap.size 5 1 (.slice A m c) m ((lo m (N / 2 ^ (n - i) * 2 ^ room)).map (Value.int .u8)) ∧ Keeps w wr
/-- The octet that a bit is put into. -/
theorem rb_bit (M b : Int) (m room : Nat) (hr : room < 8) (hm : 0 < m) (hb0 : 0 ≤ b) (hb1 : b ≤ 1) :
    let X := (M * 2 ^ (room + 1)) % 256
    0 ≤ X ∧ X ≤ 255 ∧ 0 ≤ b * 2 ^ room ∧ b * 2 ^ room ≤ 255 ∧ bits .or .u8 X (b * 2 ^ room) = X + b * 2 ^ room ∧ (lo m (M * 2 ^ (room + 1))).set (m - 1) (X + b * 2 ^ room) = lo m ((M * 2 + b) * 2 ^ room) := by
  intro X
  have h2 : b < 2 ^ 1 := by rw [Int.pow_one]; omega
  obtain ⟨f1, f2, f3, f4, f5⟩ := room_free M b (room + 1) 1 (by omega) (by omega) hb0 h2
  rw [show room + 1 - 1 = room from rfl] at f1 f2 f3 f5
  have x0 : 0 ≤ X := Int.emod_nonneg _ (by omega)
  have x1 : X < 256 := Int.emod_lt_of_pos _ (by omega)
  refine ⟨x0, by omega, f1, by omega, or_room X _ (room + 1) (by omega) x0 (by omega) f4 f1 f2, ?_⟩
  rw [lo_set_last m hm _ _ f1 f3, f5, Int.pow_one]

set_option maxRecDepth 100000 in
set_option maxHeartbeats 4000000 in
theorem refBytes_st {base : Nat} {w : World} {g : Nat} {N : Int} {n : Nat} (hS : RWS base w g N n) (hn : n ≤ 10000000) :
    Calls Try.prog 43 #[.pointer (some ⟨g, 0, none⟩)] w (GivesBytes 5 (oct N n) w) := by
  obtain ⟨i0, hi0, hz0, hz1, hz2⟩ := info_parts u8_info
  obtain ⟨A, c, hg, hown⟩ := hS
  have hh : Holds w A (bl n N) := by
    have := Reads.of_own hown
    unfold Holds
    rw [bl_length]
    exact this
  have HG := hide hg
  have HH := hide hh
  have HN0 := hide (show N / 2 ^ (n - 0) * 2 ^ 0 = N / 2 ^ n from by simp)
  clear hg hown hh
  go_enter Try.func43, Try.ntmps43
  go_wp2
  go_loopw [3, 4] (fun v i wr => ∃ k : Nat, k ≤ n ∧ i = .int .i64 k ∧ RbRel w N n k v wr) (fun _ i _ => n - (intOf i).toNat)
  case atStart => exact ⟨0, by omega, rfl, 0, 0, none, 0, rfl, rfl, by omega, by simpa [lo] using World.ownsRow_nil _ _ _ _, Keeps.refl _⟩
  case round =>
    obtain ⟨k, hk, rfl, m, room, B, d, rfl, h8, hr8, hown, hkp⟩ := hrel
    have hg1 := (unhide HG).keeps hkp
    have hg0 : wr.cell? ⟨g, 0, none⟩ = some (.slice A n c) := hg1.cell 0
    have hgl := hg1.lt
    by_cases hlt : k < n
    · obtain ⟨b, o, rfl, hc⟩ := ((unhide HH).keeps hkp).at_ (k := k) (by rw [bl_length]; exact hlt)
      have hbg := bl_getD n N k hlt
      have hb0 := Int.emod_nonneg (N / 2 ^ (n - 1 - k)) (show (2 : Int) ≠ 0 by omega)
      have hb1 := Int.emod_lt_of_pos (N / 2 ^ (n - 1 - k)) (show (0 : Int) < 2 by omega)
      have hM : N / 2 ^ (n - k) * 2 + N / 2 ^ (n - 1 - k) % 2 = N / 2 ^ (n - (k + 1)) := by
        rw [show n - k = (n - 1 - k) + 1 from by omega, Int.pow_succ, ← Int.ediv_ediv_of_nonneg (Int.le_of_lt (two_pos _)), show n - (k + 1) = n - 1 - k from by omega]
        omega
      have HM := hide hM
      clear hM hc
      generalize N / 2 ^ (n - 1 - k) % 2 = bit at *
      have HBG := hide hbg
      clear hbg
      generalize N / 2 ^ (n - k) = M at *
      have hsw := hkp.size
      have HKP := hide hkp
      by_cases hz : room = 0
      · obtain ⟨q, hq⟩ : ∃ q : Nat, q = 7 := ⟨7, rfl⟩
        have e8 : (k : Int) % 8 = 7 - (q : Int) := by omega
        have e9 : (7 : Int) - (7 - (q : Int)) = q := by omega
        have e1 : ((7 : Int) - (q : Int) == 0) = true := by rw [beq_iff_eq]; omega
        have eq8 : (k : Int) / 8 = (m : Nat) := by omega
        have eqn : k / 8 = m := by omega
        have hq8 : q < 8 := by omega
        subst hz
        have hown1 := hown.alloc (.cells #[.int .u8 0] 5)
        have hnew : (wr.alloc (.cells #[.int .u8 0] 5)).ownsRow wr.heap.size 5 1 (.slice (some ⟨wr.heap.size, 0, none⟩) 1 1) 1 [.int .u8 0] := by
          simpa using World.ownsRow_lit (base := wr.heap.size) (e := 5) (size := 1) wr #[.int .u8 0] 1 (Nat.le_refl _) (by simp only [maxLen]; omega) (by simp)
        have HRD := hide (Reads.of_own hnew)
        have HOWN1 := hide hown1
        have HLT := hide hown.lt
        have hz8 : (lo m (M * 2 ^ 0)).map (Value.int .u8) ++ [.int .u8 0] = (lo (m + 1) (M * 2 ^ (q + 1))).map (Value.int .u8) := by
          rw [hq, show M * 2 ^ (7 + 1) = M * 2 ^ 0 * 256 from by rw [show (2 : Int) ^ (7 + 1) = 256 from by decide, Int.pow_zero, Int.mul_one], ← lo_zero_more, List.map_append]; rfl
        have HZ8 := hide hz8
        obtain ⟨y1, y2, y3, y4, y5, y6⟩ := rb_bit M bit (m + 1) q hq8 (by omega) hb0 (by omega)
        rw [Nat.add_sub_cancel] at y6
        have HY6 := hide y6
        clear hown hown1 hnew hz8 y6 hkp hg1
        have HQ := hide hq
        clear hq
        go_wp2_with (at_builtin; refine wpList_append_any _ rfl (.tmp 17) (.tmp 18) _ rfl w.heap.size 5 i0 _ 1 1 Try.underlying28 hi0 hz0 hz1 hz2 rfl (by omega) _ m _ rfl (unhide HOWN1) _ _ 1 1 [.int .u8 0] rfl (unhide HRD) (by intro u hu; simp at hu; subst hu; rfl) (by simp only [maxLen]; omega) (by omega) (by simp; omega) ?_; intro v' w3 hown3 hgr3 hat3; rw [unhide HZ8] at hown3; have hk3 := ((unhide HKP).alloc (.cells #[.int .u8 0] 5)).grown hgr3 (fun x e => (unhide HLT x e).1); obtain ⟨B3, d3, rfl, hd3⟩ := own_form hown3; obtain ⟨b3, rfl, hb3, hbl3, hcc3, hff3, _, cur3, hcur3⟩ := own_last hown3 (by omega); rw [Nat.add_sub_cancel] at hcc3 hff3; have hg3 := ((unhide HG).keeps hk3).cell 0; obtain ⟨bL, oL, eL, hcL⟩ := ((unhide HH).keeps hk3).at_ (k := k) (by rw [bl_length]; exact hlt); injection eL with eL; injection eL with eL1 eL2 _; subst eL1; subst eL2; rw [unhide HBG] at hcL; simp only [List.getElem?_toArray, List.getElem?_cons_zero] at hg3; have HK3 := hide hk3; have HO3 := hide hown3; clear hk3 hown3 hgr3 hat3)
        generalize (M * 2 ^ (q + 1)) % 256 = X at *
        generalize hbq : bit * 2 ^ q = Y at *
        go_region
        go_wp2
        refine ⟨⟨k + 1, by omega, congrArg (Value.int IntKind.i64) (by omega), m + 1, q, some ⟨b3, 0, none⟩, d3, rfl, by omega, hq8, ?_, ?_⟩, by simp [intOf]; omega⟩
        · have := ((unhide HO3).stored m (.int .u8 (X + Y))).1
          rw [← List.map_set, unhide HY6, unhide HM] at this
          exact this.drew
        · exact ((unhide HK3).setCell (by simpa using hb3) _).drew
      · obtain ⟨q, rfl⟩ : ∃ q, room = q + 1 := ⟨room - 1, by omega⟩
        obtain ⟨p, rfl⟩ : ∃ p, m = p + 1 := ⟨m - 1, by omega⟩
        have e8 : (k : Int) % 8 = 7 - (q : Int) := by omega
        have e9 : (7 : Int) - (7 - (q : Int)) = q := by omega
        have e1 : ((7 : Int) - (q : Int) == 0) = false := by rw [beq_eq_false_iff_ne]; omega
        have eq8 : (k : Int) / 8 = (p : Nat) := by omega
        have eqn : k / 8 = p := by omega
        have hq8 : q < 8 := by omega
        obtain ⟨y1, y2, y3, y4, y5, y6⟩ := rb_bit M bit (p + 1) q hq8 (by omega) hb0 (by omega)
        rw [Nat.add_sub_cancel] at y6
        have HY6 := hide y6
        obtain ⟨b3, rfl, hb3, hbl3, hcc3, hff3, _, cur3, hcur3⟩ := own_last hown (by omega)
        rw [Nat.add_sub_cancel] at hcc3 hff3
        obtain ⟨bL, oL, eL, hcL⟩ := ((unhide HH).keeps hkp).at_ (k := k) (by rw [bl_length]; exact hlt)
        injection eL with eL
        injection eL with eL1 eL2 _
        subst eL1; subst eL2
        rw [unhide HBG] at hcL
        have HO3 := hide hown
        have HK3 := hide hkp
        clear hown y6 hkp hg1
        generalize (M * 2 ^ (q + 1)) % 256 = X at *
        generalize hbq : bit * 2 ^ q = Y at *
        go_wp2
        go_region
        go_wp2
        refine ⟨⟨k + 1, by omega, congrArg (Value.int IntKind.i64) (by omega), p + 1, q, some ⟨b3, 0, none⟩, d, rfl, by omega, hq8, ?_, ?_⟩, by simp [intOf]; omega⟩
        · have := ((unhide HO3).stored p (.int .u8 (X + Y))).1
          rw [← List.map_set, unhide HY6, unhide HM] at this
          exact this.drew
        · exact ((unhide HK3).setCell (by simpa using hb3) _).drew
    · obtain rfl : k = n := by omega
      have hgo : GivesBytes 5 (oct N k) w (.returned (.slice B m d)) wr := by
        rw [Nat.sub_self, Int.pow_zero, Int.ediv_one, oct_of h8 hr8] at hown
        obtain ⟨_, _, e, hcc⟩ := own_form hown
        injection e with _ _ e3
        subst e3
        exact gives_of (by rw [oct_length]; omega) hcc hown hkp
      have HGO := hide hgo
      clear hgo hown
      go_wp2
      go_ret
      exact unhide HGO
end Go.Proofs.Ytgaapigagglgbaa
