/- The walk of OctetsJoin. -/
import Derived.Test.YtpogpjnbgdbpfaaJoin
import Derived.Test.YtpogpjnbgdbpfaaSpoil
import Derived.Test.YtpogpjnbgdbpfaaRowsI
import Derived.Test.YtpogpjnbgdbpfaaBack
namespace Go.Proofs.Ytpogpjnbgdbpfaa
open Go.ChangeShapes Go.WideShapes Go.ChangeAt Go.RowKit

abbrev partV (q : Part) : Value := .slice q.1 q.2.2.length q.2.1
theorem parts_info : (Try.prog.info? 24).map (fun i => (i.zero, i.size, i.bytes)) = some (some (.slice none 0 0), 1, 24) := by kernel_rfl
theorem parts_one (ps : List Part) : ∀ u ∈ ps.map partV, u.oneCell' = true := by
  intro u hu
  obtain ⟨q, _, rfl⟩ := List.mem_map.1 hu
  rfl
theorem own_parts {w w1 : World} {base : Nat} {v : Value} {ps : List Part} (h : w.ownsRow base 24 1 v ps.length (ps.map partV)) (hh : ∀ q ∈ ps, Holds w1 q.1 q.2.2 ∧ B8 q.2.2) (hk : Keeps w1 w) :
    ∃ A c, v = .slice A ps.length c ∧ ps.length ≤ c ∧ PartsAny w A ps := by
  rcases h.2 with ⟨rfl, hn⟩ | ⟨g, cap, cur, rfl, hb, hg, hc, _⟩
  · exact ⟨none, 0, by rw [hn], by omega, .inl (List.eq_nil_of_length_eq_zero hn)⟩
  · refine ⟨_, cap, rfl, hc, ?_⟩
    rcases Nat.eq_zero_or_pos ps.length with h0 | h0
    · exact .inl (List.eq_nil_of_length_eq_zero h0)
    · obtain ⟨g', cap', hv, _, hlt⟩ := h.form h0
      injection hv with hv1 hv2 hv3
      injection hv1 with hv1
      injection hv1 with hv1
      subst hv1
      refine .inr ⟨g, 0, rfl, hlt, fun i q hq => ?_⟩
      have hi : i < ps.length := (List.getElem?_eq_some_iff.1 hq).1
      have hm : q ∈ ps := List.mem_of_getElem? hq
      obtain ⟨h1, h2⟩ := hh q hm
      refine ⟨?_, h1.keeps hk, h2⟩
      have hcell := h.cells (g := g) rfl i (partV q) (by rw [List.getElem?_map, hq]; rfl)
      rw [show (⟨g, 0, none⟩ : Addr).add i = ⟨g, 0 + i, none⟩ from by unfold Addr.add; split <;> simp_all] at hcell
      exact hcell
theorem Holds.cut {w : World} {A : Option Addr} {ys : List Int} (h : Holds w A ys) {m c : Nat} (hm : m ≤ ys.length) (hc : ys.length ≤ c) : Holds w (if c = m then A else A.map (·.add m)) (ys.drop m) := by
  have := Reads.cut h hm hc
  rw [Nat.mul_one, ← List.map_drop] at this
  have e : ys.length - m = (ys.drop m).length := by rw [List.length_drop]
  rw [e] at this
  exact this
/-- At the beginning of a round. -/
def JRel (w1 : World) (xs : List Int) (wr : World) (k : Nat) (pv rv : Value) : Prop :=
  ∃ (ps : List Part) (ys : List Int) (Ar : Option Addr) (cr : Nat), rv = .slice Ar ys.length cr ∧ ys.length ≤ cr ∧ Holds w1 Ar ys ∧ B8 ys ∧ wr.ownsRow w1.heap.size 24 1 pv ps.length (ps.map partV) ∧
    (∀ q ∈ ps, Holds w1 q.1 q.2.2 ∧ B8 q.2.2) ∧ flat ps ++ ys = xs ∧ Keeps w1 wr ∧ ps.length = k
theorem own_part1 (w : World) (v : Value) : (w.alloc (.cells #[v] 24)).ownsRow w.heap.size 24 1 (.slice (some ⟨w.heap.size, 0, none⟩) 1 1) 1 [v] := by
  have hb := Blk.new w 24 #[v]
  exact ⟨by simp, .inr ⟨w.heap.size, 1, #[v], rfl, Nat.le_refl _, hb, Nat.le_refl _, by unfold maxLen; omega, by simp, by simp⟩⟩

theorem jrel_step {w1 wr w7 : World} {xs ys : List Int} {ps : List Part} {Ar : Option Addr} {cr m k : Nat} {v' v0 : Value} (hm : m ≤ ys.length) (hcr : ys.length ≤ cr) (hy : Holds w1 Ar ys) (hy8 : B8 ys)
    (hps : ∀ q ∈ ps, Holds w1 q.1 q.2.2 ∧ B8 q.2.2) (hf : flat ps ++ ys = xs) (hpl : ps.length = k) (hk : Keeps w1 wr) (hg : (wr.alloc (.cells #[.slice Ar m cr] 24)).grownBy w7 v0.ownBlock) (hown0 : wr.ownsRow w1.heap.size 24 1 v0 ps.length (ps.map partV))
    (hown : w7.ownsRow w1.heap.size 24 1 v' (ps.length + 1) (ps.map partV ++ [.slice Ar m cr])) :
    JRel w1 xs w7 (k + 1) v' (.slice (if cr = m then Ar else Ar.map (fun x => x.add m)) (ys.length - m) (cr - m)) := by
  refine ⟨ps ++ [(Ar, cr, ys.take m)], ys.drop m, _, _, by rw [List.length_drop], by rw [List.length_drop]; omega, Holds.cut hy hm hcr, fun x hx => hy8 x (List.mem_of_mem_drop hx), ?_, ?_, ?_, (hk.alloc _).grown hg (fun k hkk => (hown0.lt k hkk).1), by simp [hpl]⟩
  · rw [List.map_append, List.length_append]
    have e : partV (Ar, cr, ys.take m) = .slice Ar m cr := by simp [partV, List.length_take_of_le hm]
    rw [List.map_cons, e]
    exact hown
  · intro q hq
    rcases List.mem_append.1 hq with h | h
    · exact hps q h
    · obtain rfl : q = (Ar, cr, ys.take m) := by simpa using h
      exact ⟨hy.take m hm, fun x hx => hy8 x (List.mem_of_mem_take hx)⟩
  · rw [← hf]
    simp [flat, List.append_assoc]
theorem jrel_end {w1 wr w7 : World} {xs ys : List Int} {ps : List Part} {Ar : Option Addr} {cr : Nat} {v' v0 : Value} (hy : Holds w1 Ar ys) (hy8 : B8 ys)
    (hps : ∀ q ∈ ps, Holds w1 q.1 q.2.2 ∧ B8 q.2.2) (hf : flat ps ++ ys = xs) (hk : Keeps w1 wr) (hg : (wr.alloc (.cells #[.slice Ar ys.length cr] 24)).grownBy w7 v0.ownBlock) (hown0 : wr.ownsRow w1.heap.size 24 1 v0 ps.length (ps.map partV))
    (hown : w7.ownsRow w1.heap.size 24 1 v' (ps.length + 1) (ps.map partV ++ [.slice Ar ys.length cr])) :
    ∃ qs A c, v' = .slice A qs.length c ∧ qs.length ≤ c ∧ PartsAny w7 A qs ∧ flat qs = xs ∧ qs.length = ps.length + 1 ∧ Keeps w1 w7 := by
  have hk7 : Keeps w1 w7 := (hk.alloc _).grown hg (fun k hkk => (hown0.lt k hkk).1)
  have hall : ∀ q ∈ ps ++ [(Ar, cr, ys)], Holds w1 q.1 q.2.2 ∧ B8 q.2.2 := by
    intro q hq
    rcases List.mem_append.1 hq with h | h
    · exact hps q h
    · obtain rfl : q = (Ar, cr, ys) := by simpa using h
      exact ⟨hy, hy8⟩
  obtain ⟨A, c, e, hc, hP⟩ := own_parts (ps := ps ++ [(Ar, cr, ys)]) (by simpa using hown) hall hk7
  exact ⟨_, A, c, e, hc, hP, by rw [← hf]; simp [flat], by simp, hk7⟩
theorem Wr.keeps {B : Nat} {w w' : World} {A : Option Addr} {xs : List Int} (h : Wr B w A xs.length) (hh : Holds w A xs) (hk : Keeps w w') : Wr B w' A xs.length := by
  intro h0
  obtain ⟨g, rfl, hg, hf⟩ := h h0
  obtain ⟨ad, e, hb, _⟩ := hh.2 h0
  injection e with e
  subst e
  exact ⟨g, rfl, hg, fun i hi => (Below.frozen (p := ⟨g, i, none⟩) hk hb).trans (hf i hi)⟩
theorem flat3 (A : Option Addr) (c : Nat) (xs : List Int) : flat [(none, 0, []), (A, c, xs), (none, 0, [])] = xs := by simp [flat]
theorem parts3 {w : World} {A : Option Addr} {xs : List Int} {c : Nat} (hh : Holds w A xs) (hx : B8 xs) :
    PartsAny (w.alloc (.cells #[.slice none 0 0, .slice A xs.length c, .slice none 0 0] 24)) (some ⟨w.heap.size, 0, none⟩) [(none, 0, []), (A, c, xs), (none, 0, [])] := by
  have hb := Blk.new w 24 #[.slice none 0 0, .slice A xs.length c, .slice none 0 0]
  have hk : Keeps w (w.alloc (.cells #[.slice none 0 0, .slice A xs.length c, .slice none 0 0] 24)) := (Keeps.refl _).alloc _
  refine .inr ⟨_, 0, rfl, hb.lt, fun i q hq => ?_⟩
  rw [Nat.zero_add, hb.cell]
  match i, hq with
  | 0, hq => obtain rfl : (none, 0, []) = q := by simpa using hq
             exact ⟨rfl, ⟨by simp, fun h => absurd h (by simp)⟩, fun x hx => by simp at hx⟩
  | 1, hq => obtain rfl : (A, c, xs) = q := by simpa using hq
             exact ⟨rfl, hh.keeps hk, hx⟩
  | 2, hq => obtain rfl : (none, 0, []) = q := by simpa using hq
             exact ⟨rfl, ⟨by simp, fun h => absurd h (by simp)⟩, fun x hx => by simp at hx⟩
  | n + 3, hq => simp at hq

set_option maxRecDepth 100000 in
set_option maxHeartbeats 8000000 in
theorem joinLaw_any (A B : Option Addr) (xs : List Int) (c n d : Nat) (f : Nat → Int) (w : World) (hh : Holds w A xs) (hx : B8 xs) (hl : xs.length ≤ maxLen) (_hc : xs.length ≤ c) (hb : Row1 w B n (fun i => .int .i64 (f i))) (hl2 : n ≤ maxLen) :
    Calls Try.prog 8 #[.slice A xs.length c, .slice B n d] w fun e w' => e = .returned (.bool true) ∧ Keeps w w' := by
  obtain ⟨i0, hi0, hz0, hz1, hz2⟩ := info_parts parts_info
  have hm : xs.length ≤ 9223372036854775807 := by unfold maxLen at hl; exact hl
  have hm2 : n ≤ 9223372036854775807 := by unfold maxLen at hl2; exact hl2
  have HL := hide hl
  clear hl hl2
  by_cases hb1 : 2000 < xs.length
  · clear hh hb
    go_enter Try.func8, Try.ntmps8
    go_wp2_with (go_at_call 16; refine (awake02_any _).mono ?_; rintro e w1 ⟨rfl, hk⟩)
    all_goals
      go_ret
      exact ⟨rfl, hk⟩
  · by_cases hb2 : 20 < n
    · clear hh hb
      go_enter Try.func8, Try.ntmps8
      go_wp2_with (go_at_call 16; refine (awake02_any _).mono ?_; rintro e w1 ⟨rfl, hk⟩)
      all_goals
        go_ret
        exact ⟨rfl, hk⟩
    · have hn1 : xs.length ≤ 2000 := by omega
      have hn2 : n ≤ 20 := by omega
      clear hb1 hb2 hm hm2
      have HH := hide hh
      have HB := hide hb
      have HX := hide hx
      go_enter Try.func8, Try.ntmps8
      go_wp2_with fail
      refine (copy_any A xs c (by omega) _ hh).mono ?_
      clear hh hb hx
      rintro e w1 ⟨A1, c1, rfl, hc1, hf1⟩
      have hrel0 : JRel w1 xs w1 0 (.slice none 0 0) (.slice A1 xs.length c1) := ⟨[], xs, A1, c1, rfl, hc1, hf1.holds, unhide HX, ⟨by simp, .inl ⟨rfl, rfl⟩⟩, fun q hq => absurd hq (by simp), rfl, Keeps.refl _, rfl⟩
      have HR := hide hrel0
      have hk1 := hf1.2
      clear hrel0 hf1
      go_wp2
      go_loopw [5, 6, 7] (fun pv rv i wr => ∃ k : Nat, k ≤ n ∧ i = .int .i64 k ∧ JRel w1 xs wr k pv rv) (fun _ _ i _ => n - (intOf i).toNat)
      case atStart => exact ⟨0, by omega, rfl, unhide HR⟩
      case round =>
        obtain ⟨k, hk, rfl, ps, ys, Ar, cr, rfl, hcr, hy, hy8, hown, hps, hflat, hkk, hpl⟩ := hrel
        have hyl : ys.length ≤ 2000 := by
          have := congrArg List.length hflat
          rw [List.length_append] at this
          omega
        by_cases hlt : k < n
        · obtain ⟨bb, bo, rfl, hbb, hbc⟩ := (unhide HB).keeps (hk1.trans hkk) k hlt
          simp only at hbc
          generalize f k = z at *
          obtain ⟨hwr0, hwr1⟩ := wrap_range z
          have hk0 : 0 ≤ IntKind.u64.wrap z % ((ys.length : Int) + 1) := Int.emod_nonneg _ (by omega)
          have hk2 : IntKind.u64.wrap z % ((ys.length : Int) + 1) < (ys.length : Int) + 1 := Int.emod_lt_of_pos _ (by omega)
          obtain ⟨m, hme⟩ := Int.eq_ofNat_of_zero_le hk0
          have hml : m ≤ ys.length := by omega
          clear hk0 hk2
          have HW := hide hown
          have HP := hide hps
          have HF := hide hflat
          have HY := hide hy
          have HY8 := hide hy8
          clear hown hps hflat hy hy8
          have hmc : m ≤ cr := Nat.le_trans hml hcr
          go_wp2_with (at_builtin; refine wpList_append_any _ rfl (.tmp 38) (.tmp 42) _ rfl w1.heap.size 24 i0 _ 1 24 Try.underlying23 hi0 hz0 hz1 hz2 rfl (by omega) _ ps.length _ rfl ((unhide HW).alloc _) _ (some ⟨wr.heap.size, 0, none⟩) 1 1 [.slice Ar m cr] rfl (Reads.of_own (own_part1 wr _)) (by simp [Value.oneCell']) (by simp only [maxLen]; omega) (by omega) (Nat.le_trans hkk.size (by simp)) ?_; intro v' w7 hown7 hg7 hat7)
          exact ⟨⟨k + 1, by omega, by go_num, jrel_step (v0 := u5) hml hcr (unhide HY) (unhide HY8) (unhide HP) (unhide HF) hpl hkk hg7 (unhide HW) hown7⟩, by simp [intOf]; omega⟩
        · obtain rfl : k = n := by omega
          have HW := hide hown
          have HP := hide hps
          have HF := hide hflat
          have HY := hide hy
          have HY8 := hide hy8
          clear hown hps hflat hy hy8
          go_wp2_with (at_builtin; refine wpList_append_any _ rfl (.tmp 47) (.tmp 49) _ rfl w1.heap.size 24 i0 _ 1 24 Try.underlying23 hi0 hz0 hz1 hz2 rfl (by omega) _ ps.length _ rfl ((unhide HW).alloc _) _ (some ⟨wr.heap.size, 0, none⟩) 1 1 [.slice Ar ys.length cr] rfl (Reads.of_own (own_part1 wr _)) (by simp [Value.oneCell']) (by simp only [maxLen]; omega) (by omega) (Nat.le_trans hkk.size (by simp)) ?_; intro v' w7 hown7 hg7 hat7)
          obtain ⟨qs, A2, c2, rfl, hc2, hP2, hfl, hql, hk7⟩ := jrel_end (v0 := u5) (unhide HY) (unhide HY8) (unhide HP) (unhide HF) hkk hg7 (unhide HW) hown7
          clear hown7 hg7 hat7 HW HP HF HY HY8
          replace hk7 := hk1.trans hk7
          have hfx : (flat qs).length ≤ 140737488355328 := by rw [hfl]; omega
          have HFX := hide hfx
          clear hfx
          have hq2 : qs.length = k + 1 := by omega
          rw [hq2] at hc2 ⊢
          have HQL := hide hq2
          have HQ := hide hP2
          clear hq2 hql hpl hP2
          refine (join_any A2 (k + 1) c2 qs _ (unhide HQL) hc2 (unhide HQ) (unhide HFX) (by omega)).mono ?_
          rintro e w8 ⟨A3, c3, rfl, hc3, hh3, hwr3, hk8⟩
          rw [hfl] at hc3 hh3 hwr3 ⊢
          have HH3 := hide hh3
          have HW3 := hide hwr3
          clear hh3 hwr3
          go_wp2_with fail
          refine (awake02_any _).mono ?_
          rintro e w9 ⟨rfl, hk9⟩
          go_wp2_with fail
          refine (sameBytes_any A3 A xs xs c3 c _ ((unhide HH3).keeps hk9) ((unhide HH).keeps ((hk7.trans hk8).trans hk9)) (unhide HX) (unhide HX)).mono ?_
          rintro e w10 ⟨rfl, rfl⟩
          rw [decide_eq_true rfl]
          go_wp2_with fail
          refine (join_any none 0 0 [] _ rfl (Nat.le_refl _) (.inl rfl) (by simp [flat]) (by omega)).mono ?_
          rintro e w11 ⟨A4, c4, rfl, hc4, _, _, hk11⟩
          replace hk11 := hk9.trans hk11
          have hfl0 : (flat []).length = 0 := rfl
          rw [hfl0]
          clear hfl0 hc4 hk9
          go_wp2_with fail
          have hA11 := (unhide HH).keeps ((hk7.trans hk8).trans hk11)
          refine (join_any (some ⟨w11.heap.size, 0, none⟩) 3 3 [(none, 0, []), (A, c, xs), (none, 0, [])] _ rfl (Nat.le_refl _) (parts3 hA11 (unhide HX)) (by rw [flat3]; omega) (by omega)).mono ?_
          rintro e w12 ⟨A5, c5, rfl, hc5, hh5, _, hk12⟩
          rw [flat3] at hc5 hh5 ⊢
          replace hk12 := (hk11.alloc _).trans hk12
          clear hA11 hk11
          go_wp2_with fail
          refine (sameBytes_any A5 A xs xs c5 c _ hh5 ((unhide HH).keeps ((hk7.trans hk8).trans hk12)) (unhide HX) (unhide HX)).mono ?_
          rintro e w13 ⟨rfl, rfl⟩
          rw [decide_eq_true rfl]
          go_wp2_with fail
          refine (spoil_any A3 xs c3 w7.heap.size _ ((unhide HH3).keeps hk12) (unhide HX) ((unhide HW3).keeps (unhide HH3) hk12) (by omega)).mono ?_
          rintro e w14 ⟨rfl, hsp⟩
          have hk14 : Keeps w7 w14 := Below.trans (hk8.trans hk12) hsp
          clear hsp hk12 hh5 hc5
          go_wp2_with fail
          refine (join_any A2 (k + 1) c2 qs _ (unhide HQL) hc2 ((unhide HQ).keeps hk14) (unhide HFX) (by omega)).mono ?_
          rintro e w15 ⟨A6, c6, rfl, hc6, hh6, _, hk15⟩
          rw [hfl] at hc6 hh6 ⊢
          go_wp2_with fail
          refine (sameBytes_any A6 A xs xs c6 c _ hh6 ((unhide HH).keeps ((hk7.trans hk14).trans hk15)) (unhide HX) (unhide HX)).mono ?_
          rintro e w16 ⟨rfl, rfl⟩
          rw [decide_eq_true rfl]
          go_wp2
          go_ret
          exact ⟨rfl, (hk7.trans hk14).trans hk15⟩

end Go.Proofs.Ytpogpjnbgdbpfaa
