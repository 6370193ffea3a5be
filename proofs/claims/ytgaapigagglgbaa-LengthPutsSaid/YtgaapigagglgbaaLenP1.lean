/- The walk of LengthPuts. -/
import Derived.Test.YtgaapigagglgbaaLenP
import Derived.Test.YtgaapigagglgbaaLenC
import Derived.Test.YtgaapigagglgbaaWP
namespace Go.Proofs.Ytgaapigagglgbaa
open Go.ChangeShapes Go.WideShapes Go.ChangeAt Go.RowKit
set_option linter.unusedVariables false

/-- The first k parts lie in a list of their own. -/
def AllRel (w : World) (ps : List Part) (k : Nat) (v : Value) (wr : World) : Prop :=
  wr.ownsRow w.heap.size 5 1 v (flat (ps.take k)).length ((flat (ps.take k)).map (Value.int .u8)) ∧ Keeps w wr ∧ (flat (ps.take k)).length ≤ 40000 * k
theorem allrel_start (w : World) (ps : List Part) : AllRel w ps 0 (.slice none 0 0) w := ⟨⟨rfl, .inl ⟨rfl, rfl⟩⟩, Keeps.refl _, Nat.le_refl _⟩
theorem allrel_step {w wr w' : World} {ps : List Part} {k : Nat} {v v' : Value} {q : Part} (h : AllRel w ps k v wr) (hq : ps[k]? = some q) (hl : q.2.2.length ≤ 40000) (hg : wr.grownBy w' v.ownBlock)
    (hown : w'.ownsRow w.heap.size 5 1 v' ((flat (ps.take k)).length + q.2.2.length) ((flat (ps.take k)).map (Value.int .u8) ++ q.2.2.map (Value.int .u8))) : AllRel w ps (k + 1) v' w' := by
  obtain ⟨h1, h2, h3⟩ := h
  refine ⟨?_, h2.grown hg (fun k hkk => (h1.lt k hkk).1), ?_⟩
  · rw [flat_take ps k q hq, List.length_append, List.map_append]; exact hown
  · rw [flat_take ps k q hq, List.length_append]; omega
theorem fr_of_keeps {w w' : World} {g : Nat} {row : Option Nat} (hk : Keeps w w') : Fr g row w w' := (Fr.refl g row w).keeps hk

theorem ahead8 (n : Int) : ∃ nb : Nat, nb ≤ 7 ∧ Hid ((IntKind.u64.wrap n).tmod 8 = (nb : Int)) := by
  have hu0 : 0 ≤ IntKind.u64.wrap n := by rw [IntKind.wrap_u64]; exact Int.emod_nonneg _ (by decide)
  generalize IntKind.u64.wrap n = u at *
  exact ⟨(u % 8).toNat, by omega, hide (by rw [Int.tmod_eq_emod_of_nonneg hu0]; omega)⟩
set_option maxRecDepth 100000 in
set_option maxHeartbeats 4000000 in
theorem lengthPuts_any (n : Int) (P : Option Addr) (ps : List Part) (c0 : Nat) (w : World) (hn0 : -9223372036854775808 ≤ n) (hn1 : n ≤ 9223372036854775807) (hp : PartsAny w P ps) (hpl : ps.length ≤ maxLen) (hpc : ps.length ≤ c0) (hpq : ∀ q ∈ ps, q.2.2.length ≤ maxLen) :
    Calls Try.prog 4 #[.int .i64 n, .slice P ps.length c0] w fun e w' => e = .returned (.bool true) ∧ Keeps w w' := by
  obtain ⟨i0, hi0, hz0, hz1, hz2⟩ := info_parts u8_info
  have hm : ps.length ≤ 9223372036854775807 := by unfold maxLen at hpl; exact hpl
  have hfb : B8 (flat ps) := by
    rcases hp with h | ⟨b, o, _, _, hp⟩
    · rw [h]; intro x hx; simp [flat] at hx
    · exact flat_bytes hp
  have HFB := hide hfb
  have HP := hide hp
  have HPQ := hide hpq
  clear hpl hp hpq hfb
  have HPC := hide hpc
  clear hpc
  generalize hn : ps.length = np at *
  have HN := hide hn
  clear hn
  by_cases hbig : 20 < np
  · go_enter Try.func4, Try.ntmps4
    go_wp2_with (go_at_call 7; refine (awake18_any _).mono ?_; rintro e w1 ⟨rfl, hk⟩)
    go_ret
    exact ⟨rfl, hk⟩
  · have hnp : np ≤ 20 := by omega
    clear hbig hm
    go_enter Try.func4, Try.ntmps4
    go_wp2
    go_loopw [5, 6] (fun v i wr => ∃ k : Nat, k ≤ np ∧ i = .int .i64 k ∧ AllRel w ps k v wr) (fun _ i _ => np - (intOf i).toNat)
    case atStart => exact ⟨0, by omega, rfl, allrel_start w ps⟩
    case round =>
      obtain ⟨k, hk, rfl, hrel⟩ := hrel
      by_cases hlt : k < np
      · obtain ⟨b, o, rfl, q, hq, hc, hhq, hq8⟩ := ((unhide HP).keeps hrel.2.1).at_ (k := k) (by rw [unhide HN]; exact hlt)
        have hql : q.2.2.length ≤ 9223372036854775807 := by
          have := unhide HPQ q (List.mem_of_getElem? hq)
          unfold maxLen at this; exact this
        obtain ⟨qa, qc, qs⟩ := q
        simp only at hc hhq hq8 hql
        have HQ := hide hq
        have HR := hide hrel
        have HHQ := hide hhq
        have hkw := hrel.2.1
        clear hq hrel hhq hq8
        rcases Nat.lt_or_ge 40000 qs.length with hbig | hbig
        · go_wp2_with (go_at_call 7; refine (awake18_any _).mono ?_; rintro e w1 ⟨rfl, hk⟩)
          go_ret
          exact ⟨rfl, hkw.trans hk⟩
        · clear hql
          have hlen := (unhide HR).2.2
          go_wp2_with (at_builtin; go_loud (refine wpList_append_any _ rfl (.tmp 27) (.tmp 31) _ rfl w.heap.size 5 i0 _ 1 1 Try.underlying28 hi0 hz0 hz1 hz2 rfl (by omega) _ _ _ rfl (unhide HR).1 _ qa qs.length qc _ rfl (unhide HHQ) (ints_oneCell _ _) (by simp only [maxLen]; omega) (by omega) hkw.size ?_; intro v' w7 hown7 hg7 hat7))
          exact ⟨⟨k + 1, by omega, by go_num, allrel_step (unhide HR) (unhide HQ) hbig hg7 hown7⟩, by simp [intOf]; omega⟩
      · obtain rfl : k = np := by omega
        obtain ⟨hown, hk2, hlen⟩ := hrel
        have htk : ps.take k = ps := List.take_of_length_le (by rw [unhide HN]; exact Nat.le_refl _)
        rw [htk] at hown hlen
        obtain ⟨A2, c2, rfl, hc2⟩ := own_form hown
        have hrow2 := fun b e => hown.lt b ((own_row rfl).trans e)
        have hall : Holds wr A2 (flat ps) := by
          rcases hown.2 with ⟨e, hn⟩ | ⟨g, cap, cur, e, _, _, _, _⟩
          · injection e with e1 e2 e3
            subst e1
            have : flat ps = [] := List.eq_nil_of_length_eq_zero hn
            rw [this]; exact Holds.nil _
          · exact Reads.of_own hown
        have HROW2 := hide hrow2
        have HALL := hide hall
        clear hown htk hall hrow2
        obtain ⟨xs, hxs⟩ : ∃ xs, xs = flat ps := ⟨_, rfl⟩
        rw [← hxs] at HALL HFB hlen hc2 ⊢
        have HXS := hide hxs
        clear hxs
        have hwz := hk2.size
        generalize hlx : xs.length = lx at *
        have HLX := hide hlx
        clear hlx
        by_cases hb8 : 80000 < lx
        · go_wp2_with (go_at_call 7; refine (awake18_any _).mono ?_; rintro e w1 ⟨rfl, hk⟩)
          go_ret
          exact ⟨rfl, hk2.trans hk⟩
        · have hl8 : lx ≤ 80000 := by omega
          clear hlt hlen hb8
          have hk0 := (hk2.alloc (.cells #[.slice none 0 0, .int .i64 0] 32)).alloc (.cells #[.slice none 0 0] 37)
          have hw0 : WrV w.heap.size ((wr.alloc (.cells #[.slice none 0 0, .int .i64 0] 32)).alloc (.cells #[.slice none 0 0] 37)) wr.heap.size 0 0 0 0 none 0 := (wh_new wr _).alloc_ _
          have hv0 : RefV w.heap.size ((wr.alloc (.cells #[.slice none 0 0, .int .i64 0] 32)).alloc (.cells #[.slice none 0 0] 37)) (wr.heap.size + 1) 0 0 none 0 := by
            have := Blk.new (wr.alloc (.cells #[.slice none 0 0, .int .i64 0] 32)) 37 #[.slice none 0 0]
            rw [World.size_alloc] at this
            exact ⟨this, by simpa [bl] using World.ownsRow_nil _ _ _ _⟩
          have hall0 := ((unhide HALL).alloc (.cells #[.slice none 0 0, .int .i64 0] 32)).alloc (.cells #[.slice none 0 0] 37)
          have hz0 : ((wr.alloc (.cells #[.slice none 0 0, .int .i64 0] 32)).alloc (.cells #[.slice none 0 0] 37)).heap.size = wr.heap.size + 1 + 1 := by rw [World.size_alloc, World.size_alloc]
          obtain ⟨nb, hnb8, HSV⟩ := ahead8 n
          have HC1 := hide (wBits_st 1 (nb : Int) nb (St.start hw0 (by omega)) (by rw [hz0]; omega) (by omega) (by omega) (by omega) (by omega))
          have HW0 := hide hw0
          have HV0 := hide hv0
          have HK0 := hide hk0
          have HALL0 := hide hall0
          have HZ0 := hide hz0
          clear hk0 hw0 hv0 hall0 hz0 hk2
          have hsv := unhide HSV
          go_wp2_with fail
          clear hsv HSV
          with_reducible refine (unhide HC1).mono ?_
          rintro e w3 ⟨rfl, hS3⟩
          have hv3 := ref_stays (unhide HW0) (unhide HV0) (fun b e => by cases e) (by omega) hS3
          have hz3 := hS3.fr.2.2.2.1
          rw [unhide HZ0] at hz3
          have HC2 := hide (xBits_st 1 (nb : Int) nb (RSt.start hv3) (by omega) (by omega) (by omega) (by omega) (by omega))
          have HS3 := hide hS3
          clear hS3 hv3
          go_wp2_with fail
          with_reducible refine (unhide HC2).mono ?_
          rintro e w4 ⟨rfl, hR4⟩
          obtain ⟨m4, room4, A4, ca4, B4, cb4, hW4, hr4, hV4, hdis4, hq4, hqv4⟩ := both_step (unhide HW0) (unhide HV0) (fun b e => by cases e) (by omega) (unhide HS3) (Keeps.refl _) hR4
          rw [Nat.zero_add] at hW4 hV4
          have hz4 := hR4.fr.2.2.2.1
          have hrA : ∀ b, rowOf A4 = some b → wr.heap.size + 2 ≤ b := fun b e => by
            rcases hq4 b e with (h | h) | h
            · cases h
            · cases h
            · rw [unhide HZ0] at h; exact h
          have hrB : ∀ b, rowOf B4 = some b → wr.heap.size + 2 ≤ b := fun b e => by
            rcases hqv4 b e with (h | h) | h
            · cases h
            · cases h
            · rw [unhide HZ0] at h; exact h
          have hall4 : Holds w4 A2 xs := (((unhide HALL0).fr (unhide HS3).fr (fun b e => ⟨by have := unhide HROW2 b e; omega, fun e2 => by cases e2⟩))).fr hR4.fr (fun b e => ⟨by have := unhide HROW2 b e; omega, fun e2 => by cases e2⟩)
          have hk4 : Keeps w w4 := fr_keeps (fr_keeps (unhide HK0) (unhide HS3).fr (by omega) (fun b e => by cases e)) hR4.fr (by omega) (fun b e => by cases e)
          have HC3 := hide (put_any P ps k c0 10 xs hW4 hr4 (by omega) (unhide HN) (unhide HPC) ((unhide HP).keeps hk4) (unhide HXS).symm (unhide HFB) (by rw [unhide HLX]; exact hl8) (by omega) (by omega) (by rw [unhide HLX]; omega) (by omega))
          rw [unhide HLX] at HC3
          have HC4F := hide fun (w5 : World) (hS : St w.heap.size w4 wr.heap.size A4 (putN 10 (tot 0 1 nb) xs) (nb + putK 10 lx) w5) => refPut_any A2 lx c2 10 xs (ref_stays hW4 hV4 hdis4 (by omega) hS) (by have := hS.fr.2.2.2.1; omega) (unhide HLX) hc2 (hall4.fr hS.fr (fun b e => ⟨by have := unhide HROW2 b e; omega, fun e2 => by have := hrA b e2; have := unhide HROW2 b e; omega⟩)) (fun h0 b e => ⟨by have := unhide HROW2 b e; have := hS.fr.2.2.2.1; omega, by have := unhide HROW2 b e; omega, fun e2 => by have := hrB b e2; have := unhide HROW2 b e; omega⟩) (unhide HFB) hl8 (by omega) (by omega) (by omega)
          have HBS := hide fun (w5 w6 : World) (hS : St w.heap.size w4 wr.heap.size A4 (putN 10 (tot 0 1 nb) xs) (nb + putK 10 lx) w5) (hR : RSt w.heap.size w5 (wr.heap.size + 1) B4 (putN 10 (tot 0 1 nb) xs) (nb + putK 10 lx) w6) => (show WP w.heap.size w6 wr.heap.size (wr.heap.size + 1) (putN 10 (tot 0 1 nb) xs) (nb + putK 10 lx) (fun _ => True) ∧ Keeps w w6 from ⟨(both_step hW4 hV4 hdis4 (by omega) hS (Keeps.refl _) hR).any, fr_keeps (fr_keeps hk4 hS.fr (by omega) (fun b e => by have := hrA b e; omega)) hR.fr (by omega) (fun b e => by have := hrB b e; omega)⟩)
          have hnF : nb + putK 10 lx ≤ 1000000 := by have := putK_le 10 lx; omega
          clear hW4 hr4 hV4 hdis4 hq4 hqv4 hR4 hall4 hk4 hrA hrB
          generalize putN 10 (tot 0 1 nb) xs = NF at *
          generalize nb + putK 10 lx = nF at *
          go_wp2_with fail
          with_reducible refine (unhide HC3).mono ?_
          rintro e w5 ⟨rfl, hS5⟩
          have HC4 := hide (unhide HC4F w5 hS5)
          have HBS5 := hide (fun w6 => unhide HBS w5 w6 hS5)
          clear hS5 HC4F HBS
          go_wp2_with fail
          with_reducible refine (unhide HC4).mono ?_
          rintro e w6 ⟨rfl, hR6⟩
          obtain ⟨hwp6, hk6⟩ := unhide HBS5 w6 hR6
          have HWP6 := hide hwp6
          have HK6 := hide hk6
          clear hR6 hwp6 hk6
          go_wp2_with fail
          refine (awake18_any _).mono ?_
          rintro e w7 ⟨rfl, hk7⟩
          have HL7 := hide (wLen_st ((unhide HWP6).keeps hk7).w)
          have HX7 := hide (xLen_st ((unhide HWP6).keeps hk7).v)
          have HB7 := hide (wBytes_st ((unhide HWP6).keeps hk7).w (by omega))
          have HV7 := hide fun (w8 : World) (hk : Keeps w7 w8) => xBytes_st (((unhide HWP6).keeps hk7).keeps hk).v (by omega)
          have HK7 := hide ((unhide HK6).trans hk7)
          clear hk7
          go_wp2_with fail
          with_reducible refine (unhide HL7).mono ?_
          rintro e w8 ⟨rfl, hw8⟩
          rw [hw8]
          clear hw8
          go_wp2_with fail
          with_reducible refine (unhide HX7).mono ?_
          rintro e w8 ⟨rfl, hw8⟩
          rw [hw8]
          clear hw8
          go_wp2_with fail
          with_reducible refine (unhide HB7).mono ?_
          rintro e w8 ⟨A8, c8, rfl, hc8, hf8⟩
          have HV8 := hide (unhide HV7 w8 hf8.2)
          have HH8 := hide hf8.holds
          have HK8 := hide ((unhide HK7).trans hf8.2)
          clear hc8 hf8
          go_wp2_with fail
          with_reducible refine (unhide HV8).mono ?_
          rintro e w9 ⟨A9, c9, rfl, hc9, hf9⟩
          have HSM := hide (sameBytes_any A8 A9 (octW NF nF) (octW NF nF) c8 c9 w9 ((unhide HH8).keeps hf9.2) hf9.holds (octW_bytes _ _) (octW_bytes _ _))
          rw [decide_eq_true rfl] at HSM
          have HK9 := hide ((unhide HK8).trans hf9.2)
          clear hc9 hf9
          go_wp2_with fail
          with_reducible refine (unhide HSM).mono ?_
          rintro e w10 ⟨rfl, hw10⟩
          rw [← hw10]
          clear hw10
          go_wp2
          go_ret
          exact ⟨rfl, unhide HK9⟩
end Go.Proofs.Ytgaapigagglgbaa
