/- The walk of OctetsWrite. -/
import Derived.Test.YtpogpjnbgdbpfaaParts
import Derived.Test.YtpogpjnbgdbpfaaRefOct
import Derived.Test.YtpogpjnbgdbpfaaCmp
import Derived.Test.YtpogpjnbgdbpfaaKept
namespace Go.Proofs.Ytpogpjnbgdbpfaa
open Go.ChangeShapes Go.WideShapes Go.ChangeAt Go.RowKit

set_option maxRecDepth 100000 in
set_option maxHeartbeats 8000000 in
theorem write_any (v u : Int) (A B C : Option Addr) (ps : List Part) (xs ys : List Int) (c d e0 : Nat) (w : World) (h1 : -9223372036854775808 ≤ v) (h2 : v ≤ 9223372036854775807) (h3 : 0 ≤ u) (h4 : u ≤ 18446744073709551615)
    (hp : PartsAny w A ps) (hpl : ps.length ≤ maxLen) (hpc : ps.length ≤ c) (hpq : ∀ q ∈ ps, q.2.2.length ≤ maxLen) (hh : Holds w B xs) (hx : B8 xs) (hl : xs.length ≤ maxLen) (hh2 : Holds w C ys) (hx2 : B8 ys) (hl2 : ys.length ≤ maxLen) :
    Calls Try.prog 3 #[.int .i64 v, .int .u64 u, .slice A ps.length c, .slice B xs.length d, .slice C ys.length e0] w fun e w' => e = .returned (.bool true) ∧ Keeps w w' := by
  obtain ⟨i0, hi0, hz0, hz1, hz2⟩ := info_parts u8_info
  have hm : ps.length ≤ 9223372036854775807 := by unfold maxLen at hpl; exact hpl
  have hm2 : xs.length ≤ 9223372036854775807 := by unfold maxLen at hl; exact hl
  have hm3 : ys.length ≤ 9223372036854775807 := by unfold maxLen at hl2; exact hl2
  have HPQ := hide hpq
  clear hpl hl hl2 hpq
  by_cases hb : 40 < ps.length ∨ 3000 < xs.length ∨ 3000 < ys.length
  · clear hh hp hh2
    have hcond : (decide ((40 : Int) < (ps.length : Int)) || decide ((3000 : Int) < (xs.length : Int)) || decide ((3000 : Int) < (ys.length : Int))) = true := by
      rcases hb with h | h | h
      · rw [decide_eq_true (by omega)]; rfl
      · rw [decide_eq_true (p := (3000 : Int) < (xs.length : Int)) (by omega)]; simp
      · rw [decide_eq_true (p := (3000 : Int) < (ys.length : Int)) (by omega)]; simp
    have HC := hide hcond
    rcases Nat.lt_or_ge 40 ps.length with hb1 | hb1
    · clear hb hcond
      go_enter Try.func3, Try.ntmps3
      go_wp2_with (go_at_call 16; refine (awake02_any _).mono ?_; rintro e w1 ⟨rfl, hk⟩)
      all_goals
        go_ret
        exact ⟨rfl, hk⟩
    · rcases Nat.lt_or_ge 3000 xs.length with hb2 | hb2
      · clear hb hcond
        go_enter Try.func3, Try.ntmps3
        go_wp2_with (go_at_call 16; refine (awake02_any _).mono ?_; rintro e w1 ⟨rfl, hk⟩)
        all_goals
          go_ret
          exact ⟨rfl, hk⟩
      · have hb3 : 3000 < ys.length := by omega
        clear hb hcond
        go_enter Try.func3, Try.ntmps3
        go_wp2_with (go_at_call 16; refine (awake02_any _).mono ?_; rintro e w1 ⟨rfl, hk⟩)
        all_goals
          go_ret
          exact ⟨rfl, hk⟩
  · have hn0 : ps.length ≤ 40 := by omega
    have hn1 : xs.length ≤ 3000 := by omega
    have hn2 : ys.length ≤ 3000 := by omega
    clear hb hm hm2 hm3
    have HP := hide hp
    have HH := hide hh
    have HH2 := hide hh2
    have HX := hide hx
    have HX2 := hide hx2
    clear hp hh hh2 hx hx2
    generalize hn : ps.length = n at *
    have HN := hide hn
    clear hn
    go_enter Try.func3, Try.ntmps3
    go_wp2
    go_loopw [11, 12] (fun v i wr => ∃ k : Nat, k ≤ n ∧ i = .int .i64 k ∧ AllRel w ps k v wr) (fun _ i _ => n - (intOf i).toNat)
    case atStart => exact ⟨0, by omega, rfl, allrel_start w ps⟩
    case round =>
      obtain ⟨k, hk, rfl, hrel⟩ := hrel
      by_cases hlt : k < n
      · obtain ⟨b, o, rfl, q, hq, hc, hhq, hq8⟩ := ((unhide HP).keeps hrel.2.1).at_ (k := k) (by rw [unhide HN]; exact hlt)
        have hql : q.2.2.length ≤ 9223372036854775807 := by
          have := unhide HPQ q (List.mem_of_getElem? hq)
          unfold maxLen at this; exact this
        obtain ⟨qa, qc, qs⟩ := q
        simp only at hc hhq hq8 hql
        have HQ := hide hq
        have HR := hide hrel
        have HHQ := hide hhq
        have hkw := hrel.2.1
        clear hq hrel hhq hq8
        rcases Nat.lt_or_ge 500 qs.length with hbig | hbig
        · go_wp2_with (go_at_call 16; refine (awake02_any _).mono ?_; rintro e w1 ⟨rfl, hk⟩)
          go_ret
          exact ⟨rfl, hkw.trans hk⟩
        · clear hql
          have hlen := (unhide HR).2.2
          go_wp2_with (at_builtin; refine wpList_append_any _ rfl (.tmp 41) (.tmp 45) _ rfl w.heap.size 5 i0 _ 1 1 Try.underlying24 hi0 hz0 hz1 hz2 rfl (by omega) _ _ _ rfl (unhide HR).1 _ qa qs.length qc _ rfl (unhide HHQ) (ints_oneCell _ _) (by simp only [maxLen]; omega) (by omega) hkw.size ?_; intro v' w7 hown7 hg7 hat7)
          exact ⟨⟨k + 1, by omega, by go_num, allrel_step (unhide HR) (unhide HQ) hbig hg7 hown7⟩, by simp [intOf]; omega⟩
      · obtain rfl : k = n := by omega
        obtain ⟨hown, hk, hlen⟩ := hrel
        have htk : ps.take k = ps := List.take_of_length_le (by rw [unhide HN]; exact Nat.le_refl _)
        rw [htk] at hown hlen
        obtain ⟨A2, c2, rfl, hc2⟩ := own_form hown
        have hall : Holds wr A2 (flat ps) := by
          rcases hown.2 with ⟨e, hn⟩ | ⟨g, cap, cur, e, _, _, _, _⟩
          · injection e with e1 e2 e3
            subst e1
            have : flat ps = [] := List.eq_nil_of_length_eq_zero hn
            rw [this]; exact Holds.nil _
          · exact Reads.of_own hown
        have hfb : B8 (flat ps) := by
          rcases unhide HP with h | ⟨b, o, _, _, hp⟩
          · rw [h]; intro x hx; simp [flat] at hx
          · exact flat_bytes hp
        have hfl : (flat ps).length ≤ 20000 := by omega
        have HA := hide hall
        have HFB := hide hfb
        clear hown hlen htk hall hfb
        go_wp2_with fail
        refine (own_any B xs d 71 (by omega) _ ((unhide HH).keeps hk)).mono ?_
        rintro e w1 ⟨g, rfl, hb, hg, hk1⟩
        have HB := hide hb
        clear hb
        go_wp2_with fail
        refine (awake02_any _).mono ?_
        rintro e w2 ⟨rfl, hk2⟩
        go_wp2_with fail
        refine (signed_any v h1 h2 _).mono ?_
        rintro e w3 ⟨A3, c3, rfl, hc3, hf3⟩
        go_wp2_with fail
        refine (refSigned_any v h1 h2 _).mono ?_
        rintro e w4 ⟨A4, c4, rfl, hc4, hf4⟩
        go_wp2_with fail
        refine (sameBytes_any A3 A4 _ _ c3 c4 _ (hf3.holds.keeps hf4.2) hf4.holds (lo_range _ _) (lo_range _ _)).mono ?_
        rintro e w5 ⟨rfl, rfl⟩
        rw [decide_eq_true rfl]
        replace hk2 := (hk2.trans hf3.2).trans hf4.2
        clear hf3 hf4
        go_wp2_with fail
        refine (unsigned_any u h3 h4 _).mono ?_
        rintro e w3 ⟨A3, c3, rfl, hc3, hf3⟩
        go_wp2_with fail
        refine (refUnsigned_any u h3 h4 _).mono ?_
        rintro e w4 ⟨A4, c4, rfl, hc4, hf4⟩
        go_wp2_with fail
        refine (sameBytes_any A3 A4 _ _ c3 c4 _ (hf3.holds.keeps hf4.2) hf4.holds (lo_range _ _) (lo_range _ _)).mono ?_
        rintro e w5 ⟨rfl, rfl⟩
        rw [decide_eq_true rfl]
        replace hk2 := (hk2.trans hf3.2).trans hf4.2
        clear hf3 hf4
        go_wp2_with fail
        refine (groups_any u h3 h4 _).mono ?_
        rintro e w3 ⟨A3, c3, rfl, hc3, hf3⟩
        go_wp2_with fail
        refine (refGroups_any u h3 h4 _).mono ?_
        rintro e w4 ⟨A4, c4, rfl, hc4, hf4⟩
        go_wp2_with fail
        refine (sameBytes_any A3 A4 _ _ c3 c4 _ (hf3.holds.keeps hf4.2) hf4.holds (gOct_bytes u h3) (gOct_bytes u h3)).mono ?_
        rintro e w5 ⟨rfl, rfl⟩
        rw [decide_eq_true rfl]
        replace hk2 := (hk2.trans hf3.2).trans hf4.2
        clear hf3 hf4
        go_wp2_with fail
        refine (join_any A k c ps _ (unhide HN) (by omega) ((unhide HP).keeps ((hk.trans hk1).trans hk2)) (by omega) (by omega)).mono ?_
        rintro e w6 ⟨A6, c6, rfl, hc6, hh6, _, hk6⟩
        go_wp2_with fail
        refine (sameBytes_any A6 A2 _ _ c6 c2 _ hh6 ((unhide HA).keeps ((hk1.trans hk2).trans hk6)) (unhide HFB) (unhide HFB)).mono ?_
        rintro e w5 ⟨rfl, rfl⟩
        rw [decide_eq_true rfl]
        replace hk2 := hk2.trans hk6
        clear hk6 hh6
        go_wp2_with fail
        refine (compare_any (some ⟨g, 0, none⟩) C xs ys (xs.length + 3) e0 _ (ownCells_holds ((unhide HB).keeps hk2)) ((unhide HH2).keeps ((hk.trans hk1).trans hk2)) (unhide HX) (unhide HX2)).mono ?_
        rintro e w7 ⟨rfl, rfl⟩
        go_wp2_with fail
        refine (refCompare_any B C xs ys d e0 _ ((unhide HH).keeps ((hk.trans hk1).trans hk2)) ((unhide HH2).keeps ((hk.trans hk1).trans hk2)) (unhide HX) (unhide HX2)).mono ?_
        rintro e w7 ⟨rfl, rfl⟩
        go_wp2_with fail
        refine (kept_any g B xs d 71 (by omega) _ ((unhide HB).keeps hk2) ((unhide HH).keeps ((hk.trans hk1).trans hk2))).mono ?_
        rintro e w7 ⟨rfl, hk7⟩
        go_wp2
        go_ret
        exact ⟨rfl, ((hk.trans hk1).trans hk2).trans hk7⟩

end Go.Proofs.Ytpogpjnbgdbpfaa
