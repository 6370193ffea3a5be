/- The reference's TakeHead, where the number stands behind. -/
import Derived.Test.YtpogpjnbgdbpfaaTlvRefT0
namespace Go.Proofs.Ytpogpjnbgdbpfaa
open Go.ChangeShapes Go.WideShapes Go.ChangeAt Go.RowKit

set_option maxHeartbeats 2000000 in
theorem refTakeHead_far (A : Option Addr) (xs : List Int) (c : Nat) (hx : Bytes8 xs) (hl : xs.length ≤ maxLen) (hcap : xs.length ≤ c) (hC : xs.getD 0 0 % 32 = 31) (hE : (takeTagF xs).2.2 = 0) (w : World) (hh : Holds w A xs) :
    Calls Try.prog 44 #[.slice A xs.length c] w fun e w' => e = headE (takeHeadF xs) ∧ Keeps w w' := by
  unfold maxLen at hl
  by_cases h0 : xs.length = 0
  · have hz : takeHeadF xs = ((0, 0), false, 0, 0, 3) := takeHeadF_bad (by unfold takeTagF; rw [if_pos h0]) (by omega)
    rw [hz, h0]
    go_enter Try.func44, Try.ntmps44
    go_wp2
    refine bodyPost_ret (results_tag5 rfl rfl (Blk.new _ _ _)) rfl ?_
    exact ⟨rfl, (Keeps.refl _).alloc _⟩
  · obtain ⟨b, o, rfl, hcs⟩ := hh.cells (by omega)
    have k0 := hcs 0 (by omega)
    rw [Nat.add_zero] at k0
    obtain ⟨hx1, hx2⟩ := bytes8_getD hx 0
    have ha := u8_and31 _ hx1 hx2
    have ha2 := u8_and32 _ hx1 hx2
    have hnz : 0 < xs.length := by omega
    have hz := takeTagF_pos h0
    have kA := (hh.keeps ((Keeps.refl w).alloc (.cells #[.int .i64 0, .int .i64 0] 52))).cell_in (k := 0) hnz
    rw [Nat.add_zero] at kA
    have HH := hide hh
    clear hcs hh h0
    have hlt := (unhide HH).lt_ hnz
    generalize hq : xs.getD 0 0 = q at *
    generalize hn : xs.length = n at *
    by_cases hlow : q % 32 ≠ 31
    · exact absurd hC hlow
    · rw [if_neg hlow] at hz
      have e0 : q % 32 = 31 := by omega
      have hds : (xs.drop 1).length = n - 1 := by rw [List.length_drop, hn]
      have hxd : Bytes8 (xs.drop 1) := fun x m => hx x (List.mem_of_mem_drop m)
      have hG : ∀ w', Keeps w w' → Calls Try.prog 34 #[.slice (if c = 1 then some ⟨b, o, none⟩ else (some (⟨b, o, none⟩ : Addr)).map (·.add 1)) (n - 1) (c - 1)] w' fun e w'' => e = .returned (.tuple #[.int .u64 (takeG 0 0 (xs.drop 1)).1, .int .i64 (takeG 0 0 (xs.drop 1)).2.1, .int .i64 (takeG 0 0 (xs.drop 1)).2.2]) ∧ w' = w'' := fun w' hk => by
        have := refTakeGroups_any _ (xs.drop 1) (c - 1) hxd (by unfold maxLen; omega) w' (((unhide HH).from_ (m := 1) (c := c) (by omega) (by omega)).keeps hk)
        rwa [hds] at this
      have hrd := fun h => takeG_is hxd h
      rw [hds] at hrd
      generalize takeG 0 0 (xs.drop 1) = r at *
      obtain ⟨v, kk, e⟩ := r
      simp only at hz hG hrd
      by_cases he : e = 0
      · subst he
        obtain ⟨k, rfl, hk1, hk2, _, hv0, hv1⟩ := hrd rfl
        have hc1 : ¬ c = 1 := by omega
        rw [if_neg hc1] at hG
        simp only [Option.map_some, add_one_at] at hG
        have HG := hide hG
        clear hG hrd hxd hds
        by_cases hr : v < 31 ∨ 268435456 < v
        · rw [if_neg (by simp), if_pos hr] at hz; rw [hz] at hE; simp at hE
        · have hzm : takeTagF xs = ((q / 64, v), ((1 + k : Nat) : Int), 0) := by rw [if_neg (by simp), if_neg hr] at hz; rw [hz]; simp
          have HZM := hide hzm
          have hr1 : 31 ≤ v := by omega
          have hr2 : v ≤ 268435456 := by omega
          clear hz hzm hlow hr
          by_cases hm : n ≤ (1 + k)
          · have HZ := hide (takeHeadF_l1 (unhide HZM) (by rw [hn]; exact hm))
            go_enter Try.func44, Try.ntmps44
            go_wp2_with fail
            go_region
            go_wp2_with fail
            with_reducible refine (unhide HG _ (((Keeps.refl w).alloc _).alloc _).drew).mono ?_
            rintro e2 w1 ⟨rfl, rfl⟩
            go_wp2
            rw [unhide HZ]
            refine bodyPost_ret (results_tag5 rfl rfl ((Blk.new _ _ _).alloc _).drew) rfl ?_
            exact ⟨rfl, (((Keeps.refl _).alloc _).alloc _).drew⟩
          · have hm1 : (1 + k) < n := by omega
            have kT := ((unhide HH).keeps (((Keeps.refl w).alloc (.cells #[.int .i64 0, .int .i64 0] 52)).alloc (.cells #[.int .i64 (q / 64), .int .i64 v] 52))).cell_in (k := (1 + k)) (by omega)
            obtain ⟨hy1, hy2⟩ := bytes8_getD hx (1 + k)
            have hd := takeLenF_drop (xs := xs) (m := (1 + k)) (by omega) rfl
            rw [show (1 + k) + 1 = (1 + k + 1) from rfl] at hd
            have hth := takeHeadF_tag (unhide HZM)
            rw [hq] at hth
            rw [hn] at hd
            have hxd : ∀ j, Bytes8 ((xs.drop (1 + k + 1)).take j) := fun j x h => hx x (List.mem_of_mem_drop (List.mem_of_mem_take h))
            generalize hq2 : xs.getD (1 + k) 0 = q2 at *
            clear hm
            by_cases h1 : q2 < 128
            · have HZ : Hid (takeHeadF xs = ((q / 64, v), (q / 32 % 2 * 32 != 0), q2, ((1 : Int) + (k : Int) + 1), 0)) := by rw [hth, hd, if_pos h1, if_neg (by simp)]; show (_, _, _, _, _) = _; rw [show ((((1 + k) : Nat) : Int) + 1) = ((1 : Int) + (k : Int) + 1) from by omega]
              clear hd hth hxd
              go_enter Try.func44, Try.ntmps44
              go_wp2_with fail
              go_region
              go_wp2_with fail
              with_reducible refine (unhide HG _ (((Keeps.refl w).alloc _).alloc _).drew).mono ?_
              rintro e2 w1 ⟨rfl, rfl⟩
              go_wp2
              rw [unhide HZ]
              refine bodyPost_ret (results_tag5 rfl rfl ((Blk.new _ _ _).alloc _).drew) rfl ?_
              exact ⟨rfl, (((Keeps.refl _).alloc _).alloc _).drew⟩
            · rw [if_neg h1] at hd
              have hq3 : 128 ≤ q2 := by omega
              by_cases h2 : q2 = 128 ∨ 136 < q2
              · have HZ : Hid (takeHeadF xs = ((0, 0), false, 0, 0, 4)) := by rw [hth, hd, if_pos h2, if_pos (by simp)]; exact rfl
                clear hd hth hxd h1
                rcases h2 with h2 | h2
                · subst h2
                  go_enter Try.func44, Try.ntmps44
                  go_wp2_with fail
                  go_region
                  go_wp2_with fail
                  with_reducible refine (unhide HG _ (((Keeps.refl w).alloc _).alloc _).drew).mono ?_
                  rintro e2 w1 ⟨rfl, rfl⟩
                  go_wp2
                  rw [unhide HZ]
                  refine bodyPost_ret (results_tag5 rfl rfl ((Blk.new _ _ _).alloc _).drew) rfl ?_
                  exact ⟨rfl, (((Keeps.refl _).alloc _).alloc _).drew⟩
                · have e9 : (q2 - 128 == 0) = false := by rw [beq_eq_false_iff_ne]; omega
                  go_enter Try.func44, Try.ntmps44
                  go_wp2_with fail
                  go_region
                  go_wp2_with fail
                  with_reducible refine (unhide HG _ (((Keeps.refl w).alloc _).alloc _).drew).mono ?_
                  rintro e2 w1 ⟨rfl, rfl⟩
                  go_wp2
                  rw [unhide HZ]
                  refine bodyPost_ret (results_tag5 rfl rfl ((Blk.new _ _ _).alloc _).drew) rfl ?_
                  exact ⟨rfl, (((Keeps.refl _).alloc _).alloc _).drew⟩
              · rw [if_neg h2] at hd
                have hq4 : 129 ≤ q2 := by omega
                have hq5 : q2 ≤ 136 := by omega
                have e9 : (q2 - 128 == 0) = false := by rw [beq_eq_false_iff_ne]; omega
                clear h1 h2
                by_cases h3 : ((n - (1 + k) : Nat) : Int) < 1 + (q2 - 128)
                · have HZ : Hid (takeHeadF xs = ((0, 0), false, 0, 0, 3)) := by rw [hth, hd, if_pos h3, if_pos (by simp)]; exact rfl
                  have h4 : (n : Int) - (((1 + k) : Nat) + 1) < q2 - 128 := by omega
                  clear hd hth hxd h3
                  go_enter Try.func44, Try.ntmps44
                  go_wp2_with fail
                  go_region
                  go_wp2_with fail
                  with_reducible refine (unhide HG _ (((Keeps.refl w).alloc _).alloc _).drew).mono ?_
                  rintro e2 w1 ⟨rfl, rfl⟩
                  go_wp2
                  rw [unhide HZ]
                  refine bodyPost_ret (results_tag5 rfl rfl ((Blk.new _ _ _).alloc _).drew) rfl ?_
                  exact ⟨rfl, (((Keeps.refl _).alloc _).alloc _).drew⟩
                · rw [if_neg h3] at hd
                  have h4 : q2 - 128 ≤ (n : Int) - (((1 + k) : Nat) + 1) := by omega
                  have hcm : ¬ c = (1 + k + 1) := by omega
                  have hds : ((xs.drop (1 + k + 1)).take (q2 - 128).toNat).length = (q2 - 128).toNat := by rw [List.length_take, List.length_drop, hn]; omega
                  have hU : ∀ w', Keeps w w' → Calls Try.prog 32 #[.slice (some ⟨b, o + (1 + k + 1), none⟩) (q2 - 128).toNat (c - (1 + k + 1))] w' fun e w'' => e = .returned (.tuple #[.int .u64 (takeU ((xs.drop (1 + k + 1)).take (q2 - 128).toNat)).1, .int .i64 (takeU ((xs.drop (1 + k + 1)).take (q2 - 128).toNat)).2]) ∧ Keeps w' w'' := fun w' hk => by
                    have h5 := (((unhide HH).from_ (m := (1 + k + 1)) (c := c) (by omega) (by omega)).keeps hk).upto (q2 - 128).toNat
                    rw [if_neg hcm] at h5
                    simp only [Option.map_some, add_at_] at h5
                    have := refTakeUnsigned_any _ ((xs.drop (1 + k + 1)).take (q2 - 128).toNat) (c - (1 + k + 1)) (hxd _) (by unfold maxLen; omega) w' h5
                    rwa [hds] at this
                  have HU := hide hU
                  have hrd := fun h => takeU_is (hxd (q2 - 128).toNat) h
                  clear hU hds h3 hxd
                  generalize takeU ((xs.drop (1 + k + 1)).take (q2 - 128).toNat) = r at *
                  obtain ⟨y, e⟩ := r
                  simp only at hd HU hrd
                  clear hx
                  by_cases he : e = 0
                  · subst he
                    obtain ⟨_, hv0, hv1⟩ := hrd rfl
                    by_cases hr : y < 128 ∨ 2147483647 < y
                    · have HZ : Hid (takeHeadF xs = ((0, 0), false, 0, 0, 4)) := by rw [hth, hd, if_pos (Or.inr hr), if_pos (by simp)]; exact rfl
                      clear hd hth
                      rcases hr with hr | hr
                      all_goals
                        go_enter Try.func44, Try.ntmps44
                        go_wp2_with fail
                        go_region
                        go_wp2_with fail
                        with_reducible refine (unhide HG _ (((Keeps.refl w).alloc _).alloc _).drew).mono ?_
                        rintro e2 w1 ⟨rfl, rfl⟩
                        go_wp2_with fail
                        rw [show (1 + (k : Int) + 1 + (q2 - 128)).toNat - (1 + k + 1) = (q2 - 128).toNat from by omega]
                        with_reducible refine (unhide HU _ (((Keeps.refl w).alloc (.cells #[.int .i64 0, .int .i64 0] 52)).alloc (.cells #[.int .i64 (q / 64), .int .i64 v] 52)).drew).mono ?_
                        rintro e3 w2 ⟨rfl, hk⟩
                        have hb := (((Blk.new w 52 #[.int .i64 0, .int .i64 0]).alloc (.cells #[.int .i64 (q / 64), .int .i64 v] 52)).drew).keeps hk
                        have ht := ((Blk.new (w.alloc (.cells #[.int .i64 0, .int .i64 0] 52)) 52 #[.int .i64 (q / 64), .int .i64 v]).drew).keeps hk
                        rw [size_alloc1] at ht
                        obtain ⟨hbc, hbf, hbl⟩ := hb.facts
                        obtain ⟨htc, htf, htl⟩ := ht.facts
                        have hb0 : w2.cell? ⟨w.heap.size, 0, none⟩ = some (.int .i64 0) := hbc 0
                        have hb1 : w2.cell? ⟨w.heap.size, 1, none⟩ = some (.int .i64 0) := hbc 1
                        have ht0 : w2.cell? ⟨w.heap.size + 1, 0, none⟩ = some (.int .i64 (q / 64)) := htc 0
                        have ht1 : w2.cell? ⟨w.heap.size + 1, 1, none⟩ = some (.int .i64 v) := htc 1
                        have HB := hide hb
                        have HK := hide ((((Keeps.refl w).alloc (.cells #[.int .i64 0, .int .i64 0] 52)).alloc (.cells #[.int .i64 (q / 64), .int .i64 v] 52)).drew.trans hk)
                        clear hb ht hk
                        go_wp2
                        rw [unhide HZ]
                        refine bodyPost_ret (results_tag5 rfl rfl ((unhide HB).set2 _ _)) rfl ?_
                        exact ⟨rfl, (unhide HK).set2 (Nat.le_refl _) _ _⟩
                    · have HZ : Hid (takeHeadF xs = ((q / 64, v), (q / 32 % 2 * 32 != 0), y, ((1 : Int) + (k : Int) + 1) + (q2 - 128), 0)) := by rw [if_neg (fun h : (0 : Int) ≠ 0 ∨ y < 128 ∨ 2147483647 < y => h.elim (fun h => h rfl) hr)] at hd; rw [hth, hd, if_neg (by simp)]; show ((_, _, _, _, _) : (Int × Int) × Bool × Int × Int × Int) = _; rw [show ((((1 + k) : Nat) : Int) + (1 + (q2 - 128))) = ((1 : Int) + (k : Int) + 1) + (q2 - 128) from by omega]
                      have hr1 : 128 ≤ y := by omega
                      have hr2 : y ≤ 2147483647 := by omega
                      clear hr hd hth
                      go_enter Try.func44, Try.ntmps44
                      go_wp2_with fail
                      go_region
                      go_wp2_with fail
                      with_reducible refine (unhide HG _ (((Keeps.refl w).alloc _).alloc _).drew).mono ?_
                      rintro e2 w1 ⟨rfl, rfl⟩
                      go_wp2_with fail
                      rw [show (1 + (k : Int) + 1 + (q2 - 128)).toNat - (1 + k + 1) = (q2 - 128).toNat from by omega]
                      with_reducible refine (unhide HU _ (((Keeps.refl w).alloc (.cells #[.int .i64 0, .int .i64 0] 52)).alloc (.cells #[.int .i64 (q / 64), .int .i64 v] 52)).drew).mono ?_
                      rintro e3 w2 ⟨rfl, hk⟩
                      have hb := (((Blk.new w 52 #[.int .i64 0, .int .i64 0]).alloc (.cells #[.int .i64 (q / 64), .int .i64 v] 52)).drew).keeps hk
                      have ht := ((Blk.new (w.alloc (.cells #[.int .i64 0, .int .i64 0] 52)) 52 #[.int .i64 (q / 64), .int .i64 v]).drew).keeps hk
                      rw [size_alloc1] at ht
                      obtain ⟨hbc, hbf, hbl⟩ := hb.facts
                      obtain ⟨htc, htf, htl⟩ := ht.facts
                      have hb0 : w2.cell? ⟨w.heap.size, 0, none⟩ = some (.int .i64 0) := hbc 0
                      have hb1 : w2.cell? ⟨w.heap.size, 1, none⟩ = some (.int .i64 0) := hbc 1
                      have ht0 : w2.cell? ⟨w.heap.size + 1, 0, none⟩ = some (.int .i64 (q / 64)) := htc 0
                      have ht1 : w2.cell? ⟨w.heap.size + 1, 1, none⟩ = some (.int .i64 v) := htc 1
                      have HB := hide hb
                      have HK := hide ((((Keeps.refl w).alloc (.cells #[.int .i64 0, .int .i64 0] 52)).alloc (.cells #[.int .i64 (q / 64), .int .i64 v] 52)).drew.trans hk)
                      clear hb ht hk
                      go_wp2
                      rw [unhide HZ]
                      refine bodyPost_ret (results_tag5 rfl rfl ((unhide HB).set2 _ _)) rfl ?_
                      exact ⟨rfl, (unhide HK).set2 (Nat.le_refl _) _ _⟩
                  · have HZ : Hid (takeHeadF xs = ((0, 0), false, 0, 0, 4)) := by rw [hth, hd, if_pos (Or.inl he), if_pos (by simp)]; exact rfl
                    have e1 : (e != 0) = true := by rw [bne_iff_ne]; exact he
                    clear hd hth he
                    go_enter Try.func44, Try.ntmps44
                    go_wp2_with fail
                    go_region
                    go_wp2_with fail
                    with_reducible refine (unhide HG _ (((Keeps.refl w).alloc _).alloc _).drew).mono ?_
                    rintro e2 w1 ⟨rfl, rfl⟩
                    go_wp2_with fail
                    rw [show (1 + (k : Int) + 1 + (q2 - 128)).toNat - (1 + k + 1) = (q2 - 128).toNat from by omega]
                    with_reducible refine (unhide HU _ (((Keeps.refl w).alloc (.cells #[.int .i64 0, .int .i64 0] 52)).alloc (.cells #[.int .i64 (q / 64), .int .i64 v] 52)).drew).mono ?_
                    rintro e3 w2 ⟨rfl, hk⟩
                    have hb := (((Blk.new w 52 #[.int .i64 0, .int .i64 0]).alloc (.cells #[.int .i64 (q / 64), .int .i64 v] 52)).drew).keeps hk
                    have ht := ((Blk.new (w.alloc (.cells #[.int .i64 0, .int .i64 0] 52)) 52 #[.int .i64 (q / 64), .int .i64 v]).drew).keeps hk
                    rw [size_alloc1] at ht
                    obtain ⟨hbc, hbf, hbl⟩ := hb.facts
                    obtain ⟨htc, htf, htl⟩ := ht.facts
                    have hb0 : w2.cell? ⟨w.heap.size, 0, none⟩ = some (.int .i64 0) := hbc 0
                    have hb1 : w2.cell? ⟨w.heap.size, 1, none⟩ = some (.int .i64 0) := hbc 1
                    have ht0 : w2.cell? ⟨w.heap.size + 1, 0, none⟩ = some (.int .i64 (q / 64)) := htc 0
                    have ht1 : w2.cell? ⟨w.heap.size + 1, 1, none⟩ = some (.int .i64 v) := htc 1
                    have HB := hide hb
                    have HK := hide ((((Keeps.refl w).alloc (.cells #[.int .i64 0, .int .i64 0] 52)).alloc (.cells #[.int .i64 (q / 64), .int .i64 v] 52)).drew.trans hk)
                    clear hb ht hk
                    go_wp2
                    rw [unhide HZ]
                    refine bodyPost_ret (results_tag5 rfl rfl ((unhide HB).set2 _ _)) rfl ?_
                    exact ⟨rfl, (unhide HK).set2 (Nat.le_refl _) _ _⟩
      · rw [if_pos he] at hz; rw [hz] at hE; exact absurd hE he
end Go.Proofs.Ytpogpjnbgdbpfaa
