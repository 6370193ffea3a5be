/- The reference's TakeHead, where the number behind is none. -/
import Derived.Test.YtpogpjnbgdbpfaaTlvRefT0
namespace Go.Proofs.Ytpogpjnbgdbpfaa
open Go.ChangeShapes Go.WideShapes Go.ChangeAt Go.RowKit

set_option maxHeartbeats 2000000 in
theorem refTakeHead_bad (A : Option Addr) (xs : List Int) (c : Nat) (hx : Bytes8 xs) (hl : xs.length ≤ maxLen) (hcap : xs.length ≤ c) (hC : xs.getD 0 0 % 32 = 31) (hE : (takeTagF xs).2.2 ≠ 0) (w : World) (hh : Holds w A xs) :
    Calls Try.prog 44 #[.slice A xs.length c] w fun e w' => e = headE (takeHeadF xs) ∧ Keeps w w' := by
  unfold maxLen at hl
  by_cases h0 : xs.length = 0
  · have hz : takeHeadF xs = ((0, 0), false, 0, 0, 3) := takeHeadF_bad (by unfold takeTagF; rw [if_pos h0]) (by omega)
    rw [hz, h0]
    go_enter Try.func44, Try.ntmps44
    go_wp2
    refine bodyPost_ret (results_tag5 rfl rfl (Blk.new _ _ _)) rfl ?_
    exact ⟨rfl, (Keeps.refl _).alloc _⟩
  · obtain ⟨b, o, rfl, hcs⟩ := hh.cells (by omega)
    have k0 := hcs 0 (by omega)
    rw [Nat.add_zero] at k0
    obtain ⟨hx1, hx2⟩ := bytes8_getD hx 0
    have ha := u8_and31 _ hx1 hx2
    have ha2 := u8_and32 _ hx1 hx2
    have hnz : 0 < xs.length := by omega
    have hz := takeTagF_pos h0
    have kA := (hh.keeps ((Keeps.refl w).alloc (.cells #[.int .i64 0, .int .i64 0] 52))).cell_in (k := 0) hnz
    rw [Nat.add_zero] at kA
    have HH := hide hh
    clear hcs hh h0
    have hlt := (unhide HH).lt_ hnz
    generalize hq : xs.getD 0 0 = q at *
    generalize hn : xs.length = n at *
    by_cases hlow : q % 32 ≠ 31
    · exact absurd hC hlow
    · rw [if_neg hlow] at hz
      have e0 : q % 32 = 31 := by omega
      have hds : (xs.drop 1).length = n - 1 := by rw [List.length_drop, hn]
      have hxd : Bytes8 (xs.drop 1) := fun x m => hx x (List.mem_of_mem_drop m)
      have hG : ∀ w', Keeps w w' → Calls Try.prog 34 #[.slice (if c = 1 then some ⟨b, o, none⟩ else (some (⟨b, o, none⟩ : Addr)).map (·.add 1)) (n - 1) (c - 1)] w' fun e w'' => e = .returned (.tuple #[.int .u64 (takeG 0 0 (xs.drop 1)).1, .int .i64 (takeG 0 0 (xs.drop 1)).2.1, .int .i64 (takeG 0 0 (xs.drop 1)).2.2]) ∧ w' = w'' := fun w' hk => by
        have := refTakeGroups_any _ (xs.drop 1) (c - 1) hxd (by unfold maxLen; omega) w' (((unhide HH).from_ (m := 1) (c := c) (by omega) (by omega)).keeps hk)
        rwa [hds] at this
      have hrd := fun h => takeG_is hxd h
      rw [hds] at hrd
      generalize takeG 0 0 (xs.drop 1) = r at *
      obtain ⟨v, kk, e⟩ := r
      simp only at hz hG hrd
      by_cases he : e = 0
      · subst he
        obtain ⟨k, rfl, hk1, hk2, _, hv0, hv1⟩ := hrd rfl
        have hc1 : ¬ c = 1 := by omega
        rw [if_neg hc1] at hG
        simp only [Option.map_some, add_one_at] at hG
        have HG := hide hG
        clear hG hrd hxd hds
        by_cases hr : v < 31 ∨ 268435456 < v
        · have hz4 : takeTagF xs = ((0, 0), 0, 4) := by rw [if_neg (by simp), if_pos hr] at hz; exact hz
          have HZ := hide (takeHeadF_bad hz4 (by omega))
          clear hz4
          clear hz hlow
          rcases hr with hr | hr
          all_goals
            go_enter Try.func44, Try.ntmps44
            go_wp2_with fail
            go_region
            go_wp2_with fail
            with_reducible refine (unhide HG _ (((Keeps.refl w).alloc _).alloc _).drew).mono ?_
            rintro e2 w1 ⟨rfl, rfl⟩
            go_wp2
            rw [unhide HZ]
            refine bodyPost_ret (results_tag5 rfl rfl ((Blk.new _ _ _).alloc _).drew) rfl ?_
            exact ⟨rfl, (((Keeps.refl _).alloc _).alloc _).drew⟩
        · exact absurd (by rw [if_neg (by simp), if_neg hr] at hz; rw [hz]) hE
      · have hz4 : takeTagF xs = ((0, 0), 0, e) := by rw [if_pos he] at hz; exact hz
        have HZ := hide (takeHeadF_bad hz4 he)
        clear hz4
        have e1 : (e != 0) = true := by rw [bne_iff_ne]; exact he
        clear hz hlow hrd hxd hds he
        by_cases hc1 : c = 1
        · subst hc1
          obtain rfl : n = 1 := by omega
          rw [if_pos rfl] at hG
          simp only [Nat.sub_self] at hG
          have HG := hide hG
          clear hG
          go_enter Try.func44, Try.ntmps44
          go_wp2_with fail
          go_region
          go_wp2_with fail
          with_reducible refine (unhide HG _ (((Keeps.refl w).alloc _).alloc _).drew).mono ?_
          rintro e2 w1 ⟨rfl, rfl⟩
          go_wp2
          rw [unhide HZ]
          refine bodyPost_ret (results_tag5 rfl rfl ((Blk.new _ _ _).alloc _).drew) rfl ?_
          exact ⟨rfl, (((Keeps.refl _).alloc _).alloc _).drew⟩
        · rw [if_neg hc1] at hG
          simp only [Option.map_some, add_one_at] at hG
          have HG := hide hG
          clear hG
          go_enter Try.func44, Try.ntmps44
          go_wp2_with fail
          go_region
          go_wp2_with fail
          with_reducible refine (unhide HG _ (((Keeps.refl w).alloc _).alloc _).drew).mono ?_
          rintro e2 w1 ⟨rfl, rfl⟩
          go_wp2
          rw [unhide HZ]
          refine bodyPost_ret (results_tag5 rfl rfl ((Blk.new _ _ _).alloc _).drew) rfl ?_
          exact ⟨rfl, (((Keeps.refl _).alloc _).alloc _).drew⟩
end Go.Proofs.Ytpogpjnbgdbpfaa
