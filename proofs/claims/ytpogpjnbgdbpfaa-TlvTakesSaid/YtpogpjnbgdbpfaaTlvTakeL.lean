/- The contract of tlv.takeLength. -/
import Derived.Test.YtpogpjnbgdbpfaaTlvTag
namespace Go.Proofs.Ytpogpjnbgdbpfaa
open Go.ChangeShapes Go.WideShapes Go.ChangeAt Go.RowKit

/-- What takeLength answers, as an ending. -/
def lenE (r : Int × Int × Int) : Ending := .returned (.tuple #[.int .i64 r.1, .int .i64 r.2.1, .int .i64 r.2.2])
theorem takeLenF_pos {xs : List Int} (h0 : ¬ xs.length = 0) : takeLenF xs = if xs.getD 0 0 < 128 then (xs.getD 0 0, 1, 0)
  else if xs.getD 0 0 = 128 ∨ 136 < xs.getD 0 0 then (0, 0, 4)
  else if (xs.length : Int) < 1 + (xs.getD 0 0 - 128) then (0, 0, 3)
  else if (takeU ((xs.drop 1).take (xs.getD 0 0 - 128).toNat)).2 ≠ 0 ∨ (takeU ((xs.drop 1).take (xs.getD 0 0 - 128).toNat)).1 < 128 ∨ 2147483647 < (takeU ((xs.drop 1).take (xs.getD 0 0 - 128).toNat)).1 then (0, 0, 4)
  else ((takeU ((xs.drop 1).take (xs.getD 0 0 - 128).toNat)).1, 1 + (xs.getD 0 0 - 128), 0) := by unfold takeLenF; rw [if_neg h0]

set_option maxHeartbeats 2000000 in
theorem takeLength_any (A : Option Addr) (xs : List Int) (c : Nat) (hx : Bytes8 xs) (hl : xs.length ≤ maxLen) (hcap : xs.length ≤ c) (w : World) (hh : Holds w A xs) :
    Calls Try.prog 53 #[.slice A xs.length c] w fun e w' => e = lenE (takeLenF xs) ∧ Keeps w w' := by
  unfold maxLen at hl
  by_cases h0 : xs.length = 0
  · have hz : takeLenF xs = (0, 0, 3) := by unfold takeLenF; rw [if_pos h0]
    rw [hz, h0]
    go_enter Try.func53, Try.ntmps53
    go_wp2
    go_ret3
    exact ⟨rfl, Keeps.refl _⟩
  · obtain ⟨b, o, rfl, hcs⟩ := hh.cells (by omega)
    have k0 := hcs 0 (by omega)
    rw [Nat.add_zero] at k0
    obtain ⟨hx1, hx2⟩ := bytes8_getD hx 0
    have hnz : 0 < xs.length := by omega
    have hz := takeLenF_pos h0
    have HH := hide hh
    clear hcs hh h0
    generalize hq : xs.getD 0 0 = q at *
    generalize hn : xs.length = n at *
    by_cases h1 : q < 128
    · rw [if_pos h1] at hz
      have HZ := hide hz
      clear hz
      go_enter Try.func53, Try.ntmps53
      go_wp2
      go_ret3
      rw [unhide HZ]
      exact ⟨rfl, Keeps.refl _⟩
    · rw [if_neg h1] at hz
      have hq1 : 128 ≤ q := by omega
      by_cases h2 : q = 128 ∨ 136 < q
      · rw [if_pos h2] at hz
        have HZ := hide hz
        clear hz h1
        rcases h2 with h2 | h2
        · subst h2
          go_enter Try.func53, Try.ntmps53
          go_wp2
          go_ret3
          rw [unhide HZ]
          exact ⟨rfl, Keeps.refl _⟩
        · have e0 : (q - 128 == 0) = false := by rw [beq_eq_false_iff_ne]; omega
          go_enter Try.func53, Try.ntmps53
          go_wp2
          go_ret3
          rw [unhide HZ]
          exact ⟨rfl, Keeps.refl _⟩
      · rw [if_neg h2] at hz
        have hq2 : 129 ≤ q := by omega
        have hq3 : q ≤ 136 := by omega
        have e0 : (q - 128 == 0) = false := by rw [beq_eq_false_iff_ne]; omega
        by_cases h3 : (n : Int) < 1 + (q - 128)
        · rw [if_pos h3] at hz
          have HZ := hide hz
          clear hz h1 h2
          go_enter Try.func53, Try.ntmps53
          go_wp2
          go_ret3
          rw [unhide HZ]
          exact ⟨rfl, Keeps.refl _⟩
        · rw [if_neg h3] at hz
          generalize hm : (q - 128).toNat = m at *
          have hqm : q - 128 = m := by omega
          have hds : ((xs.drop 1).take m).length = m := by rw [List.length_take, List.length_drop, hn]; omega
          have hxd : Bytes8 ((xs.drop 1).take m) := fun x h => hx x (List.mem_of_mem_drop (List.mem_of_mem_take h))
          have hU : ∀ w', Keeps w w' → Calls Try.prog 31 #[.slice (some ⟨b, o + 1, none⟩) m (c - 1)] w' fun e w'' => e = .returned (.tuple #[.int .u64 (takeU ((xs.drop 1).take m)).1, .int .i64 (takeU ((xs.drop 1).take m)).2]) ∧ Keeps w' w'' := fun w' hk => by
            have h4 := (((unhide HH).from_ (m := 1) (c := c) (by omega) (by omega)).keeps hk).upto m
            rw [if_neg (by omega)] at h4
            simp only [Option.map_some, add_one_at] at h4
            have := takeUnsigned_any _ ((xs.drop 1).take m) (c - 1) hxd (by unfold maxLen; omega) w' h4
            rwa [hds] at this
          have HU := hide hU
          have hrd := fun h => takeU_is hxd h
          clear hU hds h1 h2
          generalize takeU ((xs.drop 1).take m) = r at *
          obtain ⟨v, e⟩ := r
          simp only at hz HU hrd
          have HQM := hide hqm
          by_cases he : e = 0
          · subst he
            obtain ⟨_, hv0, hv1⟩ := hrd rfl
            by_cases hr : v < 128 ∨ 2147483647 < v
            · have HZ : Hid (takeLenF xs = (0, 0, 4)) := by rw [if_pos (Or.inr hr)] at hz; exact hz
              rcases hr with hr | hr
              all_goals
                clear hz hxd hx hm hqm hrd
                go_enter Try.func53, Try.ntmps53
                go_wp2_with fail
                rw [show (1 + (q - 128)).toNat - 1 = m from by have := unhide HQM; omega]
                refine (unhide HU _ (Keeps.refl _)).mono ?_
                rintro e2 w1 ⟨rfl, hk⟩
                go_wp2
                go_ret3
                rw [unhide HZ]
                exact ⟨rfl, hk⟩
            · have HZ : Hid (takeLenF xs = (v, 1 + (q - 128), 0)) := by rw [if_neg (fun h => h.elim (fun h => h rfl) hr)] at hz; rw [hz, hqm]; exact rfl
              have hr1 : 128 ≤ v := by omega
              have hr2 : v ≤ 2147483647 := by omega
              clear hr
              clear hz hxd hx hm hqm hrd
              go_enter Try.func53, Try.ntmps53
              go_wp2_with fail
              rw [show (1 + (q - 128)).toNat - 1 = m from by have := unhide HQM; omega]
              refine (unhide HU _ (Keeps.refl _)).mono ?_
              rintro e2 w1 ⟨rfl, hk⟩
              go_wp2
              go_ret3
              rw [unhide HZ]
              exact ⟨rfl, hk⟩
          · have HZ : Hid (takeLenF xs = (0, 0, 4)) := by rw [if_pos (Or.inl he)] at hz; exact hz
            have e1 : (e != 0) = true := by rw [bne_iff_ne]; exact he
            clear he
            clear hz hxd hx hm hqm hrd
            go_enter Try.func53, Try.ntmps53
            go_wp2_with fail
            rw [show (1 + (q - 128)).toNat - 1 = m from by have := unhide HQM; omega]
            refine (unhide HU _ (Keeps.refl _)).mono ?_
            rintro e2 w1 ⟨rfl, hk⟩
            go_wp2
            go_ret3
            rw [unhide HZ]
            exact ⟨rfl, hk⟩

end Go.Proofs.Ytpogpjnbgdbpfaa
