/- The walk of OctetsCompare. -/
import Derived.Test.YtpogpjnbgdbpfaaCmp
import Derived.Test.YtpogpjnbgdbpfaaRead
namespace Go.Proofs.Ytpogpjnbgdbpfaa
open Go.ChangeShapes Go.WideShapes Go.ChangeAt Go.RowKit

theorem Holds.take {w : World} {A : Option Addr} {xs : List Int} (h : Holds w A xs) (k : Nat) (hk : k ≤ xs.length) : Holds w A (xs.take k) := by
  have hl : (xs.take k).length = k := by simp; omega
  refine ⟨by simp, fun hn => ?_⟩
  rw [hl] at hn
  obtain ⟨ad, e, hb, hc⟩ := h.2 (by omega)
  refine ⟨ad, e, hb, fun j u hu => hc j u ?_⟩
  have hj : j < k := by
    rcases Nat.lt_or_ge j k with h1 | h1
    · exact h1
    · rw [List.getElem?_eq_none (by rw [List.length_map, hl]; exact h1)] at hu; cases hu
  rw [List.getElem?_map] at hu ⊢
  rwa [List.getElem?_take_of_lt hj] at hu
theorem Bytes8.take {xs : List Int} (h : Bytes8 xs) (k : Nat) : Bytes8 (xs.take k) := fun x m => h x (List.mem_of_mem_take m)

set_option maxHeartbeats 4000000 in
theorem compareLaw_any (A B : Option Addr) (xs ys : List Int) (c d : Nat) (cut : Int) (w : World) (hh : Holds w A xs) (hx : Bytes8 xs) (hl : xs.length ≤ maxLen) (hc : xs.length ≤ c)
    (hh2 : Holds w B ys) (hx2 : Bytes8 ys) (hl2 : ys.length ≤ maxLen) :
    Calls Try.prog 9 #[.slice A xs.length c, .slice B ys.length d, .int .i64 cut] w fun e w' => e = .returned (.bool true) ∧ Keeps w w' := by
  have hm : xs.length ≤ 9223372036854775807 := by unfold maxLen at hl; exact hl
  have hm2 : ys.length ≤ 9223372036854775807 := by unfold maxLen at hl2; exact hl2
  clear hl hl2
  by_cases hbig : 2000 < xs.length ∨ 2000 < ys.length
  · by_cases hb1 : 2000 < xs.length
    · clear hbig
      go_enter Try.func9, Try.ntmps9
      go_wp2_with (go_at_call 16; refine (awake02_any _).mono ?_; rintro e w1 ⟨rfl, hk⟩)
      all_goals
        go_ret
        exact ⟨rfl, hk⟩
    · have hb2 : 2000 < ys.length := by omega
      clear hbig
      go_enter Try.func9, Try.ntmps9
      go_wp2_with (go_at_call 16; refine (awake02_any _).mono ?_; rintro e w1 ⟨rfl, hk⟩)
      all_goals
        go_ret
        exact ⟨rfl, hk⟩
  · have hn1 : xs.length ≤ 2000 := by omega
    have hn2 : ys.length ≤ 2000 := by omega
    clear hbig hm hm2
    obtain ⟨hwr0, hwr1⟩ := wrap_range cut
    have hk0 : 0 ≤ IntKind.u64.wrap cut % ((xs.length : Int) + 1) := Int.emod_nonneg _ (by omega)
    have hk1 : IntKind.u64.wrap cut % ((xs.length : Int) + 1) < (xs.length : Int) + 1 := Int.emod_lt_of_pos _ (by omega)
    obtain ⟨k, hk⟩ := Int.eq_ofNat_of_zero_le hk0
    have hkn : k ≤ xs.length := by omega
    clear hk0 hk1
    have hC := fun w h => compare_any A A (xs.take k) xs c c w (Holds.take h k hkn) h (hx.take k) hx
    rw [cmpI_take xs k hkn, List.length_take_of_le hkn] at hC
    have HC := hide hC
    have hr := cmpI_range xs ys
    have hr1 : -1 ≤ cmpI xs ys := by omega
    have hr2 : cmpI xs ys ≤ 1 := by omega
    have hz : (cmpI xs ys == 0) = decide (xs = ys) := by
      by_cases e : xs = ys
      · rw [decide_eq_true e]; exact beq_iff_eq.2 ((cmpI_zero xs ys).2 e)
      · rw [decide_eq_false e]; exact beq_eq_false_iff_ne.2 (fun h => e ((cmpI_zero xs ys).1 h))
    have HZ := hide hz
    clear hr hC hz
    by_cases hkl : k < xs.length
    · have HV : Hid ((if k < xs.length then (-1 : Int) else 0) = -1) := if_pos hkl
      go_enter Try.func9, Try.ntmps9
      go_wp2_with fail
      refine (compare_any A B xs ys c d _ hh hh2 hx hx2).mono ?_
      rintro e w1 ⟨rfl, rfl⟩
      go_wp2_with fail
      refine (compare_any B A ys xs d c _ hh2 hh hx2 hx).mono ?_
      rintro e w1 ⟨rfl, rfl⟩
      rw [cmpI_neg xs ys]
      go_wp2_with fail
      refine (awake02_any _).mono ?_
      rintro e w1 ⟨rfl, hkk⟩
      replace hh := hh.keeps hkk
      replace hh2 := hh2.keeps hkk
      go_wp2_with fail
      refine (sameBytes_any A B xs ys c d _ hh hh2 hx hx2).mono ?_
      rintro e w2 ⟨rfl, rfl⟩
      rw [← unhide HZ]
      go_wp2_with fail
      refine (unhide HC _ hh).mono ?_
      rintro e w2 ⟨rfl, rfl⟩
      rw [unhide HV]
      go_wp2
      go_ret
      exact ⟨rfl, hkk⟩
    · have HV : Hid ((if k < xs.length then (-1 : Int) else 0) = 0) := if_neg hkl
      go_enter Try.func9, Try.ntmps9
      go_wp2_with fail
      refine (compare_any A B xs ys c d _ hh hh2 hx hx2).mono ?_
      rintro e w1 ⟨rfl, rfl⟩
      go_wp2_with fail
      refine (compare_any B A ys xs d c _ hh2 hh hx2 hx).mono ?_
      rintro e w1 ⟨rfl, rfl⟩
      rw [cmpI_neg xs ys]
      go_wp2_with fail
      refine (awake02_any _).mono ?_
      rintro e w1 ⟨rfl, hkk⟩
      replace hh := hh.keeps hkk
      replace hh2 := hh2.keeps hkk
      go_wp2_with fail
      refine (sameBytes_any A B xs ys c d _ hh hh2 hx hx2).mono ?_
      rintro e w2 ⟨rfl, rfl⟩
      rw [← unhide HZ]
      go_wp2_with fail
      refine (unhide HC _ hh).mono ?_
      rintro e w2 ⟨rfl, rfl⟩
      rw [unhide HV]
      go_wp2
      go_ret
      exact ⟨rfl, hkk⟩

end Go.Proofs.Ytpogpjnbgdbpfaa
