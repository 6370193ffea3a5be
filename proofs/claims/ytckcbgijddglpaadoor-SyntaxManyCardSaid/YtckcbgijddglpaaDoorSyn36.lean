/- SyntaxMany, walked. -/
import Derived.Test.YtckcbgijddglpaaDoorSyn31
import Derived.Test.YtckcbgijddglpaaDoorSynDig
namespace Go.Proofs.YtckcbgijddglpaaDoor
open Go.ChangeShapes Go.WideShapes Go.ChangeAt Go.RowKit Go.PlainAid
set_option linter.unusedVariables false
set_option linter.unusedSimpArgs false
set_option linter.unnecessarySimpa false
def atV (k : Nat) : Nat := if 40 < k then (soB 40).size + 1 else 0
set_option maxRecDepth 100000 in
set_option maxHeartbeats 16000000 in
theorem syntaxMany_any {w : World} (hL : LexW w) (n : Int) : Calls Tryd.prog 5 #[.int .i64 n] w fun e w' => e = .returned (.bool true) ∧ Keeps w w' := by
  obtain ⟨m, hm4, hm⟩ := mod_nat n 4 (by decide) (by decide)
  have hm' : wrap64 ((IntKind.u64.wrap n).tmod 4) = (m : Int) := hm
  have hw : wrap64 (38 + (m : Int)) = ((38 + m : Nat) : Int) := by unfold wrap64; omega
  have HA := hide (fun (w1 : World) (hk : Keeps w w1) => awake05_any (hL.keeps hk))
  have HPR := hide (fun (w1 : World) (hk : Keeps w w1) => parseM_any (hL.keeps hk) (soB (38 + m) ++ ⟨#[32, 69, 78, 68]⟩) (by have := so_size (38 + m); rw [ByteArray.size_append]; show (soB (38 + m)).size + 4 ≤ _; omega))
  have HT := hide (many_toks (38 + m) (by omega))
  have HOK := hide (many_all m hm4)
  have HDG := hide (fun (i : Nat) (h : i < 18446744073709551616) (x : Int) (hx : x = (i : Nat)) (w : World) => (show Calls Tryd.prog 11 #[.int .u64 x] w fun e w' => e = .returned (.string (decB i)) ∧ Keeps w w' by subst hx; exact digits_any i i (Nat.le_refl _) h w))
  generalize hN : 38 + m = N at *
  have hNI : N ≤ 41 := by omega
  have hNl : 38 ≤ N := by omega
  clear hm hL hN hm4
  go_enter Tryd.func5, Tryd.ntmps5
  go_wp2
  rw [hm', hw]
  clear hm' hw
  go_loopw [3, 4, 5] (fun tv av iv wr => ∃ k : Nat, k ≤ N ∧ tv = .string (soB k) ∧ av = .int .i64 ((atV k : Nat) : Int) ∧ iv = .int .i64 k ∧ Hid (Keeps w wr)) (fun _ _ iv _ => N - (intOf iv).toNat)
  case atStart => exact ⟨0, Nat.zero_le _, by rw [so_zero], rfl, rfl, hide (Keeps.refl _)⟩
  case round =>
    obtain ⟨k, hk, rfl, rfl, rfl, hkw⟩ := hrel
    by_cases hlt : k < N
    · have hltI : (k : Int) < (N : Int) := by omega
      have hsz := so_size k
      have hsd : (decB k).size ≤ 20 := by rw [Lib.size_eq]; exact dec_len 19 _
      have hq1 : ¬ 9223372036854775807 < (soB k).size + 1 := by omega
      have hq2 : ¬ 9223372036854775807 < (soB k).size + 1 + 1 := by omega
      have hq3 : ¬ 9223372036854775807 < (soB k).size + 1 + 1 + (decB k).size := by omega
      have hq4 : ¬ 9223372036854775807 < (soB k).size + 1 + 1 + (decB k).size + 9 := by omega
      have HSU := hide (so_succ k)
      have HDK := hide (unhide HDG k (by omega))
      by_cases h40 : k = 40
      · have h40I : (k : Int) = 40 := by omega
        have HAT := hide (show ((atV (k + 1) : Nat) : Int) = ((soB k).size : Int) + 1 by rw [atV, if_pos (by omega), h40]; exact Int.natCast_succ _)
        clear hsz hsd h40
        go_wp2_with fail
        refine (unhide HDK _ (by omega) _).mono ?_
        rintro e w2 ⟨rfl, hk2⟩
        have HK2 := hide ((unhide hkw).trans hk2)
        clear hk2
        go_wp2
        go_round
        case rel => exact ⟨k + 1, by omega, by rw [unhide HSU], by rw [unhide HAT], by go_num, HK2⟩
        case measure => simp [intOf]; omega
      · have h40I : ¬ (k : Int) = 40 := by omega
        have HAT := hide (show atV (k + 1) = atV k by unfold atV; split <;> split <;> first | rfl | omega)
        clear hsz hsd
        go_wp2_with fail
        refine (unhide HDK _ rfl _).mono ?_
        rintro e w2 ⟨rfl, hk2⟩
        have HK2 := hide ((unhide hkw).trans hk2)
        clear hk2
        go_wp2
        go_round
        case rel => exact ⟨k + 1, by omega, by rw [unhide HSU], by rw [unhide HAT], by go_num, HK2⟩
        case measure => simp [intOf]; omega
    · obtain rfl : k = N := by omega
      have hsz := so_size k
      have hq : ¬ 9223372036854775807 < (soB k).size + 4 := by omega
      clear hsz
      have HP := hide (unhide HPR _ (unhide hkw))
      rw [unhide HT] at HP
      have hok := unhide HOK
      go_wp2_with fail
      rcases hr : moduleT (toksP 0 (manyP k)) with ⟨p, x⟩ | md
      · rw [manyOk, hr] at hok
        simp only [Bool.and_eq_true, decide_eq_true_eq, beq_iff_eq] at hok
        obtain ⟨⟨h41, rfl⟩, rfl⟩ := hok
        rw [parseT, hr] at HP
        clear hr
        refine (unhide HP).mono ?_
        rintro e w1 ⟨rfl, hk1⟩
        have HK1 := hide ((unhide hkw).trans hk1)
        have hat : ((atV k : Nat) : Int) = (((soL 40).length + 1 : Nat) : Int) := by rw [atV, if_pos h41, Lib.size_eq]; rfl
        rw [hat]
        have h41I : (40 : Int) < (k : Int) := by omega
        have HT1 := hide (Blk.new w1 30 #[.string ⟨#[]⟩, .int .i64 0, .slice none 0 0, .slice none 0 0, .slice none 0 0])
        clear hk1 hq hat
        go_wp2_with fail
        refine (unhide HA _ ((unhide HK1).alloc _)).mono ?_
        rintro e w2 ⟨rfl, hk2⟩
        have HK2 := hide (((unhide HK1).alloc _).trans hk2)
        obtain ⟨htc, htf, -⟩ := ((unhide HT1).keeps hk2).facts
        clear hk2
        go_wp2
        go_ret
        exact ⟨rfl, unhide HK2⟩
      · rw [manyOk, hr] at hok
        simp only [Bool.and_eq_true, decide_eq_true_eq, beq_iff_eq] at hok
        obtain ⟨⟨h40, hn⟩, hl⟩ := hok
        rw [parseT, hr] at HP
        clear hr
        refine (unhide HP).mono ?_
        rintro e w1 ⟨A2, c2, A3, c3, A4, c4, rfl, -, hk1⟩
        rw [hn, hl]
        have HK1 := hide ((unhide hkw).trans hk1)
        have HT1 := hide (Blk.new w1 30 #[.string md.name, .int .i64 md.tagging, .slice A2 k c2, .slice A3 md.types.length c3, .slice A4 k c4])
        have h40I : ¬ (40 : Int) < (k : Int) := by omega
        clear hk1 hq hn hl h40
        go_wp2_with fail
        refine (unhide HA _ ((unhide HK1).alloc _)).mono ?_
        rintro e w2 ⟨rfl, hk2⟩
        have HK2 := hide (((unhide HK1).alloc _).trans hk2)
        obtain ⟨htc, htf, -⟩ := ((unhide HT1).keeps hk2).facts
        clear hk2
        go_wp2
        go_ret
        exact ⟨rfl, unhide HK2⟩
end Go.Proofs.YtckcbgijddglpaaDoor
