/- SyntaxDeep, walked. -/
import Derived.Test.YtckcbgijddglpaaDoorSyn32
namespace Go.Proofs.YtckcbgijddglpaaDoor
open Go.ChangeShapes Go.WideShapes Go.ChangeAt Go.RowKit Go.PlainAid
set_option linter.unusedVariables false
set_option linter.unusedSimpArgs false
def sqB (n : Nat) : ByteArray := ⟨(seqsL n).toArray⟩
theorem sq_succ (n : Nat) : sqB n ++ ⟨#[83, 69, 81, 85, 69, 78, 67, 69, 32, 79, 70, 32]⟩ = sqB (n + 1) := ba_ext (by rw [ByteArray.toList_data_append]; simp [sqB, seqsL, sofL])
theorem sq_size (n : Nat) : (sqB n).size = 12 * n := by
  have h : (seqsL n).length = 12 * n := by
    induction n with
    | zero => rfl
    | succ n ih => rw [seqsL, List.length_append, ih]; simp [sofL]; omega
  rw [Lib.size_eq]; simpa [sqB] using h
theorem deep_text (n : Nat) : (⟨#[77, 32, 68, 69, 70, 73, 78, 73, 84, 73, 79, 78, 83, 32, 58, 58, 61, 32, 66, 69, 71, 73, 78, 32, 65, 32, 58, 58, 61, 32]⟩ ++ (sqB n ++ ⟨#[78, 85, 76, 76]⟩) ++ ⟨#[32, 69, 78, 68]⟩ : ByteArray) = ⟨(deepL n).toArray⟩ := ba_ext (by rw [ByteArray.toList_data_append, ByteArray.toList_data_append, ByteArray.toList_data_append]; simp [sqB, deepL, preL, endL])
theorem mod_arg (n : Int) (k : Nat) (hk : 0 < k) (hk2 : k ≤ 100) : ∃ m : Nat, m < k ∧ wrap64 ((IntKind.u64.wrap n).tmod (k : Int)) = (m : Int) := by
  have h0 : 0 ≤ IntKind.u64.wrap n := by rw [IntKind.wrap_u64]; omega
  obtain ⟨x, hx⟩ := Int.eq_ofNat_of_zero_le h0
  rw [hx]
  have e : ((x : Int)).tmod (k : Int) = ((x % k : Nat) : Int) := by rw [Int.tmod_eq_emod_of_nonneg (by omega)]; rfl
  have hl := Nat.mod_lt x hk
  refine ⟨x % k, hl, ?_⟩
  rw [e]
  generalize x % k = y at *
  unfold wrap64
  omega
set_option maxRecDepth 100000 in
set_option maxHeartbeats 16000000 in
theorem syntaxDeep_any {w : World} (hL : LexW w) (n : Int) : Calls Tryd.prog 4 #[.int .i64 n] w fun e w' => e = .returned (.bool true) ∧ Keeps w w' := by
  obtain ⟨m, hm22, hm⟩ := mod_arg n 22 (by decide) (by decide)
  have hm' : wrap64 ((IntKind.u64.wrap n).tmod 22) = (m : Int) := hm
  have HA := hide (fun (w1 : World) (hk : Keeps w w1) => awake05_any (hL.keeps hk))
  have HPR := hide (parseM_any hL (⟨#[77, 32, 68, 69, 70, 73, 78, 73, 84, 73, 79, 78, 83, 32, 58, 58, 61, 32, 66, 69, 71, 73, 78, 32, 65, 32, 58, 58, 61, 32]⟩ ++ (sqB m ++ ⟨#[78, 85, 76, 76]⟩) ++ ⟨#[32, 69, 78, 68]⟩) (by rw [deep_text]; show (deepL m).toArray.size ≤ _; have := sq_size m; simp [deepL, preL, endL]; simp [sqB, Lib.size_eq] at this; omega))
  rw [deep_text] at HPR
  have HOK := hide (deep_all m hm22)
  have hsz := sq_size m
  have HMO := hide (fun w => module05_any (sqB m ++ ⟨#[78, 85, 76, 76]⟩) w (by rw [ByteArray.size_append, sq_size]; show 12 * m + 4 ≤ _; omega))
  have HME := hide (fun w => module05_any ⟨#[]⟩ w (by decide))
  clear hm hL
  go_enter Tryd.func4, Tryd.ntmps4
  go_wp2
  rw [hm']
  clear hm'
  go_loop [3, 4] (fun tv iv => ∃ k : Nat, k ≤ m ∧ tv = .string (sqB k) ∧ iv = .int .i64 k) (fun _ iv => m - (intOf iv).toNat)
  case atStart => exact ⟨0, Nat.zero_le _, rfl, rfl⟩
  case round =>
    obtain ⟨k, hk, rfl, rfl⟩ := hrel
    by_cases hlt : k < m
    · have hltI : (k : Int) < (m : Int) := by omega
      have hq : ¬ 9223372036854775807 < (sqB k).size + 12 := by rw [sq_size]; omega
      have HSU := hide (sq_succ k)
      clear hsz
      go_wp2
      go_round
      case rel => exact ⟨k + 1, by omega, by rw [unhide HSU], by go_num⟩
      case measure => simp [intOf]; omega
    · obtain rfl : k = m := by omega
      have hq : ¬ 9223372036854775807 < (sqB k).size + 4 := by rw [sq_size]; omega
      clear hsz
      go_wp2_with fail
      refine (unhide HMO _).mono ?_
      rintro e w' ⟨rfl, rfl⟩
      go_wp2_with fail
      rcases hr : parseT (toks ⟨(deepL k).toArray⟩) with ⟨p, x⟩ | md
      · have hok := unhide HOK
        rw [deepOk, hr] at hok
        simp only [Bool.and_eq_true, decide_eq_true_eq, beq_iff_eq] at hok
        obtain ⟨⟨h16, rfl⟩, rfl⟩ := hok
        rw [hr] at HPR
        clear hr
        refine (unhide HPR).mono ?_
        rintro e w1 ⟨rfl, hk1⟩
        have HK1 := hide hk1
        have HT1 := hide (Blk.new w1 30 #[.string ⟨#[]⟩, .int .i64 0, .slice none 0 0, .slice none 0 0, .slice none 0 0])
        have h16I : (16 : Int) < (k : Int) := by omega
        clear hk1 hq
        go_wp2_with fail
        refine (unhide HA _ ((unhide HK1).alloc _)).mono ?_
        rintro e w2 ⟨rfl, hk2⟩
        have HK2 := hide (((unhide HK1).alloc _).trans hk2)
        obtain ⟨htc, htf, -⟩ := ((unhide HT1).keeps hk2).facts
        clear hk2
        go_wp2_with fail
        refine (unhide HME _).mono ?_
        rintro e w' ⟨rfl, rfl⟩
        go_wp2
        go_ret
        exact ⟨rfl, unhide HK2⟩
      · have hok := unhide HOK
        rw [deepOk, hr] at hok
        simp only [Bool.and_eq_true, decide_eq_true_eq, beq_iff_eq] at hok
        obtain ⟨⟨h16, hl⟩, h4⟩ := hok
        rw [hr] at HPR
        clear hr
        refine (unhide HPR).mono ?_
        rintro e w1 ⟨A2, c2, A3, c3, A4, c4, rfl, ⟨g, hgB, -, -, hN, -⟩, hk1⟩
        obtain ⟨nd, hnd⟩ : ∃ nd, md.nodes[k]? = some nd := ⟨_, List.getElem?_eq_getElem (by omega)⟩
        rw [hnd] at h4
        simp only [beq_iff_eq] at h4
        obtain ⟨R, cR, vi, vf, hR, hRl, hc⟩ := hN.node hnd
        have h0' : w1.cell? ⟨R, k * 16 + 0, none⟩ = some (.int .i64 nd.kind) := hc 0 _ (by decide) rfl
        rw [h4, Nat.add_zero] at h0'
        rw [hR]
        rw [hl]
        have HK1 := hide hk1
        have HT1 := hide (Blk.new w1 30 #[.string md.name, .int .i64 md.tagging, .slice A2 md.names.length c2, .slice A3 md.types.length c3, .slice (some ⟨R, 0, none⟩) (k + 1) cR])
        have HC := hide h0'
        have HRL := hide hRl
        have h16I : ¬ (16 : Int) < (k : Int) := by omega
        clear hk1 hq hc h0' hN hR hnd h4 hl h16 hRl
        go_wp2_with fail
        refine (unhide HA _ ((unhide HK1).alloc _)).mono ?_
        rintro e w2 ⟨rfl, hk2⟩
        have HK2 := hide (((unhide HK1).alloc _).trans hk2)
        obtain ⟨htc, htf, -⟩ := ((unhide HT1).keeps hk2).facts
        have hc2 : w2.cell? ⟨R, k * 16, none⟩ = some (.int .i64 4) := by
          have h1 := Below.cell (p := ⟨R, k * 16, none⟩) hk2 (by rw [World.size_alloc]; have := unhide HRL; show R < _; omega)
          rw [h1, World.cell?_alloc_lt _ _ _ (by exact unhide HRL)]
          exact unhide HC
        have hkk : (k : Int) < ((k + 1 : Nat) : Int) := by omega
        clear hk2
        go_wp2
        go_ret
        exact ⟨rfl, unhide HK2⟩
end Go.Proofs.YtckcbgijddglpaaDoor
