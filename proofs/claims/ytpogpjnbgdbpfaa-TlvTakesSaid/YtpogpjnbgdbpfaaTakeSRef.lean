/- The contract of the reference's TakeSigned. -/
import Derived.Test.YtpogpjnbgdbpfaaTakeS
namespace Go.Proofs.Ytpogpjnbgdbpfaa
open Go.ChangeShapes Go.WideShapes Go.ChangeAt Go.RowKit

set_option maxHeartbeats 4000000 in
theorem refTakeSigned_cons (b o : Nat) (x0 : Int) (ys : List Int) (c : Nat) (h0 : 0 ≤ x0 ∧ x0 ≤ 255) (hxx : Bytes8 (x0 :: ys)) (hl : ys.length + 1 ≤ 8) (w : World)
    (hh : Holds w (some ⟨b, o, none⟩) (x0 :: ys))
    (hc0 : w.cell? ⟨b, o, none⟩ = some (.int .u8 x0)) (hcs : ∀ k, k < ys.length → w.cell? ⟨b, o + (k + 1), none⟩ = some (.int .u8 (ys.getD k 0))) :
    Calls Try.prog 30 #[.slice (some ⟨b, o, none⟩) (ys.length + 1) c] w fun e w' => e = .returned (.tuple #[.int .i64 (takeS (x0 :: ys)).1, .int .i64 (takeS (x0 :: ys)).2]) ∧ Keeps w w' := by
  obtain ⟨h01, h02⟩ := h0
  have hx : Bytes8 ys := fun x m => hxx x (by simp [m])
  have HC := hide hcs
  have HX := hide hx
  have HXX := hide hxx
  have HH := hide hh
  clear hcs hx hxx hh
  generalize hn : ys.length = n at *
  have HN := hide hn
  clear hn
  have e0 : ((n : Int) + 1 == 0) = false := beq_eq_false_iff_ne.2 (by omega)
  go_enter Try.func30, Try.ntmps30
  go_wp2
  rw [s8_conv]
  go_loop [4, 5] (fun v i => ∃ k : Nat, k ≤ n ∧ i = .int .i64 ((k : Int) + 1) ∧ v = .int .i64 (sx x0 (ys.take k))) (fun _ i => n + 2 - (intOf i).toNat)
  case atStart => exact ⟨0, by omega, rfl, by simp [sx]⟩
  case round =>
    obtain ⟨k, hk, rfl, rfl⟩ := hrel
    have hb := sx_range x0 k ys (unhide HX) (by rw [unhide HN]; exact hk)
    obtain ⟨hb1, hb2⟩ := hb
    by_cases hlt : k < n
    · have hsn : sx x0 (ys.take (k + 1)) = sx x0 (ys.take k) * 256 + ys.getD k 0 := by rw [take_snoc ys k (by rw [unhide HN]; exact hlt), sx_snoc]
      have HS := hide hsn
      have hc := unhide HC k hlt
      obtain ⟨hx1, hx2⟩ := bytes8_getD (unhide HX) k
      have hp := pow256' k (by omega)
      have hv1 : -36028797018963968 ≤ sx x0 (ys.take k) := by omega
      have hv2 : sx x0 (ys.take k) < 36028797018963968 := by omega
      clear hsn hb1 hb2 hp
      generalize sx x0 (ys.take k) = v at *
      generalize ys.getD k 0 = x at *
      have hj := i64_or_join (v * 256) x (by omega) (by omega) (by omega) hx1 hx2
      go_wp2
      exact ⟨⟨k + 1, by omega, by go_num, by rw [unhide HS]⟩, by simp [intOf]; omega⟩
    · obtain rfl : k = n := by omega
      rw [List.take_of_length_le (by rw [unhide HN]; exact Nat.le_refl _)] at hb1 hb2 ⊢
      have hp := (by decide +kernel : ∀ k : Fin 8, (256 : Int) ^ k.val ≤ 72057594037927936) ⟨k, by omega⟩
      simp only at hp
      have hv1 : -9223372036854775808 ≤ sx x0 ys := by omega
      have hv2 : sx x0 ys ≤ 9223372036854775807 := by omega
      clear hb1 hb2 hp
      have hB : Bytes8 (sOct (sx x0 ys)) := lo_range _ _
      have hl2 : (x0 :: ys).length = k + 1 := by simp only [List.length_cons]; rw [unhide HN]
      have HL2 := hide hl2
      clear hl2
      by_cases hu : sLen (sx x0 ys) = k + 1
      · have HT : Hid (takeS (x0 :: ys) = (sx x0 ys, 0)) := by
          show takeS (x0 :: ys) = (sx x0 ys, 0)
          rw [takeS, unhide HN, if_neg (by omega), if_pos hu]
        have HD : Hid (decide (sOct (sx x0 ys) = x0 :: ys) = true) := decide_eq_true ((sOct_iff x0 ys ⟨h01, h02⟩ (unhide HX)).2 (by rw [unhide HN]; exact hu))
        clear hu
        go_wp2_with fail
        refine (refSigned_any _ hv1 hv2 _).mono ?_
        rintro e w1 ⟨A1, c1, rfl, hc1, hf1⟩
        go_wp2_with fail
        rw [← unhide HL2]
        refine (sameBytes_any _ _ _ _ _ _ _ hf1.holds ((unhide HH).keeps hf1.2) hB (unhide HXX)).mono ?_
        rintro e w2 ⟨rfl, rfl⟩
        rw [unhide HD]
        go_wp2
        go_ret2
        exact ⟨ret_ii (by rw [unhide HT]) (by rw [unhide HT]), hf1.2⟩
      · have HT : Hid (takeS (x0 :: ys) = (0, 4)) := by
          show takeS (x0 :: ys) = (0, 4)
          rw [takeS, unhide HN, if_neg (by omega), if_neg hu]
        have HD : Hid (decide (sOct (sx x0 ys) = x0 :: ys) = false) := decide_eq_false (fun e => hu (by rw [← unhide HN]; exact (sOct_iff x0 ys ⟨h01, h02⟩ (unhide HX)).1 e))
        clear hu
        go_wp2_with fail
        refine (refSigned_any _ hv1 hv2 _).mono ?_
        rintro e w1 ⟨A1, c1, rfl, hc1, hf1⟩
        go_wp2_with fail
        rw [← unhide HL2]
        refine (sameBytes_any _ _ _ _ _ _ _ hf1.holds ((unhide HH).keeps hf1.2) hB (unhide HXX)).mono ?_
        rintro e w2 ⟨rfl, rfl⟩
        rw [unhide HD]
        go_wp2
        go_ret2
        exact ⟨ret_ii (by rw [unhide HT]) (by rw [unhide HT]), hf1.2⟩

theorem refTakeSigned_any (A : Option Addr) (xs : List Int) (c : Nat) (hx : Bytes8 xs) (hl : xs.length ≤ maxLen) (hcap : xs.length ≤ c) (w : World) (hh : Holds w A xs) :
    Calls Try.prog 30 #[.slice A xs.length c] w fun e w' => e = .returned (.tuple #[.int .i64 (takeS xs).1, .int .i64 (takeS xs).2]) ∧ Keeps w w' := by
  unfold maxLen at hl
  cases xs with
  | nil =>
    go_enter Try.func30, Try.ntmps30
    go_wp2
    go_ret2
    exact ⟨rfl, Keeps.refl _⟩
  | cons x0 ys =>
    simp only [List.length_cons] at hl hcap ⊢
    by_cases h8 : 8 < ys.length + 1
    · have hz : takeS (x0 :: ys) = (0, 4) := by rw [takeS, if_pos h8]
      rw [hz]
      have e0 : ((ys.length : Int) + 1 == 0) = false := beq_eq_false_iff_ne.2 (by omega)
      have e1 : (8 : Int) < (ys.length : Int) + 1 := by omega
      clear hz
      go_enter Try.func30, Try.ntmps30
      go_wp2
      go_ret2
      exact ⟨rfl, Keeps.refl _⟩
    · obtain ⟨b, o, rfl, hcs⟩ := hh.cells (by simp)
      have h0 := hcs 0 (by simp)
      rw [Nat.add_zero] at h0
      exact refTakeSigned_cons b o x0 ys c (hx x0 (by simp)) hx (by omega) w hh h0 (fun k hk => by
        have := hcs (k + 1) (by simp; omega)
        simpa using this)

end Go.Proofs.Ytpogpjnbgdbpfaa
