/- Signs; one token. -/
import Derived.Test.YtckcbgijddglpaaGreatDoorLex7
namespace Go.Proofs.YtckcbgijddglpaaGreatDoor
open Go.ChangeShapes Go.WideShapes Go.ChangeAt Go.RowKit Go.PlainAid
set_option linter.unusedVariables false
set_option linter.unusedSimpArgs false

theorem sign_cells {w : World} (h : LexW w) : w.cell? ⟨0, 0, none⟩ = some (.string ⟨#[58, 58, 61]⟩) ∧ w.cell? ⟨0, 1, none⟩ = some (.string ⟨#[46, 46, 46]⟩) ∧ w.cell? ⟨0, 2, none⟩ = some (.string ⟨#[46, 46]⟩) ∧ w.cell? ⟨0, 3, none⟩ = some (.string ⟨#[91, 91]⟩) ∧ w.cell? ⟨0, 4, none⟩ = some (.string ⟨#[93, 93]⟩) ∧ w.cell? ⟨0, 5, none⟩ = some (.string ⟨#[123]⟩) ∧ w.cell? ⟨0, 6, none⟩ = some (.string ⟨#[125]⟩) ∧ w.cell? ⟨0, 7, none⟩ = some (.string ⟨#[91]⟩) ∧ w.cell? ⟨0, 8, none⟩ = some (.string ⟨#[93]⟩) ∧ w.cell? ⟨0, 9, none⟩ = some (.string ⟨#[40]⟩) ∧ w.cell? ⟨0, 10, none⟩ = some (.string ⟨#[41]⟩) ∧ w.cell? ⟨0, 11, none⟩ = some (.string ⟨#[44]⟩) ∧ w.cell? ⟨0, 12, none⟩ = some (.string ⟨#[58]⟩) := by
  have hs := h.2.2
  exact ⟨hs 0 (by omega), hs 1 (by omega), hs 2 (by omega), hs 3 (by omega), hs 4 (by omega), hs 5 (by omega), hs 6 (by omega), hs 7 (by omega), hs 8 (by omega), hs 9 (by omega), hs 10 (by omega), hs 11 (by omega), hs 12 (by omega)⟩
set_option maxRecDepth 100000 in
set_option maxHeartbeats 8000000 in
theorem sign_any {W w : World} (hL : LexW W) (hkW : Keeps W w) {g : Nat} {s : ByteArray} {a : Nat} {v : Value} (h : LX w g s a v) (ha : a < s.size) (hs : s.size ≤ 1000000000) :
    Calls Tryz.prog 64 #[.pointer (some ⟨g, 0, none⟩)] w (TokG w g s v (signAt s a) 6) := by
  have HC := sign_cells (hL.keeps hkW)
  obtain ⟨c0, c1, c2, c3, c4, c5, c6, c7, c8, c9, c10, c11, c12⟩ := HC
  obtain ⟨h0, h1, h2, h3⟩ := h.cells
  have HH := hide h
  have HFo := hide (fun x n => follows_any x (h.drewN n) (Nat.le_of_lt ha) hs)
  have HF0 := hide (fun x => follows_any x h (Nat.le_of_lt ha) hs)
  have fin : ∀ (x : ByteArray) (n : Nat) (W2 : World), signsL.find? (starts s a) = some x → n = x.size → LX W2 g s (a + n) v → Fr g w W2 → TokG w g s v (signAt s a) 6 (.returned (.tuple #[.string x, .bool true])) W2 := by
    intro x n W2 hf hn h1 h2
    subst hn
    exact ⟨x, true, _, rfl, h1, h2, by rw [signAt, hf]; rfl⟩
  have HFin := hide fin
  clear h fin
  go_enter Tryz.func64, Tryz.ntmps64
  go_wp2
  clear c0 c1 c2 c3 c4 c5 c6 c7 c8 c9 c10 c11 c12
  go_loopg [5, 7] 13 (fun k (_ : Value) iv wr => ∃ i : Nat, iv = .int .i64 (i : Nat) ∧ i ≤ 13 ∧ k = 13 - i ∧ (∃ m, wr = w.drewN m) ∧ signsL.find? (starts s a) = (signsL.drop i).find? (starts s a))
  case atStart => exact ⟨0, rfl, by omega, rfl, ⟨0, rfl⟩, rfl⟩
  case round =>
    obtain ⟨i, rfl, hi, hk, ⟨m, rfl⟩, hfi⟩ := hrel
    have HFI := hide hfi
    clear hfi
    by_cases e0 : i = 0
    · subst e0
      have i0 : ∀ w, (Instr.index 133 (.agg #[.string ⟨#[58, 58, 61]⟩, .string ⟨#[46, 46, 46]⟩, .string ⟨#[46, 46]⟩, .string ⟨#[91, 91]⟩, .string ⟨#[93, 93]⟩, .string ⟨#[123]⟩, .string ⟨#[125]⟩, .string ⟨#[91]⟩, .string ⟨#[93]⟩, .string ⟨#[40]⟩, .string ⟨#[41]⟩, .string ⟨#[44]⟩, .string ⟨#[58]⟩]) (.int .i64 0)).run Tryz.prog w = .ok (.string ⟨#[58, 58, 61]⟩) w := fun _ => by kernel_rfl
      have HS := hide (unhide HFo ⟨#[58, 58, 61]⟩ m)
      by_cases q : starts s a ⟨#[58, 58, 61]⟩ = true
      · rw [q] at HS
        have HQ := hide q
        clear q
        go_wp2_with fail
        with_reducible refine (unhide HS).mono ?_
        rintro e w1 ⟨rfl, m2, rfl⟩
        go_wp2
        go_ret2
        refine unhide HFin _ 3 _ ?_ rfl (((unhide HH).drewN _).add 3) (((Fr.refl g w).drewN _).set 1 _)
        rw [unhide HFI]; show ((⟨#[58, 58, 61]⟩ : ByteArray) :: signsL.drop 1).find? _ = _; rw [List.find?_cons_of_pos (unhide HQ)]
      · have q2 : starts s a ⟨#[58, 58, 61]⟩ = false := by simpa using q
        rw [q2] at HS
        have HQ := hide q
        clear q q2
        go_wp2_with fail
        with_reducible refine (unhide HS).mono ?_
        rintro e w1 ⟨rfl, m2, rfl⟩
        go_wp2
        go_roundg 12
        case measure => omega
        case rel => exact ⟨1, rfl, by omega, rfl, ⟨_, rfl⟩, by rw [unhide HFI]; show ((⟨#[58, 58, 61]⟩ : ByteArray) :: signsL.drop 1).find? _ = _; rw [List.find?_cons_of_neg (unhide HQ)]⟩
    by_cases e1 : i = 1
    · subst e1
      have i1 : ∀ w, (Instr.index 133 (.agg #[.string ⟨#[58, 58, 61]⟩, .string ⟨#[46, 46, 46]⟩, .string ⟨#[46, 46]⟩, .string ⟨#[91, 91]⟩, .string ⟨#[93, 93]⟩, .string ⟨#[123]⟩, .string ⟨#[125]⟩, .string ⟨#[91]⟩, .string ⟨#[93]⟩, .string ⟨#[40]⟩, .string ⟨#[41]⟩, .string ⟨#[44]⟩, .string ⟨#[58]⟩]) (.int .i64 1)).run Tryz.prog w = .ok (.string ⟨#[46, 46, 46]⟩) w := fun _ => by kernel_rfl
      have HS := hide (unhide HFo ⟨#[46, 46, 46]⟩ m)
      by_cases q : starts s a ⟨#[46, 46, 46]⟩ = true
      · rw [q] at HS
        have HQ := hide q
        clear q
        go_wp2_with fail
        with_reducible refine (unhide HS).mono ?_
        rintro e w1 ⟨rfl, m2, rfl⟩
        go_wp2
        go_ret2
        refine unhide HFin _ 3 _ ?_ rfl (((unhide HH).drewN _).add 3) (((Fr.refl g w).drewN _).set 1 _)
        rw [unhide HFI]; show ((⟨#[46, 46, 46]⟩ : ByteArray) :: signsL.drop 2).find? _ = _; rw [List.find?_cons_of_pos (unhide HQ)]
      · have q2 : starts s a ⟨#[46, 46, 46]⟩ = false := by simpa using q
        rw [q2] at HS
        have HQ := hide q
        clear q q2
        go_wp2_with fail
        with_reducible refine (unhide HS).mono ?_
        rintro e w1 ⟨rfl, m2, rfl⟩
        go_wp2
        go_roundg 11
        case measure => omega
        case rel => exact ⟨2, rfl, by omega, rfl, ⟨_, rfl⟩, by rw [unhide HFI]; show ((⟨#[46, 46, 46]⟩ : ByteArray) :: signsL.drop 2).find? _ = _; rw [List.find?_cons_of_neg (unhide HQ)]⟩
    by_cases e2 : i = 2
    · subst e2
      have i2 : ∀ w, (Instr.index 133 (.agg #[.string ⟨#[58, 58, 61]⟩, .string ⟨#[46, 46, 46]⟩, .string ⟨#[46, 46]⟩, .string ⟨#[91, 91]⟩, .string ⟨#[93, 93]⟩, .string ⟨#[123]⟩, .string ⟨#[125]⟩, .string ⟨#[91]⟩, .string ⟨#[93]⟩, .string ⟨#[40]⟩, .string ⟨#[41]⟩, .string ⟨#[44]⟩, .string ⟨#[58]⟩]) (.int .i64 2)).run Tryz.prog w = .ok (.string ⟨#[46, 46]⟩) w := fun _ => by kernel_rfl
      have HS := hide (unhide HFo ⟨#[46, 46]⟩ m)
      by_cases q : starts s a ⟨#[46, 46]⟩ = true
      · rw [q] at HS
        have HQ := hide q
        clear q
        go_wp2_with fail
        with_reducible refine (unhide HS).mono ?_
        rintro e w1 ⟨rfl, m2, rfl⟩
        go_wp2
        go_ret2
        refine unhide HFin _ 2 _ ?_ rfl (((unhide HH).drewN _).add 2) (((Fr.refl g w).drewN _).set 1 _)
        rw [unhide HFI]; show ((⟨#[46, 46]⟩ : ByteArray) :: signsL.drop 3).find? _ = _; rw [List.find?_cons_of_pos (unhide HQ)]
      · have q2 : starts s a ⟨#[46, 46]⟩ = false := by simpa using q
        rw [q2] at HS
        have HQ := hide q
        clear q q2
        go_wp2_with fail
        with_reducible refine (unhide HS).mono ?_
        rintro e w1 ⟨rfl, m2, rfl⟩
        go_wp2
        go_roundg 10
        case measure => omega
        case rel => exact ⟨3, rfl, by omega, rfl, ⟨_, rfl⟩, by rw [unhide HFI]; show ((⟨#[46, 46]⟩ : ByteArray) :: signsL.drop 3).find? _ = _; rw [List.find?_cons_of_neg (unhide HQ)]⟩
    by_cases e3 : i = 3
    · subst e3
      have i3 : ∀ w, (Instr.index 133 (.agg #[.string ⟨#[58, 58, 61]⟩, .string ⟨#[46, 46, 46]⟩, .string ⟨#[46, 46]⟩, .string ⟨#[91, 91]⟩, .string ⟨#[93, 93]⟩, .string ⟨#[123]⟩, .string ⟨#[125]⟩, .string ⟨#[91]⟩, .string ⟨#[93]⟩, .string ⟨#[40]⟩, .string ⟨#[41]⟩, .string ⟨#[44]⟩, .string ⟨#[58]⟩]) (.int .i64 3)).run Tryz.prog w = .ok (.string ⟨#[91, 91]⟩) w := fun _ => by kernel_rfl
      have HS := hide (unhide HFo ⟨#[91, 91]⟩ m)
      by_cases q : starts s a ⟨#[91, 91]⟩ = true
      · rw [q] at HS
        have HQ := hide q
        clear q
        go_wp2_with fail
        with_reducible refine (unhide HS).mono ?_
        rintro e w1 ⟨rfl, m2, rfl⟩
        go_wp2
        go_ret2
        refine unhide HFin _ 2 _ ?_ rfl (((unhide HH).drewN _).add 2) (((Fr.refl g w).drewN _).set 1 _)
        rw [unhide HFI]; show ((⟨#[91, 91]⟩ : ByteArray) :: signsL.drop 4).find? _ = _; rw [List.find?_cons_of_pos (unhide HQ)]
      · have q2 : starts s a ⟨#[91, 91]⟩ = false := by simpa using q
        rw [q2] at HS
        have HQ := hide q
        clear q q2
        go_wp2_with fail
        with_reducible refine (unhide HS).mono ?_
        rintro e w1 ⟨rfl, m2, rfl⟩
        go_wp2
        go_roundg 9
        case measure => omega
        case rel => exact ⟨4, rfl, by omega, rfl, ⟨_, rfl⟩, by rw [unhide HFI]; show ((⟨#[91, 91]⟩ : ByteArray) :: signsL.drop 4).find? _ = _; rw [List.find?_cons_of_neg (unhide HQ)]⟩
    by_cases e4 : i = 4
    · subst e4
      have i4 : ∀ w, (Instr.index 133 (.agg #[.string ⟨#[58, 58, 61]⟩, .string ⟨#[46, 46, 46]⟩, .string ⟨#[46, 46]⟩, .string ⟨#[91, 91]⟩, .string ⟨#[93, 93]⟩, .string ⟨#[123]⟩, .string ⟨#[125]⟩, .string ⟨#[91]⟩, .string ⟨#[93]⟩, .string ⟨#[40]⟩, .string ⟨#[41]⟩, .string ⟨#[44]⟩, .string ⟨#[58]⟩]) (.int .i64 4)).run Tryz.prog w = .ok (.string ⟨#[93, 93]⟩) w := fun _ => by kernel_rfl
      have HS := hide (unhide HFo ⟨#[93, 93]⟩ m)
      by_cases q : starts s a ⟨#[93, 93]⟩ = true
      · rw [q] at HS
        have HQ := hide q
        clear q
        go_wp2_with fail
        with_reducible refine (unhide HS).mono ?_
        rintro e w1 ⟨rfl, m2, rfl⟩
        go_wp2
        go_ret2
        refine unhide HFin _ 2 _ ?_ rfl (((unhide HH).drewN _).add 2) (((Fr.refl g w).drewN _).set 1 _)
        rw [unhide HFI]; show ((⟨#[93, 93]⟩ : ByteArray) :: signsL.drop 5).find? _ = _; rw [List.find?_cons_of_pos (unhide HQ)]
      · have q2 : starts s a ⟨#[93, 93]⟩ = false := by simpa using q
        rw [q2] at HS
        have HQ := hide q
        clear q q2
        go_wp2_with fail
        with_reducible refine (unhide HS).mono ?_
        rintro e w1 ⟨rfl, m2, rfl⟩
        go_wp2
        go_roundg 8
        case measure => omega
        case rel => exact ⟨5, rfl, by omega, rfl, ⟨_, rfl⟩, by rw [unhide HFI]; show ((⟨#[93, 93]⟩ : ByteArray) :: signsL.drop 5).find? _ = _; rw [List.find?_cons_of_neg (unhide HQ)]⟩
    by_cases e5 : i = 5
    · subst e5
      have i5 : ∀ w, (Instr.index 133 (.agg #[.string ⟨#[58, 58, 61]⟩, .string ⟨#[46, 46, 46]⟩, .string ⟨#[46, 46]⟩, .string ⟨#[91, 91]⟩, .string ⟨#[93, 93]⟩, .string ⟨#[123]⟩, .string ⟨#[125]⟩, .string ⟨#[91]⟩, .string ⟨#[93]⟩, .string ⟨#[40]⟩, .string ⟨#[41]⟩, .string ⟨#[44]⟩, .string ⟨#[58]⟩]) (.int .i64 5)).run Tryz.prog w = .ok (.string ⟨#[123]⟩) w := fun _ => by kernel_rfl
      have HS := hide (unhide HFo ⟨#[123]⟩ m)
      by_cases q : starts s a ⟨#[123]⟩ = true
      · rw [q] at HS
        have HQ := hide q
        clear q
        go_wp2_with fail
        with_reducible refine (unhide HS).mono ?_
        rintro e w1 ⟨rfl, m2, rfl⟩
        go_wp2
        go_ret2
        refine unhide HFin _ 1 _ ?_ rfl (((unhide HH).drewN _).add 1) (((Fr.refl g w).drewN _).set 1 _)
        rw [unhide HFI]; show ((⟨#[123]⟩ : ByteArray) :: signsL.drop 6).find? _ = _; rw [List.find?_cons_of_pos (unhide HQ)]
      · have q2 : starts s a ⟨#[123]⟩ = false := by simpa using q
        rw [q2] at HS
        have HQ := hide q
        clear q q2
        go_wp2_with fail
        with_reducible refine (unhide HS).mono ?_
        rintro e w1 ⟨rfl, m2, rfl⟩
        go_wp2
        go_roundg 7
        case measure => omega
        case rel => exact ⟨6, rfl, by omega, rfl, ⟨_, rfl⟩, by rw [unhide HFI]; show ((⟨#[123]⟩ : ByteArray) :: signsL.drop 6).find? _ = _; rw [List.find?_cons_of_neg (unhide HQ)]⟩
    by_cases e6 : i = 6
    · subst e6
      have i6 : ∀ w, (Instr.index 133 (.agg #[.string ⟨#[58, 58, 61]⟩, .string ⟨#[46, 46, 46]⟩, .string ⟨#[46, 46]⟩, .string ⟨#[91, 91]⟩, .string ⟨#[93, 93]⟩, .string ⟨#[123]⟩, .string ⟨#[125]⟩, .string ⟨#[91]⟩, .string ⟨#[93]⟩, .string ⟨#[40]⟩, .string ⟨#[41]⟩, .string ⟨#[44]⟩, .string ⟨#[58]⟩]) (.int .i64 6)).run Tryz.prog w = .ok (.string ⟨#[125]⟩) w := fun _ => by kernel_rfl
      have HS := hide (unhide HFo ⟨#[125]⟩ m)
      by_cases q : starts s a ⟨#[125]⟩ = true
      · rw [q] at HS
        have HQ := hide q
        clear q
        go_wp2_with fail
        with_reducible refine (unhide HS).mono ?_
        rintro e w1 ⟨rfl, m2, rfl⟩
        go_wp2
        go_ret2
        refine unhide HFin _ 1 _ ?_ rfl (((unhide HH).drewN _).add 1) (((Fr.refl g w).drewN _).set 1 _)
        rw [unhide HFI]; show ((⟨#[125]⟩ : ByteArray) :: signsL.drop 7).find? _ = _; rw [List.find?_cons_of_pos (unhide HQ)]
      · have q2 : starts s a ⟨#[125]⟩ = false := by simpa using q
        rw [q2] at HS
        have HQ := hide q
        clear q q2
        go_wp2_with fail
        with_reducible refine (unhide HS).mono ?_
        rintro e w1 ⟨rfl, m2, rfl⟩
        go_wp2
        go_roundg 6
        case measure => omega
        case rel => exact ⟨7, rfl, by omega, rfl, ⟨_, rfl⟩, by rw [unhide HFI]; show ((⟨#[125]⟩ : ByteArray) :: signsL.drop 7).find? _ = _; rw [List.find?_cons_of_neg (unhide HQ)]⟩
    by_cases e7 : i = 7
    · subst e7
      have i7 : ∀ w, (Instr.index 133 (.agg #[.string ⟨#[58, 58, 61]⟩, .string ⟨#[46, 46, 46]⟩, .string ⟨#[46, 46]⟩, .string ⟨#[91, 91]⟩, .string ⟨#[93, 93]⟩, .string ⟨#[123]⟩, .string ⟨#[125]⟩, .string ⟨#[91]⟩, .string ⟨#[93]⟩, .string ⟨#[40]⟩, .string ⟨#[41]⟩, .string ⟨#[44]⟩, .string ⟨#[58]⟩]) (.int .i64 7)).run Tryz.prog w = .ok (.string ⟨#[91]⟩) w := fun _ => by kernel_rfl
      have HS := hide (unhide HFo ⟨#[91]⟩ m)
      by_cases q : starts s a ⟨#[91]⟩ = true
      · rw [q] at HS
        have HQ := hide q
        clear q
        go_wp2_with fail
        with_reducible refine (unhide HS).mono ?_
        rintro e w1 ⟨rfl, m2, rfl⟩
        go_wp2
        go_ret2
        refine unhide HFin _ 1 _ ?_ rfl (((unhide HH).drewN _).add 1) (((Fr.refl g w).drewN _).set 1 _)
        rw [unhide HFI]; show ((⟨#[91]⟩ : ByteArray) :: signsL.drop 8).find? _ = _; rw [List.find?_cons_of_pos (unhide HQ)]
      · have q2 : starts s a ⟨#[91]⟩ = false := by simpa using q
        rw [q2] at HS
        have HQ := hide q
        clear q q2
        go_wp2_with fail
        with_reducible refine (unhide HS).mono ?_
        rintro e w1 ⟨rfl, m2, rfl⟩
        go_wp2
        go_roundg 5
        case measure => omega
        case rel => exact ⟨8, rfl, by omega, rfl, ⟨_, rfl⟩, by rw [unhide HFI]; show ((⟨#[91]⟩ : ByteArray) :: signsL.drop 8).find? _ = _; rw [List.find?_cons_of_neg (unhide HQ)]⟩
    by_cases e8 : i = 8
    · subst e8
      have i8 : ∀ w, (Instr.index 133 (.agg #[.string ⟨#[58, 58, 61]⟩, .string ⟨#[46, 46, 46]⟩, .string ⟨#[46, 46]⟩, .string ⟨#[91, 91]⟩, .string ⟨#[93, 93]⟩, .string ⟨#[123]⟩, .string ⟨#[125]⟩, .string ⟨#[91]⟩, .string ⟨#[93]⟩, .string ⟨#[40]⟩, .string ⟨#[41]⟩, .string ⟨#[44]⟩, .string ⟨#[58]⟩]) (.int .i64 8)).run Tryz.prog w = .ok (.string ⟨#[93]⟩) w := fun _ => by kernel_rfl
      have HS := hide (unhide HFo ⟨#[93]⟩ m)
      by_cases q : starts s a ⟨#[93]⟩ = true
      · rw [q] at HS
        have HQ := hide q
        clear q
        go_wp2_with fail
        with_reducible refine (unhide HS).mono ?_
        rintro e w1 ⟨rfl, m2, rfl⟩
        go_wp2
        go_ret2
        refine unhide HFin _ 1 _ ?_ rfl (((unhide HH).drewN _).add 1) (((Fr.refl g w).drewN _).set 1 _)
        rw [unhide HFI]; show ((⟨#[93]⟩ : ByteArray) :: signsL.drop 9).find? _ = _; rw [List.find?_cons_of_pos (unhide HQ)]
      · have q2 : starts s a ⟨#[93]⟩ = false := by simpa using q
        rw [q2] at HS
        have HQ := hide q
        clear q q2
        go_wp2_with fail
        with_reducible refine (unhide HS).mono ?_
        rintro e w1 ⟨rfl, m2, rfl⟩
        go_wp2
        go_roundg 4
        case measure => omega
        case rel => exact ⟨9, rfl, by omega, rfl, ⟨_, rfl⟩, by rw [unhide HFI]; show ((⟨#[93]⟩ : ByteArray) :: signsL.drop 9).find? _ = _; rw [List.find?_cons_of_neg (unhide HQ)]⟩
    by_cases e9 : i = 9
    · subst e9
      have i9 : ∀ w, (Instr.index 133 (.agg #[.string ⟨#[58, 58, 61]⟩, .string ⟨#[46, 46, 46]⟩, .string ⟨#[46, 46]⟩, .string ⟨#[91, 91]⟩, .string ⟨#[93, 93]⟩, .string ⟨#[123]⟩, .string ⟨#[125]⟩, .string ⟨#[91]⟩, .string ⟨#[93]⟩, .string ⟨#[40]⟩, .string ⟨#[41]⟩, .string ⟨#[44]⟩, .string ⟨#[58]⟩]) (.int .i64 9)).run Tryz.prog w = .ok (.string ⟨#[40]⟩) w := fun _ => by kernel_rfl
      have HS := hide (unhide HFo ⟨#[40]⟩ m)
      by_cases q : starts s a ⟨#[40]⟩ = true
      · rw [q] at HS
        have HQ := hide q
        clear q
        go_wp2_with fail
        with_reducible refine (unhide HS).mono ?_
        rintro e w1 ⟨rfl, m2, rfl⟩
        go_wp2
        go_ret2
        refine unhide HFin _ 1 _ ?_ rfl (((unhide HH).drewN _).add 1) (((Fr.refl g w).drewN _).set 1 _)
        rw [unhide HFI]; show ((⟨#[40]⟩ : ByteArray) :: signsL.drop 10).find? _ = _; rw [List.find?_cons_of_pos (unhide HQ)]
      · have q2 : starts s a ⟨#[40]⟩ = false := by simpa using q
        rw [q2] at HS
        have HQ := hide q
        clear q q2
        go_wp2_with fail
        with_reducible refine (unhide HS).mono ?_
        rintro e w1 ⟨rfl, m2, rfl⟩
        go_wp2
        go_roundg 3
        case measure => omega
        case rel => exact ⟨10, rfl, by omega, rfl, ⟨_, rfl⟩, by rw [unhide HFI]; show ((⟨#[40]⟩ : ByteArray) :: signsL.drop 10).find? _ = _; rw [List.find?_cons_of_neg (unhide HQ)]⟩
    by_cases e10 : i = 10
    · subst e10
      have i10 : ∀ w, (Instr.index 133 (.agg #[.string ⟨#[58, 58, 61]⟩, .string ⟨#[46, 46, 46]⟩, .string ⟨#[46, 46]⟩, .string ⟨#[91, 91]⟩, .string ⟨#[93, 93]⟩, .string ⟨#[123]⟩, .string ⟨#[125]⟩, .string ⟨#[91]⟩, .string ⟨#[93]⟩, .string ⟨#[40]⟩, .string ⟨#[41]⟩, .string ⟨#[44]⟩, .string ⟨#[58]⟩]) (.int .i64 10)).run Tryz.prog w = .ok (.string ⟨#[41]⟩) w := fun _ => by kernel_rfl
      have HS := hide (unhide HFo ⟨#[41]⟩ m)
      by_cases q : starts s a ⟨#[41]⟩ = true
      · rw [q] at HS
        have HQ := hide q
        clear q
        go_wp2_with fail
        with_reducible refine (unhide HS).mono ?_
        rintro e w1 ⟨rfl, m2, rfl⟩
        go_wp2
        go_ret2
        refine unhide HFin _ 1 _ ?_ rfl (((unhide HH).drewN _).add 1) (((Fr.refl g w).drewN _).set 1 _)
        rw [unhide HFI]; show ((⟨#[41]⟩ : ByteArray) :: signsL.drop 11).find? _ = _; rw [List.find?_cons_of_pos (unhide HQ)]
      · have q2 : starts s a ⟨#[41]⟩ = false := by simpa using q
        rw [q2] at HS
        have HQ := hide q
        clear q q2
        go_wp2_with fail
        with_reducible refine (unhide HS).mono ?_
        rintro e w1 ⟨rfl, m2, rfl⟩
        go_wp2
        go_roundg 2
        case measure => omega
        case rel => exact ⟨11, rfl, by omega, rfl, ⟨_, rfl⟩, by rw [unhide HFI]; show ((⟨#[41]⟩ : ByteArray) :: signsL.drop 11).find? _ = _; rw [List.find?_cons_of_neg (unhide HQ)]⟩
    by_cases e11 : i = 11
    · subst e11
      have i11 : ∀ w, (Instr.index 133 (.agg #[.string ⟨#[58, 58, 61]⟩, .string ⟨#[46, 46, 46]⟩, .string ⟨#[46, 46]⟩, .string ⟨#[91, 91]⟩, .string ⟨#[93, 93]⟩, .string ⟨#[123]⟩, .string ⟨#[125]⟩, .string ⟨#[91]⟩, .string ⟨#[93]⟩, .string ⟨#[40]⟩, .string ⟨#[41]⟩, .string ⟨#[44]⟩, .string ⟨#[58]⟩]) (.int .i64 11)).run Tryz.prog w = .ok (.string ⟨#[44]⟩) w := fun _ => by kernel_rfl
      have HS := hide (unhide HFo ⟨#[44]⟩ m)
      by_cases q : starts s a ⟨#[44]⟩ = true
      · rw [q] at HS
        have HQ := hide q
        clear q
        go_wp2_with fail
        with_reducible refine (unhide HS).mono ?_
        rintro e w1 ⟨rfl, m2, rfl⟩
        go_wp2
        go_ret2
        refine unhide HFin _ 1 _ ?_ rfl (((unhide HH).drewN _).add 1) (((Fr.refl g w).drewN _).set 1 _)
        rw [unhide HFI]; show ((⟨#[44]⟩ : ByteArray) :: signsL.drop 12).find? _ = _; rw [List.find?_cons_of_pos (unhide HQ)]
      · have q2 : starts s a ⟨#[44]⟩ = false := by simpa using q
        rw [q2] at HS
        have HQ := hide q
        clear q q2
        go_wp2_with fail
        with_reducible refine (unhide HS).mono ?_
        rintro e w1 ⟨rfl, m2, rfl⟩
        go_wp2
        go_roundg 1
        case measure => omega
        case rel => exact ⟨12, rfl, by omega, rfl, ⟨_, rfl⟩, by rw [unhide HFI]; show ((⟨#[44]⟩ : ByteArray) :: signsL.drop 12).find? _ = _; rw [List.find?_cons_of_neg (unhide HQ)]⟩
    by_cases e12 : i = 12
    · subst e12
      have i12 : ∀ w, (Instr.index 133 (.agg #[.string ⟨#[58, 58, 61]⟩, .string ⟨#[46, 46, 46]⟩, .string ⟨#[46, 46]⟩, .string ⟨#[91, 91]⟩, .string ⟨#[93, 93]⟩, .string ⟨#[123]⟩, .string ⟨#[125]⟩, .string ⟨#[91]⟩, .string ⟨#[93]⟩, .string ⟨#[40]⟩, .string ⟨#[41]⟩, .string ⟨#[44]⟩, .string ⟨#[58]⟩]) (.int .i64 12)).run Tryz.prog w = .ok (.string ⟨#[58]⟩) w := fun _ => by kernel_rfl
      have HS := hide (unhide HFo ⟨#[58]⟩ m)
      by_cases q : starts s a ⟨#[58]⟩ = true
      · rw [q] at HS
        have HQ := hide q
        clear q
        go_wp2_with fail
        with_reducible refine (unhide HS).mono ?_
        rintro e w1 ⟨rfl, m2, rfl⟩
        go_wp2
        go_ret2
        refine unhide HFin _ 1 _ ?_ rfl (((unhide HH).drewN _).add 1) (((Fr.refl g w).drewN _).set 1 _)
        rw [unhide HFI]; show ((⟨#[58]⟩ : ByteArray) :: signsL.drop 13).find? _ = _; rw [List.find?_cons_of_pos (unhide HQ)]
      · have q2 : starts s a ⟨#[58]⟩ = false := by simpa using q
        rw [q2] at HS
        have HQ := hide q
        clear q q2
        go_wp2_with fail
        with_reducible refine (unhide HS).mono ?_
        rintro e w1 ⟨rfl, m2, rfl⟩
        go_wp2
        go_roundg 0
        case measure => omega
        case rel => exact ⟨13, rfl, by omega, rfl, ⟨_, rfl⟩, by rw [unhide HFI]; show ((⟨#[58]⟩ : ByteArray) :: signsL.drop 13).find? _ = _; rw [List.find?_cons_of_neg (unhide HQ)]⟩
    have e13 : i = 13 := by omega
    subst e13
    go_wp2
    go_ret2
    exact ⟨_, false, a, rfl, (unhide HH).drewN _, (Fr.refl g w).drewN _, by rw [signAt, unhide HFI]; rfl⟩
/-- What one token hands back. -/
def TokA (w : World) (g : Nat) (s : ByteArray) (v : Value) (r : Option Tok) (e : Ending) (w' : World) : Prop :=
  ∃ k x b a', e = .returned (.tuple #[.int .i64 k, .string x, .bool b]) ∧ LX w' g s a' v ∧ Fr g w w' ∧ r = if b = true then some (k, x, a') else none
theorem dig_not_let {c : Int} (h : isDig c = true) : isLet c = false := by
  simp only [isDig, Bool.and_eq_true, decide_eq_true_eq] at h
  simp only [isLet, Bool.or_eq_false_iff, Bool.and_eq_false_iff, decide_eq_false_iff_not]
  omega
theorem let_facts {c : Int} (h : isLet c = false) : True := trivial
theorem tok_let {s : ByteArray} {a : Nat} (h : isLet (bt s a) = true) : tokAt s a = nameAt s a := by rw [tokAt, if_pos h]
theorem tok_num {s : ByteArray} {a : Nat} (h : isLet (bt s a) = false) (h2 : isDig (bt s a) = true ∨ bt s a = 45) : tokAt s a = numAt s a := by rw [tokAt, if_neg (by simp [h]), if_pos h2]
theorem tok_hex {s : ByteArray} {a : Nat} (h : isLet (bt s a) = false) (h2 : ¬ (isDig (bt s a) = true ∨ bt s a = 45)) (h3 : bt s a = 39) : tokAt s a = hexAt s a := by rw [tokAt, if_neg (by simp [h]), if_neg h2, if_pos h3]
theorem tok_quo {s : ByteArray} {a : Nat} (h : isLet (bt s a) = false) (h2 : ¬ (isDig (bt s a) = true ∨ bt s a = 45)) (h3 : bt s a = 34) : tokAt s a = quoAt s a := by rw [tokAt, if_neg (by simp [h]), if_neg h2, if_neg (by omega), if_pos h3]
theorem tok_sign {s : ByteArray} {a : Nat} (h : isLet (bt s a) = false) (h2 : ¬ (isDig (bt s a) = true ∨ bt s a = 45)) (h3 : bt s a ≠ 39) (h4 : bt s a ≠ 34) : tokAt s a = signAt s a := by rw [tokAt, if_neg (by simp [h]), if_neg h2, if_neg h3, if_neg h4]

set_option maxRecDepth 100000 in
set_option maxHeartbeats 8000000 in
theorem token_any {W w : World} (hL : LexW W) (hkW : Keeps W w) {g : Nat} {s : ByteArray} {a : Nat} {v : Value} (h : LX w g s a v) (ha : a < s.size) (hs : s.size ≤ 1000000000) (hg : W.heap.size ≤ g) :
    Calls Tryz.prog 28 #[.pointer (some ⟨g, 0, none⟩)] w (TokA w g s v (tokAt s a)) := by
  have HP := hide (peek00_any h (Nat.le_of_lt ha) hs (bt s a) rfl)
  have hc0 := bt_nonneg s a
  have hc1 := bt_le s a
  by_cases q1 : isLet (bt s a) = true
  · have HN := hide (fun m => name_any (h.drewN m) ha q1 hs)
    have HT := hide (tok_let q1)
    have HLt := hide (letter_is (bt s a) true q1 hc0 hc1)
    have hlt : a < nameEnd s a := by
      have h2 : nmP s (nameEnd s a) = false := (spanAt_is (nmP_lt s) a).2
      have h1 : a ≤ nameEnd s a := spanAt_ge (nmP_lt s) a
      by_cases e : nameEnd s a = a
      · rw [e] at h2; simp [nmP, q1] at h2
      · omega
    have hle : nameEnd s a ≤ s.size := spanAt_le (nmP_lt s) (Nat.le_of_lt ha)
    have HK := hide (kindOf_any (sub s a (nameEnd s a)) (by rw [sub_size s a _ hle]; omega))
    clear q1 h hlt hle hL hkW
    generalize bt s a = c at *
    go_enter Tryz.func28, Tryz.ntmps28
    go_wp2_with fail
    with_reducible refine (unhide HP).mono ?_
    rintro e w1 ⟨rfl, m, rfl⟩
    go_wp2_with fail
    with_reducible refine (unhide HLt _).mono ?_
    rintro e w1 ⟨rfl, rfl⟩
    go_wp2_with fail
    refine (unhide HN _).mono ?_
    rintro e w2 ⟨rfl, hx2, hf2⟩
    have HX2 := hide hx2
    have HF2 := hide (((Fr.refl g w).drewN m).trans hf2)
    have HNA := hide (show nameAt s a = if nameOk s a = true then some (kindOf (sub s a (nameEnd s a)), sub s a (nameEnd s a), nameEnd s a) else none from rfl)
    clear hx2 hf2
    generalize nameOk s a = ok at *
    generalize hsb : sub s a (nameEnd s a) = sb at *
    clear hsb
    go_wp2_with fail
    with_reducible refine (unhide HK _).mono ?_
    rintro e w1 ⟨rfl, rfl⟩
    go_wp2
    (try simp only [Exit.inBlock, Exit.then]); refine bodyPost_ret (results_tmp3 rfl _ _ _) rfl ?_
    exact ⟨_, _, ok, _, rfl, unhide HX2, unhide HF2, by rw [unhide HT, unhide HNA]⟩
  · have q1' : isLet (bt s a) = false := by simpa using q1
    have HLt := hide (letter_is (bt s a) false q1' hc0 hc1)
    clear q1
    by_cases q2 : isDig (bt s a) = true ∨ bt s a = 45
    · have HN := hide (fun m => number_any hL (hkW.drewN m) (h.drewN m) ha q2 hs hg)
      have HT := hide (tok_num q1' q2)
      have q3 : (isDig (bt s a) = true) ∨ (isDig (bt s a) = false ∧ bt s a = 45) := by
        by_cases q : isDig (bt s a) = true
        · exact .inl q
        · exact .inr ⟨by simpa using q, q2.resolve_left q⟩
      have HNA := hide (show numAt s a = if numOk s a = true then some (3, sub s a (numEnd s a), numEnd s a) else none from rfl)
      have HDg := hide (fun b hb => digit_is (bt s a) b hb hc0 hc1)
      clear q1' q2 h hL hkW
      generalize bt s a = c at *
      rcases q3 with q3 | ⟨q3, rfl⟩
      · have HD2 := hide (unhide HDg _ q3)
        clear q3
        go_enter Tryz.func28, Tryz.ntmps28
        go_wp2_with fail
        with_reducible refine (unhide HP).mono ?_
        rintro e w1 ⟨rfl, m, rfl⟩
        go_wp2_with (first | (with_reducible refine (unhide HLt _).mono ?_; rintro e w1 ⟨rfl, rfl⟩) | (with_reducible refine (unhide HD2 _).mono ?_; rintro e w1 ⟨rfl, rfl⟩))
        refine (unhide HN _).mono ?_
        rintro e w2 ⟨x, a', rfl, hx2, hf2, hok⟩
        have HX2 := hide hx2
        have HF2 := hide (((Fr.refl g w).drewN m).trans hf2)
        have HO := hide hok
        clear hx2 hf2 hok
        generalize numOk s a = ok at *
        go_wp2
        (try simp only [Exit.inBlock, Exit.then]); refine bodyPost_ret (results_tmp3 rfl _ _ _) rfl ?_
        refine ⟨_, _, ok, _, rfl, unhide HX2, unhide HF2, ?_⟩
        rw [unhide HT, unhide HNA]
        cases ok
        · rfl
        · obtain ⟨e1, e2⟩ := unhide HO rfl
          rw [e1, e2]
      · have HD2 := hide (unhide HDg _ q3)
        clear q3
        go_enter Tryz.func28, Tryz.ntmps28
        go_wp2_with fail
        with_reducible refine (unhide HP).mono ?_
        rintro e w1 ⟨rfl, m, rfl⟩
        go_wp2_with (first | (with_reducible refine (unhide HLt _).mono ?_; rintro e w1 ⟨rfl, rfl⟩) | (with_reducible refine (unhide HD2 _).mono ?_; rintro e w1 ⟨rfl, rfl⟩))
        refine (unhide HN _).mono ?_
        rintro e w2 ⟨x, a', rfl, hx2, hf2, hok⟩
        have HX2 := hide hx2
        have HF2 := hide (((Fr.refl g w).drewN m).trans hf2)
        have HO := hide hok
        clear hx2 hf2 hok
        generalize numOk s a = ok at *
        go_wp2
        (try simp only [Exit.inBlock, Exit.then]); refine bodyPost_ret (results_tmp3 rfl _ _ _) rfl ?_
        refine ⟨_, _, ok, _, rfl, unhide HX2, unhide HF2, ?_⟩
        rw [unhide HT, unhide HNA]
        cases ok
        · rfl
        · obtain ⟨e1, e2⟩ := unhide HO rfl
          rw [e1, e2]
    · have q4 : isDig (bt s a) = false := by
        by_cases q : isDig (bt s a) = true
        · exact absurd (.inl q) q2
        · simpa using q
      have e45 : (bt s a == 45) = false := beq_eq_false_iff_ne.2 (fun q => q2 (.inr q))
      have HD2 := hide (digit_is (bt s a) false q4 hc0 hc1)
      by_cases q5 : bt s a = 39
      · have HN := hide (fun m => hex_any (h.drewN m) ha hs)
        have HT := hide (tok_hex q1' q2 q5)
        have HNA := hide (show hexAt s a = if hexOk s a = true then some (4, sub s (a + 1) (hexEnd s a), hexEnd s a + 2) else none from rfl)
        clear q1' q2 q4 h hL hkW
        generalize bt s a = c at *
        subst q5
        go_enter Tryz.func28, Tryz.ntmps28
        go_wp2_with fail
        with_reducible refine (unhide HP).mono ?_
        rintro e w1 ⟨rfl, m, rfl⟩
        go_wp2_with (first | (with_reducible refine (unhide HLt _).mono ?_; rintro e w1 ⟨rfl, rfl⟩) | (with_reducible refine (unhide HD2 _).mono ?_; rintro e w1 ⟨rfl, rfl⟩))
        refine (unhide HN _).mono ?_
        rintro e w2 ⟨x, a', rfl, hx2, hf2, hok⟩
        have HX2 := hide hx2
        have HF2 := hide (((Fr.refl g w).drewN m).trans hf2)
        have HO := hide hok
        clear hx2 hf2 hok
        generalize hexOk s a = ok at *
        go_wp2
        (try simp only [Exit.inBlock, Exit.then]); refine bodyPost_ret (results_tmp3 rfl _ _ _) rfl ?_
        refine ⟨_, _, ok, _, rfl, unhide HX2, unhide HF2, ?_⟩
        rw [unhide HT, unhide HNA]
        cases ok
        · rfl
        · obtain ⟨e1, e2⟩ := unhide HO rfl
          rw [e1, e2]
      · have e39 : (bt s a == 39) = false := beq_eq_false_iff_ne.2 q5
        by_cases q6 : bt s a = 34
        · have HN := hide (fun m => quoted_any hL (hkW.drewN m) (h.drewN m) ha hs hg)
          have HT := hide (tok_quo q1' q2 q6)
          clear q1' q2 q4 q5 h hL hkW
          generalize bt s a = c at *
          subst q6
          go_enter Tryz.func28, Tryz.ntmps28
          go_wp2_with fail
          with_reducible refine (unhide HP).mono ?_
          rintro e w1 ⟨rfl, m, rfl⟩
          go_wp2_with (first | (with_reducible refine (unhide HLt _).mono ?_; rintro e w1 ⟨rfl, rfl⟩) | (with_reducible refine (unhide HD2 _).mono ?_; rintro e w1 ⟨rfl, rfl⟩))
          refine (unhide HN _).mono ?_
          rintro e w2 ⟨x, ok, a', rfl, hx2, hf2, hok⟩
          have HX2 := hide hx2
          have HF2 := hide (((Fr.refl g w).drewN m).trans hf2)
          have HO := hide hok
          clear hx2 hf2 hok
          go_wp2
          (try simp only [Exit.inBlock, Exit.then]); refine bodyPost_ret (results_tmp3 rfl _ _ _) rfl ?_
          exact ⟨_, _, ok, _, rfl, unhide HX2, unhide HF2, by rw [unhide HT, unhide HO]⟩
        · have e34 : (bt s a == 34) = false := beq_eq_false_iff_ne.2 q6
          have HN := hide (fun m => sign_any hL (hkW.drewN m) (h.drewN m) ha hs)
          have HT := hide (tok_sign q1' q2 q5 q6)
          clear q1' q2 q4 q5 q6 h hL hkW
          generalize bt s a = c at *
          go_enter Tryz.func28, Tryz.ntmps28
          go_wp2_with fail
          with_reducible refine (unhide HP).mono ?_
          rintro e w1 ⟨rfl, m, rfl⟩
          go_wp2_with (first | (with_reducible refine (unhide HLt _).mono ?_; rintro e w1 ⟨rfl, rfl⟩) | (with_reducible refine (unhide HD2 _).mono ?_; rintro e w1 ⟨rfl, rfl⟩))
          refine (unhide HN _).mono ?_
          rintro e w2 ⟨x, ok, a', rfl, hx2, hf2, hok⟩
          have HX2 := hide hx2
          have HF2 := hide (((Fr.refl g w).drewN m).trans hf2)
          have HO := hide hok
          clear hx2 hf2 hok
          go_wp2
          (try simp only [Exit.inBlock, Exit.then]); refine bodyPost_ret (results_tmp3 rfl _ _ _) rfl ?_
          exact ⟨_, _, ok, _, rfl, unhide HX2, unhide HF2, by rw [unhide HT, unhide HO]⟩
end Go.Proofs.YtckcbgijddglpaaGreatDoor
