/- The reader goes on: comments, white space. -/
import Derived.Test.YtckcbgijddglpaaGreatDoorLex0
import Derived.Deep.LoopGhost
namespace Go.Proofs.YtckcbgijddglpaaGreatDoor
open Go.ChangeShapes Go.WideShapes Go.ChangeAt Go.RowKit Go.PlainAid
set_option linter.unusedVariables false

/-- But for block g all is as it was. -/
def Fr (g : Nat) (w w' : World) : Prop := w'.os = w.os ∧ w'.tape = w.tape ∧ w'.output = w.output ∧ w.heap.size ≤ w'.heap.size ∧ ∀ b, b < w.heap.size → b ≠ g → w'.heap[b]? = w.heap[b]?
theorem Fr.refl (g : Nat) (w : World) : Fr g w w := ⟨rfl, rfl, rfl, Nat.le_refl _, fun _ _ _ => rfl⟩
theorem Fr.trans {g : Nat} {a b c : World} (h : Fr g a b) (k : Fr g b c) : Fr g a c :=
  ⟨k.1.trans h.1, k.2.1.trans h.2.1, k.2.2.1.trans h.2.2.1, Nat.le_trans h.2.2.2.1 k.2.2.2.1, fun x hx hg => (k.2.2.2.2 x (Nat.lt_of_lt_of_le hx h.2.2.2.1) hg).trans (h.2.2.2.2 x hx hg)⟩
theorem Fr.drewN {g : Nat} {w w' : World} (h : Fr g w w') (n : Nat) : Fr g w (w'.drewN n) := ⟨h.1, h.2.1, h.2.2.1, h.2.2.2.1, h.2.2.2.2⟩
theorem Fr.keeps {g : Nat} {w w' w2 : World} (h : Fr g w w') (k : Keeps w' w2) : Fr g w w2 :=
  h.trans ⟨k.os, k.tape, k.output, k.size, fun b hb _ => k.block b hb⟩
theorem Fr.set {g : Nat} {w w' : World} (h : Fr g w w') (i : Nat) (u : Value) : Fr g w (w'.setCell ⟨g, i, none⟩ u) := by
  refine h.trans ⟨?_, ?_, ?_, ?_, ?_⟩
  · exact ((Below.refl 0 w').setCell (p := ⟨g, i, none⟩) (Nat.zero_le _) u).os
  · exact ((Below.refl 0 w').setCell (p := ⟨g, i, none⟩) (Nat.zero_le _) u).tape
  · exact ((Below.refl 0 w').setCell (p := ⟨g, i, none⟩) (Nat.zero_le _) u).output
  · exact ((Below.refl 0 w').setCell (p := ⟨g, i, none⟩) (Nat.zero_le _) u).size
  · intro b hb hg
    exact Below.heap_setCell w' ⟨g, i, none⟩ u b hg
/-- .. and what lies behind a world that kept all of another one, g being younger than that one. -/
theorem Keeps.fr {g : Nat} {w w' w2 : World} (h : Keeps w w') (k : Fr g w' w2) (hg : w.heap.size ≤ g) : Keeps w w2 :=
  ⟨k.1.trans h.os, k.2.1.trans h.tape, k.2.2.1.trans h.output, Nat.le_trans h.size k.2.2.2.1, fun b hb => (k.2.2.2.2 b (Nat.lt_of_lt_of_le hb h.size) (by omega)).trans (h.block b hb)⟩
theorem LX.drewN {w : World} {g : Nat} {s : ByteArray} {a : Nat} {v : Value} (h : LX w g s a v) (n : Nat) : LX (w.drewN n) g s a v := h
theorem LX.add {w : World} {g : Nat} {s : ByteArray} {a : Nat} {v : Value} (h : LX w g s a v) (k : Nat) : LX (w.setCell ⟨g, 1, none⟩ (.int .i64 ((a : Int) + (k : Int)))) g s (a + k) v := by
  have := Blk.set_ h 1 (.int .i64 ((a : Int) + (k : Int)))
  simpa [LX, Int.natCast_add] using this
theorem LX.add1 {w : World} {g : Nat} {s : ByteArray} {a : Nat} {v : Value} (h : LX w g s a v) : LX (w.setCell ⟨g, 1, none⟩ (.int .i64 ((a : Int) + 1))) g s (a + 1) v := h.add 1
theorem LX.add2 {w : World} {g : Nat} {s : ByteArray} {a : Nat} {v : Value} (h : LX w g s a v) : LX (w.setCell ⟨g, 1, none⟩ (.int .i64 ((a : Int) + 2))) g s (a + 2) v := h.add 2
theorem LX.cells {w : World} {g : Nat} {s : ByteArray} {a : Nat} {v : Value} (h : LX w g s a v) : w.cell? ⟨g, 0, none⟩ = some (.string s) ∧ w.cell? ⟨g, 1, none⟩ = some (.int .i64 (a : Nat)) ∧ w.frozen? ⟨g, 1, none⟩ = false ∧ g < w.heap.size :=
  ⟨Blk.cell h 0, Blk.cell h 1, Blk.frozen h 1, Blk.lt h⟩
theorem LX.keeps {w w' : World} {g : Nat} {s : ByteArray} {a : Nat} {v : Value} (h : LX w g s a v) (k : Keeps w w') : LX w' g s a v := Blk.keeps h k
theorem peek0_any {w : World} {g : Nat} {s : ByteArray} {a : Nat} {v : Value} (h : LX w g s a v) (ha : a ≤ s.size) (hs : s.size ≤ 1000000000) (c : Int) (hc : bt s a = c) (n : Nat) :
    Calls Tryz.prog 54 #[.pointer (some ⟨g, 0, none⟩), .int .i64 0] (w.drewN n) fun e w' => e = .returned (.int .u8 c) ∧ ∃ m, w' = (w.drewN n).drewN m := by
  subst hc
  simpa using peek_any 0 (h.drewN n) (by omega) (by omega) hs
theorem peek1_any {w : World} {g : Nat} {s : ByteArray} {a : Nat} {v : Value} (h : LX w g s a v) (ha : a ≤ s.size) (hs : s.size ≤ 1000000000) (c : Int) (hc : bt s (a + 1) = c) (n : Nat) :
    Calls Tryz.prog 54 #[.pointer (some ⟨g, 0, none⟩), .int .i64 1] (w.drewN n) fun e w' => e = .returned (.int .u8 c) ∧ ∃ m, w' = (w.drewN n).drewN m := by
  subst hc
  simpa using peek_any 1 (h.drewN n) (by omega) (by omega) hs
theorem dash_any {w : World} {g : Nat} {s : ByteArray} {a : Nat} {v : Value} (h : LX w g s a v) (ha : a ≤ s.size) (hs : s.size ≤ 1000000000) (c : Bool) (hc : decide (bt s a = 45 ∧ bt s (a + 1) = 45) = c) (n : Nat) :
    Calls Tryz.prog 55 #[.pointer (some ⟨g, 0, none⟩), .string ⟨#[45, 45]⟩] (w.drewN n) fun e w' => e = .returned (.bool c) ∧ ∃ m, w' = (w.drewN n).drewN m := by
  rw [← hc, ← starts_dash]
  exact follows_any _ (h.drewN n) ha hs
theorem drewN_zero (w : World) : w.drewN 0 = w := rfl

set_option maxRecDepth 100000 in
set_option maxHeartbeats 1000000 in
theorem comment_any {w : World} {g : Nat} {s : ByteArray} {a : Nat} {v : Value} (h : LX w g s a v) (ha : a + 2 ≤ s.size) (hs : s.size ≤ 1000000000) :
    Calls Tryz.prog 56 #[.pointer (some ⟨g, 0, none⟩)] w fun e w' => e = .returned (.tuple #[]) ∧ LX w' g s (cmtAt s (a + 2)) v ∧ Fr g w w' := by
  obtain ⟨h0, h1, h2, h3⟩ := h.cells
  have HH := hide h
  have HS := hide hs
  clear h
  go_enter Tryz.func56, Tryz.ntmps56
  go_wp2
  clear h0 h1 h2 h3
  go_loopg [] (s.size - (a + 2)) (fun k wr => ∃ a', LX wr g s a' v ∧ Fr g w wr ∧ a' ≤ s.size ∧ k = s.size - a' ∧ cmtAt s a' = cmtAt s (a + 2))
  case atStart => exact ⟨a + 2, (unhide HH).add2, (Fr.refl g w).set 1 _, ha, rfl, rfl⟩
  case round =>
    obtain ⟨a', hx, hf, hle, hk, hv⟩ := hrel
    obtain ⟨h0, h1, h2, h3⟩ := hx.cells
    have HX := hide hx
    have HF := hide hf
    have HV := hide hv
    have HK := hide hk
    clear hx hf hv hk
    by_cases hlt : a' < s.size
    · have hlt2 : (a' : Int) < (s.size : Int) := by omega
      have HP := hide (fun n => peek0_any (unhide HX) hle (unhide HS) (bt s a') rfl n)
      have HD := hide (fun n => dash_any (unhide HX) hle (unhide HS) _ rfl n)
      generalize hc : bt s a' = c at HP HD
      have HC := hide hc
      clear hc
      by_cases h10 : c = 10
      · subst h10
        go_wp2
        go_quiet (exact Calls.quiet_of (unhide HP _))
        go_wp2
        go_end0
        refine ⟨rfl, ?_, (unhide HF).drewN _⟩
        rw [← unhide HV, cmtAt_eq hle, if_pos (.inl (unhide HC))]
        exact (unhide HX).drewN _
      · have e10 : (c != 10) = true := by rw [bne_iff_ne]; exact h10
        by_cases hd : c = 45 ∧ bt s (a' + 1) = 45
        · have HD2 := hide (show ∀ n, Calls Tryz.prog 55 #[.pointer (some ⟨g, 0, none⟩), .string ⟨#[45, 45]⟩] (wr.drewN n) fun e w' => e = .returned (.bool true) ∧ ∃ m, w' = (wr.drewN n).drewN m by rw [← decide_eq_true hd]; exact unhide HD)
          have HE := hide hd
          clear hd HD
          go_wp2
          go_quiet (exact Calls.quiet_of (unhide HP _))
          go_wp2_with fail
          refine (unhide HD2 _).mono ?_
          rintro e w1 ⟨rfl, m, rfl⟩
          go_wp2
          (try simp only [Exit.inBlock, Exit.then]); refine bodyPost_ret (results_none rfl _ _ _) rfl ?_
          refine ⟨rfl, ?_, (((unhide HF).drewN _).set 1 _)⟩
          have hd := unhide HE
          rw [← unhide HV, cmtAt_eq hle, if_neg (by rw [unhide HC]; omega), if_pos ⟨(unhide HC).trans hd.1, hd.2⟩]
          exact ((unhide HX).drewN _).add2
        · have HD2 := hide (show ∀ n, Calls Tryz.prog 55 #[.pointer (some ⟨g, 0, none⟩), .string ⟨#[45, 45]⟩] (wr.drewN n) fun e w' => e = .returned (.bool false) ∧ ∃ m, w' = (wr.drewN n).drewN m by rw [← decide_eq_false hd]; exact unhide HD)
          have HE := hide hd
          clear hd HD
          go_wp2
          go_quiet (exact Calls.quiet_of (unhide HP _))
          go_wp2_with fail
          refine (unhide HD2 _).mono ?_
          rintro e w1 ⟨rfl, m, rfl⟩
          go_wp2
          go_roundg (s.size - (a' + 1))
          case measure => have := unhide HK; omega
          case rel =>
            refine ⟨a' + 1, ((unhide HX).drewN _).add1, (((unhide HF).drewN _).set 1 _), by omega, rfl, ?_⟩
            rw [← unhide HV, cmtAt_eq hle, if_neg (by rw [unhide HC]; omega), if_neg (by rw [unhide HC]; exact unhide HE)]
    · have hlt2 : ¬ (a' : Int) < (s.size : Int) := by omega
      go_wp2
      go_quiet (fail)
      go_wp2
      go_end0
      refine ⟨rfl, ?_, (unhide HF).drewN _⟩
      rw [← unhide HV, cmtAt_eq hle, if_pos (.inr (by omega))]
      exact (unhide HX).drewN _
end Go.Proofs.YtckcbgijddglpaaGreatDoor
