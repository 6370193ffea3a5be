/- The tokens of a text. -/
import Derived.Test.YtckcbgijddglpaaGreatDoorLex8
import Derived.Test.YtckcbgijddglpaaGreatDoorLexR0
namespace Go.Proofs.YtckcbgijddglpaaGreatDoor
open Go.ChangeShapes Go.WideShapes Go.ChangeAt Go.RowKit Go.PlainAid
set_option linter.unusedVariables false
set_option linter.unusedSimpArgs false

theorem LX.setv {w : World} {g : Nat} {s : ByteArray} {a : Nat} {v : Value} (h : LX w g s a v) (u : Value) : LX (w.setCell ⟨g, 2, none⟩ u) g s a u := by
  simpa [LX] using Blk.set_ h 2 u
/-- The lexer's tokens so far. -/
def TkI (w : World) (s : ByteArray) (l : List Tok) (a : Nat) (v : Value) (wr : World) : Prop :=
  LX wr w.heap.size s a v ∧ Keeps w wr ∧ wr.ownsRow (w.heap.size + 1) 53 3 v l.length (tokL l)
theorem TkI.fr {w wr w2 : World} {s : ByteArray} {l : List Tok} {a a2 : Nat} {v : Value} (h : TkI w s l a v wr) (hf : Fr w.heap.size wr w2) (hx : LX w2 w.heap.size s a2 v) : TkI w s l a2 v w2 := by
  refine ⟨hx, h.2.1.fr hf (Nat.le_refl _), own_kept h.2.2 fun b hb => ?_⟩
  have := own_lt h.2.2 b hb
  exact hf.2.2.2.2 b this.2 (by omega)
theorem TkI.grown {w wr w2 : World} {s : ByteArray} {l : List Tok} {a : Nat} {v : Value} (h : TkI w s l a v wr) (o : Obj) (hg : (wr.alloc o).grownBy w2 v.ownBlock) : LX w2 w.heap.size s a v ∧ Keeps w w2 := by
  have hne : some w.heap.size ≠ v.ownBlock := fun e => by have := own_lt h.2.2 _ e.symm; omega
  refine ⟨Blk.grown (Blk.alloc h.1 o) hg hne, (h.2.1.alloc o).grown hg fun k hk => ?_⟩
  have := own_lt h.2.2 _ hk; omega
theorem TkI.push {w w2 : World} {s : ByteArray} {l : List Tok} {t : Tok} {a : Nat} {v v' : Value} (hx : LX w2 w.heap.size s a v) (hk : Keeps w w2) (ho : w2.ownsRow (w.heap.size + 1) 53 3 v' (l.length + 1) (tokL l ++ tokC t)) :
    TkI w s (l ++ [t]) a v' (w2.setCell ⟨w.heap.size, 2, none⟩ v') := by
  refine ⟨hx.setv v', hk.setCell (p := ⟨w.heap.size, 2, none⟩) (Nat.le_refl _) v', ?_⟩
  rw [tokL_snoc, List.length_append]
  exact ownsRow_setCell_below ho (a := ⟨w.heap.size, 2, none⟩) (Nat.lt_succ_self _) v'

theorem lt_of_blk {w : World} {g : Nat} {s : ByteArray} {a : Nat} {v : Value} (h : LX w g s a v) : g < w.heap.size := Blk.lt h
theorem one_tok (w : World) (t : Tok) : Reads (w.alloc (.cells #[.int .i64 t.1, .string t.2.1, .int .i64 (t.2.2 : Nat)] 53)) (w.heap.size + 1) 3 (some ⟨w.heap.size, 0, none⟩) 1 (tokC t) := by
  refine ⟨rfl, fun _ => ⟨_, rfl, by simp, fun j u hu => ?_⟩⟩
  have hb : Blk (w.alloc (.cells #[.int .i64 t.1, .string t.2.1, .int .i64 (t.2.2 : Nat)] 53)) w.heap.size 53 #[.int .i64 t.1, .string t.2.1, .int .i64 (t.2.2 : Nat)] := Blk.new _ _ _
  have := hb.cell j
  rw [show (#[.int .i64 t.1, .string t.2.1, .int .i64 (t.2.2 : Nat)] : Array Value)[j]? = (tokC t)[j]? by simp [tokC]] at this
  rw [hu] at this
  by_cases h0 : j = 0
  · subst h0; simpa [Addr.add] using this
  · simpa [Addr.add, h0] using this

set_option maxRecDepth 100000 in
set_option maxHeartbeats 8000000 in
theorem tokens_any {w : World} (hL : LexW w) (s : ByteArray) (hs : s.size ≤ 1000000000) :
    Calls Tryz.prog 11 #[.string s] w (GivesToks (toks s) w) := by
  by_cases hbig : 8000 < s.size
  · have hbI : (8000 : Int) < (s.size : Int) := by omega
    have HT := hide (show toks s = .error (0, 5) by rw [toks, if_pos hbig])
    go_enter Tryz.func11, Tryz.ntmps11
    go_wp2
    (try simp only [Exit.inBlock, Exit.then]); refine bodyPost_ret (results_tmp3 rfl _ _ _) rfl ?_
    exact gives_err (unhide HT) (Keeps.refl _)
  have hbI : ¬ (8000 : Int) < (s.size : Int) := by omega
  have hsI : s.size ≤ 8000 := by omega
  have HT := hide (show toks s = toksE (toksAt s 0) by rw [toks, if_neg hbig])
  clear hbig
  have HKA := hide ((Keeps.refl w).alloc (.cells #[.string s, .int .i64 0, .slice none 0 0] 80))
  have HX0 : Hid (LX (w.alloc (.cells #[.string s, .int .i64 0, .slice none 0 0] 80)) w.heap.size s 0 (.slice none 0 0)) := Blk.new _ _ _
  have HSk := hide (fun (wr : World) (a : Nat) (v : Value) (h : LX wr w.heap.size s a v) (ha : a ≤ s.size) => skip_any h ha hs)
  have HTo := hide (fun (wr : World) (a : Nat) (v : Value) (h : LX wr w.heap.size s a v) (ha : a < s.size) (hk : Keeps w wr) => token_any hL hk h ha hs (Nat.le_refl _))
  obtain ⟨i0, hi0, hz0, hz1, hz2⟩ := info_parts tok_info
  have hO0 : (w.alloc (.cells #[.string s, .int .i64 0, .slice none 0 0] 80)).ownsRow (w.heap.size + 1) 53 3 (.slice none 0 0) 0 [] := World.ownsRow_nil _ _ _ _
  have HI0 : Hid (TkI w s [] 0 (.slice none 0 0) (w.alloc (.cells #[.string s, .int .i64 0, .slice none 0 0] 80))) := ⟨unhide HX0, unhide HKA, hO0⟩
  clear hO0 hL
  go_enter Tryz.func11, Tryz.ntmps11
  go_wp2_with fail
  refine (unhide HSk _ _ _ (unhide HX0) (Nat.zero_le _)).mono ?_
  rintro e w1 ⟨rfl, hx1, hf1⟩
  have HI1 := hide ((unhide HI0).fr hf1 hx1)
  have h0s := skipAt_is (Nat.zero_le s.size)
  have HS1 := hide h0s.2.1
  clear hx1 hf1 h0s
  go_wp2
  go_loopg [6, 7, 8, 9] (s.size - skipAt s 0) (fun k (_ : Value) (_ : Value) (_ : Value) (_ : Value) wr => ∃ a l v, TkI w s l a v wr ∧ a ≤ s.size ∧ skipAt s a = a ∧ k = s.size - a ∧ l.length ≤ a ∧ toksAt s 0 = consE l (toksAt s a))
  case atStart => exact ⟨skipAt s 0, [], _, unhide HI1, unhide HS1, skip_skip (Nat.zero_le _), rfl, Nat.zero_le _, by rw [consE_nil, toks_at (Nat.zero_le _)]⟩
  case round =>
    obtain ⟨a, l, v, hI, hle, hsk, hk, hll, htk⟩ := hrel
    obtain ⟨h0, h1, h2, h3⟩ := hI.1.cells
    have h4 : wr.cell? ⟨w.heap.size, 2, none⟩ = some v := Blk.cell hI.1 2
    have HI := hide hI
    have HK := hide hk
    have HSP := hide hsk
    have HTK := hide htk
    clear hI hk htk hsk
    by_cases hlt : a < s.size
    · have hltI : (a : Int) < (s.size : Int) := by omega
      go_wp2_with fail
      refine (unhide HTo _ _ _ (unhide HI).1 hlt (unhide HI).2.1).mono ?_
      rintro e w2 ⟨kd, x, b, a2, rfl, hx2, hf2, hr⟩
      have HI2 := hide ((unhide HI).fr hf2 hx2)
      have HR := hide hr
      obtain ⟨g0, g1, g2, g3⟩ := hx2.cells
      have g4 : w2.cell? ⟨w.heap.size, 2, none⟩ = some v := Blk.cell hx2 2
      have g5 : w2.frozen? ⟨w.heap.size, 2, none⟩ = false := Blk.frozen hx2 2
      clear h0 h1 h2 h3 h4 hx2 hf2 hr
      cases b
      · go_wp2
        (try simp only [Exit.inBlock, Exit.then]); refine bodyPost_ret (results_tmp3 rfl _ _ _) rfl ?_
        refine gives_err ?_ (unhide HI2).2.1
        rw [unhide HT, unhide HTK, toks_none hlt (unhide HSP) (unhide HR)]; rfl
      · have hend := tokAt_end hlt (unhide HR)
        have HTK2 := hide (show toksAt s 0 = consE (l ++ [(kd, x, a)]) (toksAt s a2) by rw [unhide HTK, toks_some hlt (unhide HSP) (unhide HR), consE_snoc])
        have HRD := hide (one_tok w2 (kd, x, a))
        have HOWN := hide (own_kept (w' := w2.alloc (.cells #[.int .i64 kd, .string x, .int .i64 (a : Nat)] 53)) (unhide HI2).2.2 fun b hb => Below.heap_alloc w2 _ b (own_lt (unhide HI2).2.2 b hb).2)
        have HSZ := hide (show w.heap.size + 1 ≤ (w2.alloc (.cells #[.int .i64 kd, .string x, .int .i64 (a : Nat)] 53)).heap.size by rw [World.size_alloc]; have := (unhide HI2).2.1.size; omega)
        have HLE := hide hll
        have HPU := hide (fun (w3 : World) (v' : Value) (ho : w3.ownsRow (w.heap.size + 1) 53 3 v' (l.length + 1) (tokL l ++ tokC (kd, x, a))) (hg : (w2.alloc (.cells #[.int .i64 kd, .string x, .int .i64 (a : Nat)] 53)).grownBy w3 v.ownBlock) => (show TkI w s (l ++ [(kd, x, a)]) a2 v' (w3.setCell ⟨w.heap.size, 2, none⟩ v') ∧ LX w3 w.heap.size s a2 v from
          have h := (unhide HI2).grown _ hg
          ⟨TkI.push h.1 h.2 ho, h.1⟩))
        have HLN := hide (show (l ++ [(kd, x, a)]).length = l.length + 1 by simp)
        clear HR HI2
        generalize hL : l.length = n at *
        generalize hC : tokL l = cs at *
        generalize hV : l ++ [(kd, x, a)] = l2 at *
        clear hL hC hV
        go_wp2_with (at_builtin; go_loud (refine wpList_append_any _ rfl (.tmp 38) (.tmp 43) _ rfl (w.heap.size + 1) 53 i0 _ 3 32 Tryz.underlying48 hi0 hz0 hz1 hz2 rfl (by omega) _ n _ rfl (unhide HOWN) _ _ 1 1 _ rfl (unhide HRD) (tokC_one _) (by simp only [maxLen]; omega) (by omega) (unhide HSZ) ?_; intro v' w3 hown3 hg3 hat3; have hp := unhide HPU w3 v' hown3 hg3; obtain ⟨A', c', rfl, _⟩ := own_form2 hown3; have HI3 := hide hp.1; obtain ⟨q0, q1, q2, q3⟩ := hp.2.cells; have q4 : w3.cell? ⟨w.heap.size, 2, none⟩ = some v := Blk.cell hp.2 2; have q5 : w3.frozen? ⟨w.heap.size, 2, none⟩ = false := Blk.frozen hp.2 2; clear hown3 hg3 hat3 hp g0 g1 g2 g3 g4 g5))
        refine (unhide HSk _ _ _ (unhide HI3).1 hend.2).mono ?_
        rintro e w4 ⟨rfl, hx4, hf4⟩
        have HI4 := hide ((unhide HI3).fr hf4 hx4)
        clear hx4 hf4 q0 q1 q2 q3 q4 q5
        have hsa := skipAt_is hend.2
        go_wp2
        go_roundg (s.size - skipAt s a2)
        case measure => have := unhide HK; omega
        case rel => exact ⟨skipAt s a2, l2, _, unhide HI4, hsa.2.1, skip_skip hend.2, rfl, by rw [unhide HLN]; have := unhide HLE; omega, by rw [unhide HTK2, toks_at hend.2]⟩
    · have hltI : ¬ (a : Int) < (s.size : Int) := by omega
      have hea : a = s.size := by omega
      have HRD := hide (one_tok wr (0, ⟨#[]⟩, s.size))
      have HOWN := hide (own_kept (w' := wr.alloc (.cells #[.int .i64 0, .string ⟨#[]⟩, .int .i64 (s.size : Nat)] 53)) (unhide HI).2.2 fun b hb => Below.heap_alloc wr _ b (own_lt (unhide HI).2.2 b hb).2)
      have HSZ := hide (show w.heap.size + 1 ≤ (wr.alloc (.cells #[.int .i64 0, .string ⟨#[]⟩, .int .i64 (s.size : Nat)] 53)).heap.size by rw [World.size_alloc]; have := lt_of_blk (unhide HI).1; omega)
      have HFin := hide (fun (w3 : World) (v' : Value) (ho : w3.ownsRow (w.heap.size + 1) 53 3 v' (l.length + 1) (tokL l ++ tokC (0, ⟨#[]⟩, s.size))) (hg : (wr.alloc (.cells #[.int .i64 0, .string ⟨#[]⟩, .int .i64 (s.size : Nat)] 53)).grownBy w3 v.ownBlock) => gives_toks (s := s) (l := l ++ [(0, ⟨#[]⟩, s.size)]) (by rw [unhide HT, unhide HTK, toks_end (Nat.le_of_eq hea) (unhide HSP) (by omega)]; rfl) (by simp) (by rw [tokL_snoc]) (Nat.le_succ _) ho ((unhide HI).grown _ hg).2)
      generalize hL : l.length = n at *
      generalize hC : tokL l = cs at *
      clear hL hC HI
      go_wp2_with (at_builtin; go_loud (refine wpList_append_any _ rfl (.tmp 47) (.tmp 51) _ rfl (w.heap.size + 1) 53 i0 _ 3 32 Tryz.underlying48 hi0 hz0 hz1 hz2 rfl (by omega) _ n _ rfl (unhide HOWN) _ _ 1 1 _ rfl (unhide HRD) (tokC_one _) (by simp only [maxLen]; omega) (by omega) (unhide HSZ) ?_; intro v' w3 hown3 hg3 hat3; have HF := hide (unhide HFin w3 v' hown3 hg3); clear hown3 hg3 hat3))
      (try simp only [Exit.inBlock, Exit.then]); refine bodyPost_ret (results_tmp3 rfl _ _ _) rfl ?_
      exact unhide HF
end Go.Proofs.YtckcbgijddglpaaGreatDoor
