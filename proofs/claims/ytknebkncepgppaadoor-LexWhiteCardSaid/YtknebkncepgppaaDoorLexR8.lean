/- The reference: the tokens of a text. -/
import Derived.Test.YtknebkncepgppaaDoorLexR7
namespace Go.Proofs.YtknebkncepgppaaDoor
open Go.ChangeShapes Go.WideShapes Go.ChangeAt Go.RowKit Go.PlainAid
set_option linter.unusedVariables false
set_option linter.unusedSimpArgs false

/-- The reference's tokens so far. -/
def RtI (w : World) (l : List Tok) (v : Value) (wr : World) : Prop := Keeps w wr ∧ wr.ownsRow w.heap.size 29 3 v l.length (tokL l)
theorem RtI.keeps {w wr w2 : World} {l : List Tok} {v : Value} (h : RtI w l v wr) (hk : Keeps wr w2) : RtI w l v w2 :=
  ⟨h.1.trans hk, own_kept h.2 fun b hb => hk.block b (own_lt h.2 b hb).2⟩
theorem RtI.push {w wr w2 : World} {l : List Tok} {t : Tok} {v v' : Value} (h : RtI w l v wr) (hg : wr.grownBy w2 v.ownBlock) (ho : w2.ownsRow w.heap.size 29 3 v' (l.length + 1) (tokL l ++ tokC t)) : RtI w (l ++ [t]) v' w2 := by
  refine ⟨h.1.grown hg fun k hk => (own_lt h.2 _ hk).1, ?_⟩
  rw [tokL_snoc, List.length_append]
  exact ho

set_option maxRecDepth 100000 in
set_option maxHeartbeats 8000000 in
theorem refTokens_any {w : World} (hL : LexW w) (s : ByteArray) (hs : s.size ≤ 100000000) :
    Calls Tryd.prog 11 #[.string s] w (GivesToks (toks s) w) := by
  by_cases hbig : 8000 < s.size
  · have hbI : (8000 : Int) < (s.size : Int) := by omega
    have HT := hide (show toks s = .error (0, 5) by rw [toks, if_pos hbig])
    go_enter Tryd.func11, Tryd.ntmps11
    go_wp2
    (try simp only [Exit.inBlock, Exit.then]); refine bodyPost_ret (results_tmp3 rfl _ _ _) rfl ?_
    exact gives_err (unhide HT) (Keeps.refl _)
  have hbI : ¬ (8000 : Int) < (s.size : Int) := by omega
  have hsI : s.size ≤ 8000 := by omega
  have HT := hide (show toks s = toksE (toksAt s 0) by rw [toks, if_neg hbig])
  clear hbig
  obtain ⟨i0, hi0, hz0, hz1, hz2⟩ := info_parts tok_info
  have HI0 : Hid (RtI w [] (.slice none 0 0) w) := ⟨Keeps.refl w, World.ownsRow_nil _ _ _ _⟩
  have HWh := hide (fun (wr : World) (a : Nat) (ha : a ≤ s.size) => refWhite_any s a wr ha (by omega))
  have HOn := hide (fun (wr : World) (a : Nat) (ha : a < s.size) (hk : Keeps w wr) => refOne_any (hL.keeps hk) s a ha hs)
  clear hL
  go_enter Tryd.func11, Tryd.ntmps11
  go_wp2
  go_loopg [5, 6, 7, 8] (s.size + 1) (fun k lw iv (_ : Value) (_ : Value) wr => ∃ (a : Nat) (l : List Tok) (lv : Value), lv = lw ∧ iv = .int .i64 (a : Nat) ∧ a ≤ s.size ∧ k = s.size + 1 - a ∧ l.length ≤ a ∧ toksAt s 0 = consE l (toksAt s a) ∧ RtI w l lv wr)
  case atStart => exact ⟨0, [], _, rfl, rfl, Nat.zero_le _, rfl, Nat.le_refl _, by rw [consE_nil], unhide HI0⟩
  case round =>
    obtain ⟨a, l, lv, rfl, rfl, hle, hk, hll, htk, hI⟩ := hrel
    have HI := hide hI
    have HK := hide hk
    have HTK := hide htk
    clear hI hk htk
    go_wp2_with fail
    refine (unhide HWh _ a hle).mono ?_
    rintro e w1 ⟨rfl, rfl⟩
    have hsk := skipAt_is hle
    have hss := skip_skip hle
    have HB := hide (show toksAt s 0 = consE l (toksAt s (skipAt s a)) by rw [unhide HTK, toks_at hle])
    have HSS := hide hss
    have hbl := hsk.2.1
    have hbg := hsk.1
    clear hss hsk HTK
    generalize skipAt s a = b at *
    by_cases hend : s.size ≤ b
    · have hendI : (s.size : Int) ≤ (b : Int) := by omega
      have hbe : b = s.size := by omega
      have HRD := hide (one_tok w1 (0, ⟨#[]⟩, s.size))
      have hIA := (unhide HI).keeps ((Keeps.refl w1).alloc (.cells #[.int .i64 0, .string ⟨#[]⟩, .int .i64 (s.size : Nat)] 29))
      have HOWN := hide hIA.2
      have HSZ := hide hIA.1.size
      have HFin := hide (fun (w3 : World) (v' : Value) (ho : w3.ownsRow w.heap.size 29 3 v' (l.length + 1) (tokL l ++ tokC (0, ⟨#[]⟩, s.size))) (hg : (w1.alloc (.cells #[.int .i64 0, .string ⟨#[]⟩, .int .i64 (s.size : Nat)] 29)).grownBy w3 lv.ownBlock) =>
        (show GivesToks (toks s) w (.returned (.tuple #[v', .int .i64 0, .int .i64 0])) w3 from
          have h := hIA.push (t := (0, ⟨#[]⟩, s.size)) hg ho
          gives_toks (s := s) (l := l ++ [(0, ⟨#[]⟩, s.size)]) (by rw [unhide HT, unhide HB, toks_end hbl (unhide HSS) hend]; rfl) rfl rfl (Nat.le_refl _) h.2 h.1))
      clear hIA HI
      generalize hL : l.length = n at *
      generalize hC : tokL l = cs at *
      clear hL hC
      go_wp2_with (at_builtin; go_loud (refine wpList_append_any _ rfl (.tmp 19) (.tmp 23) _ rfl w.heap.size 29 i0 _ 3 32 Tryd.underlying23 hi0 hz0 hz1 hz2 rfl (by omega) _ n _ rfl (unhide HOWN) _ _ 1 1 _ rfl (unhide HRD) (tokC_one _) (by simp only [maxLen]; omega) (by omega) (unhide HSZ) ?_; intro v' w3 hown3 hg3 hat3; have HF := hide (unhide HFin w3 v' hown3 hg3); clear hown3 hg3 hat3))
      (try simp only [Exit.inBlock, Exit.then]); refine bodyPost_ret (results_tmp3 rfl _ _ _) rfl ?_
      exact unhide HF
    · have hendI : ¬ (s.size : Int) ≤ (b : Int) := by omega
      have hlt : b < s.size := by omega
      go_wp2_with fail
      refine (unhide HOn _ b hlt (unhide HI).1).mono ?_
      rintro e w2 ⟨k, x, rfl, hk2, hkx⟩
      have HI2 := hide ((unhide HI).keeps hk2)
      have HKX := hide hkx
      clear hk2 hkx HI
      cases hta : tokAt s b with
      | none =>
        rw [show oneEnd none = -1 from rfl]
        have HTB := hide (toks_none hlt (unhide HSS) hta)
        have hIA := (unhide HI2).keeps ((Keeps.refl w2).alloc (.cells #[.int .i64 k, .string x, .int .i64 (b : Nat)] 29))
        have HIA := hide hIA
        clear hIA hta
        go_wp2
        (try simp only [Exit.inBlock, Exit.then]); refine bodyPost_ret (results_tmp3 rfl _ _ _) rfl ?_
        refine gives_err ?_ (unhide HIA).1
        rw [unhide HT, unhide HB, unhide HTB]; rfl
      | some t =>
        obtain ⟨k', x', e'⟩ := t
        obtain ⟨rfl, rfl⟩ := unhide HKX _ _ _ hta
        have hend := tokAt_end hlt hta
        have HTB := hide (toks_some hlt (unhide HSS) hta)
        clear hta HKX
        rw [show oneEnd (some (k, x, e')) = (e' : Int) from rfl]
        have hen : ((e' : Int) < 0) = False := by simp
        have hIA := ((unhide HI2).keeps ((Keeps.refl w2).alloc (.cells #[.int .i64 k, .string x, .int .i64 (b : Nat)] 29))).keeps ((Keeps.refl _).alloc (.cells #[.int .i64 k, .string x, .int .i64 (b : Nat)] 29))
        have hR := one_tok (w2.alloc (.cells #[.int .i64 k, .string x, .int .i64 (b : Nat)] 29)) (k, x, b)
        rw [World.size_alloc] at hR
        have HRD := hide hR
        have HOWN := hide hIA.2
        have HSZ := hide hIA.1.size
        have HLE := hide hll
        have HPU := hide (fun (w3 : World) (v' : Value) (ho : w3.ownsRow w.heap.size 29 3 v' (l.length + 1) (tokL l ++ tokC (k, x, b))) hg => hIA.push (t := (k, x, b)) (w2 := w3) (v' := v') hg ho)
        have HTN := hide (show toksAt s 0 = consE (l ++ [(k, x, b)]) (toksAt s e') by rw [unhide HB, unhide HTB, consE_snoc])
        have HLN := hide (show (l ++ [(k, x, b)]).length = l.length + 1 by simp)
        clear hIA hR HI2 HB HTB
        generalize hL : l.length = n at *
        generalize hC : tokL l = cs at *
        generalize hV : l ++ [(k, x, b)] = l2 at *
        clear hL hC hV
        go_wp2_with (at_builtin; go_loud (refine wpList_append_any _ rfl (.tmp 34) (.tmp 36) _ rfl w.heap.size 29 i0 _ 3 32 Tryd.underlying23 hi0 hz0 hz1 hz2 rfl (by omega) _ n _ rfl (unhide HOWN) _ _ 1 1 _ rfl (unhide HRD) (tokC_one _) (by simp only [maxLen]; omega) (by omega) (unhide HSZ) ?_; intro v' w3 hown3 hg3 hat3; have HI3 := hide (unhide HPU w3 v' hown3 hg3); clear hown3 hg3 hat3))
        go_roundg (s.size + 1 - e')
        case measure => have := unhide HK; omega
        case rel => exact ⟨e', l2, _, rfl, rfl, hend.2, rfl, by rw [unhide HLN]; have := unhide HLE; omega, unhide HTN, unhide HI3⟩
end Go.Proofs.YtknebkncepgppaaDoor
