/- The reference: one token. -/
import Derived.Test.YtknebkncepgppaaDoorLexR3
import Derived.Test.YtknebkncepgppaaDoorLexR4
import Derived.Test.YtknebkncepgppaaDoorLexR5
import Derived.Test.YtknebkncepgppaaDoorLexR6
namespace Go.Proofs.YtknebkncepgppaaDoor
open Go.ChangeShapes Go.WideShapes Go.ChangeAt Go.RowKit Go.PlainAid
set_option linter.unusedVariables false
set_option linter.unusedSimpArgs false

theorem tok_load {w : World} {g : Nat} {t : TypeId} {k a : Int} {x : ByteArray} (h : Blk w g t #[.int .i64 k, .string x, .int .i64 a]) : (loadVar 29 ⟨g, 0, none⟩).run Tryd.prog w = .ok (.agg #[.int .i64 k, .string x, .int .i64 a]) w := by
  exact run_loadVar_row w g t 29 _ (0, 0) _ h Tryd.underlying29 rfl (by kernel_rfl)
theorem results_tok {fn : Func} {c t : Tmp} {tmps : Array Value} {w : World} {g : Nat} {ty : TypeId} {k a : Int} {x : ByteArray} (h : fn.results = #[.cell c 29, .tmp t]) (hp : tmps.getD c undef = .pointer (some ⟨g, 0, none⟩)) (hb : Blk w g ty #[.int .i64 k, .string x, .int .i64 a]) :
    (results fn tmps).run Tryd.prog w = .ok (.tuple #[.agg #[.int .i64 k, .string x, .int .i64 a], tmps.getD t undef]) w := by
  have hp2 : tmps[c]?.getD undef = .pointer (some ⟨g, 0, none⟩) := by simpa using hp
  simp only [results, h]
  simp [hp2, asAddr, tok_load hb]
def OneI (w : World) (i : Nat) (wr : World) (k : Int) (x : ByteArray) : Prop :=
  Keeps w wr ∧ Blk wr w.heap.size 29 #[.int .i64 0, .string ⟨#[]⟩, .int .i64 0] ∧ Blk wr (w.heap.size + 1) 29 #[.int .i64 k, .string x, .int .i64 (i : Nat)]
theorem OneI.keeps {w wr w2 : World} {i : Nat} {k : Int} {x : ByteArray} (h : OneI w i wr k x) (hk : Keeps wr w2) : OneI w i w2 k x := ⟨h.1.trans hk, h.2.1.keeps hk, h.2.2.keeps hk⟩
theorem OneI.drewN {w wr : World} {i : Nat} {k : Int} {x : ByteArray} (h : OneI w i wr k x) (m : Nat) : OneI w i (wr.drewN m) k x := ⟨h.1.drewN m, h.2.1.drewN m, h.2.2.drewN m⟩
theorem OneI.kind {w wr : World} {i : Nat} {k : Int} {x : ByteArray} (h : OneI w i wr k x) (k' : Int) : OneI w i (wr.setCell ⟨w.heap.size + 1, 0, none⟩ (.int .i64 k')) k' x :=
  ⟨h.1.setCell (p := ⟨w.heap.size + 1, 0, none⟩) (by show w.heap.size ≤ w.heap.size + 1; omega) _, h.2.1.far (p := ⟨w.heap.size + 1, 0, none⟩) (by show w.heap.size ≠ w.heap.size + 1; omega) _, by simpa using h.2.2.set_ 0 (.int .i64 k')⟩
theorem OneI.text {w wr : World} {i : Nat} {k : Int} {x : ByteArray} (h : OneI w i wr k x) (x' : ByteArray) : OneI w i (wr.setCell ⟨w.heap.size + 1, 1, none⟩ (.string x')) k x' :=
  ⟨h.1.setCell (p := ⟨w.heap.size + 1, 1, none⟩) (by show w.heap.size ≤ w.heap.size + 1; omega) _, h.2.1.far (p := ⟨w.heap.size + 1, 1, none⟩) (by show w.heap.size ≠ w.heap.size + 1; omega) _, by simpa using h.2.2.set_ 1 (.string x')⟩
theorem OneI.facts {w wr : World} {i : Nat} {k : Int} {x : ByteArray} (h : OneI w i wr k x) :
    wr.cell? ⟨w.heap.size + 1, 0, none⟩ = some (.int .i64 k) ∧ wr.cell? ⟨w.heap.size + 1, 1, none⟩ = some (.string x) ∧ wr.cell? ⟨w.heap.size + 1, 2, none⟩ = some (.int .i64 (i : Nat)) ∧
    (∀ j, wr.frozen? ⟨w.heap.size + 1, j, none⟩ = false) ∧ (∀ j, wr.frozen? ⟨w.heap.size, j, none⟩ = false) ∧ wr.cell? ⟨w.heap.size, 0, none⟩ = some (.int .i64 0) ∧ wr.cell? ⟨w.heap.size, 1, none⟩ = some (.string ⟨#[]⟩) ∧ wr.cell? ⟨w.heap.size, 2, none⟩ = some (.int .i64 0) :=
  ⟨h.2.2.cell 0, h.2.2.cell 1, h.2.2.cell 2, h.2.2.frozen, h.2.1.frozen, h.2.1.cell 0, h.2.1.cell 1, h.2.1.cell 2⟩
theorem OneI.out {w wr : World} {i : Nat} {k : Int} {x : ByteArray} (h : OneI w i wr k x) :
    Blk (((wr.setCell ⟨w.heap.size, 0, none⟩ (.int .i64 k)).setCell ⟨w.heap.size, 1, none⟩ (.string x)).setCell ⟨w.heap.size, 2, none⟩ (.int .i64 (i : Nat))) w.heap.size 29 #[.int .i64 k, .string x, .int .i64 (i : Nat)] ∧
    Keeps w (((wr.setCell ⟨w.heap.size, 0, none⟩ (.int .i64 k)).setCell ⟨w.heap.size, 1, none⟩ (.string x)).setCell ⟨w.heap.size, 2, none⟩ (.int .i64 (i : Nat))) :=
  ⟨by simpa using ((h.2.1.set_ 0 (.int .i64 k)).set_ 1 (.string x)).set_ 2 (.int .i64 (i : Nat)),
   ((h.1.setCell (p := ⟨w.heap.size, 0, none⟩) (Nat.le_refl _) _).setCell (p := ⟨w.heap.size, 1, none⟩) (Nat.le_refl _) _).setCell (p := ⟨w.heap.size, 2, none⟩) (Nat.le_refl _) _⟩
def oneEnd (r : Option Tok) : Int := match r with | none => -1 | some t => (t.2.2 : Nat)
theorem sign_dash {s : ByteArray} {i : Nat} (hi : i < s.size) (h : bt s i = 45) : signAt s i = none := by
  have : signsL.find? (starts s i) = none := by
    rw [List.find?_eq_none]
    intro x hx hst
    have hne : ∀ y ∈ signsL, (∀ k, k < y.size → bt y k ≠ 0) ∧ 0 < y.size ∧ bt y 0 ≠ 45 := by decide
    obtain ⟨h1, h2, h3⟩ := hne x hx
    have := (starts_iff h1).1 hst 0 h2
    rw [Nat.add_zero, h] at this
    exact h3 this.symm
  rw [signAt, this]
theorem sign_facts {s : ByteArray} {i : Nat} (hi : i < s.size) {k : Int} {x : ByteArray} {e : Nat} (h : signAt s i = some (k, x, e)) : i < e ∧ e ≤ s.size ∧ k = 6 ∧ x = sub s i e := by
  unfold signAt at h
  cases hy : signsL.find? (starts s i) with
  | none => rw [hy] at h; cases h
  | some y =>
    rw [hy] at h
    simp only [Option.some.injEq, Prod.mk.injEq] at h
    obtain ⟨hk, hx, he⟩ := h
    have hst := List.find?_some hy
    have hne : ∀ y ∈ signsL, (∀ k, k < y.size → bt y k ≠ 0) ∧ 0 < y.size := by decide
    obtain ⟨h1, h2⟩ := hne y (List.mem_of_find?_eq_some hy)
    have h3 := (starts_iff h1).1 hst
    have hle : i + y.size ≤ s.size := by
      have := lt_of_bt (s := s) (k := i + (y.size - 1)) (by rw [h3 _ (by omega)]; exact h1 _ (by omega))
      omega
    rw [← hx, ← he]
    refine ⟨by omega, hle, hk.symm, ba_of_bt (by rw [sub_size _ _ _ hle]; omega) fun k hk => ?_⟩
    rw [bt_sub _ _ _ _ hle (by omega), h3 k hk]
theorem quo_one (r : Option Tok) : quoEnd r = oneEnd r := by cases r <;> rfl
def OneP (w : World) (i : Nat) (r : Option Tok) (e : Ending) (w' : World) : Prop :=
  ∃ k x, e = .returned (.tuple #[.agg #[.int .i64 k, .string x, .int .i64 (i : Nat)], .int .i64 (oneEnd r)]) ∧ Keeps w w' ∧ ∀ k' x' e', r = some (k', x', e') → k = k' ∧ x = x'
theorem kind_of {s : ByteArray} {i e : Nat} {k : Int} (hi : i < e) (he : e ≤ s.size) (hk : bt s i = k) : kindOf (sub s i e) = if isWord (sub s i e) = true then 5 else if k ≤ 90 then 1 else 2 := by
  rw [kindOf, bt_sub s i e 0 he (by omega), Nat.add_zero, hk]

set_option maxRecDepth 100000 in
set_option maxHeartbeats 8000000 in
theorem refOne_any {w : World} (hL : LexW w) (s : ByteArray) (i : Nat) (hi : i < s.size) (hs : s.size ≤ 100000000) :
    Calls Tryd.prog 22 #[.string s, .int .i64 (i : Nat)] w (OneP w i (tokAt s i)) := by
  have hc0 := bt_nonneg s i
  have hc1 := bt_le s i
  have hb := get_bt s i hi
  have HI0 : Hid (OneI w i ((w.alloc (.cells #[.int .i64 0, .string ⟨#[]⟩, .int .i64 0] 29)).alloc (.cells #[.int .i64 0, .string ⟨#[]⟩, .int .i64 (i : Nat)] 29)) 0 ⟨#[]⟩) :=
    ⟨((Keeps.refl w).alloc _).alloc _, (Blk.new _ _ _).alloc _, by have := Blk.new (w.alloc (.cells #[.int .i64 0, .string ⟨#[]⟩, .int .i64 0] 29)) 29 #[.int .i64 0, .string ⟨#[]⟩, .int .i64 (i : Nat)]; rwa [World.size_alloc] at this⟩
  by_cases q1 : isLet (bt s i) = true
  · have HLt := hide (refLetter_is (bt s i) true q1 hc0 hc1)
    have HN := hide (fun w1 => refName_any s i w1 hi q1 (by omega))
    have HT := hide (tok_let q1)
    have hlt : i < nameEnd s i := by
      have h2 : nmP s (nameEnd s i) = false := (spanAt_is (nmP_lt s) i).2
      have h1 : i ≤ nameEnd s i := spanAt_ge (nmP_lt s) i
      by_cases e : nameEnd s i = i
      · rw [e] at h2; simp [nmP, q1] at h2
      · omega
    have hle : nameEnd s i ≤ s.size := spanAt_le (nmP_lt s) (Nat.le_of_lt hi)
    have HNA := hide (show nameAt s i = if nameOk s i = true then some (kindOf (sub s i (nameEnd s i)), sub s i (nameEnd s i), nameEnd s i) else none from rfl)
    have HKO := hide (kind_of hlt hle rfl)
    have HWd := hide (fun w1 => refWord_any (s.extract i (nameEnd s i)) w1)
    clear q1 hL
    generalize nameEnd s i = e at *
    generalize nameOk s i = ok at *
    generalize bt s i = c at *
    cases ok
    · rw [show orNeg false e = -1 from rfl] at HN
      go_enter Tryd.func22, Tryd.ntmps22
      go_wp2_with fail
      obtain ⟨c0, c1, c2, f0, f1, d0, d1, d2⟩ := (unhide HI0).facts
      generalize (w.alloc (.cells #[.int .i64 0, .string ⟨#[]⟩, .int .i64 0] 29)).alloc (.cells #[.int .i64 0, .string ⟨#[]⟩, .int .i64 (i : Nat)] 29) = W0 at *
      go_wp2_with (first | (with_reducible refine (unhide HLt _).mono ?_; rintro e w1 ⟨rfl, rfl⟩) | (with_reducible refine (unhide HN _).mono ?_; rintro e w1 ⟨rfl, rfl⟩))
      obtain ⟨hB, hKK⟩ := (unhide HI0).out
      refine bodyPost_ret (results_tok rfl rfl hB) rfl ?_
      exact ⟨_, _, by rw [unhide HT, unhide HNA] <;> (try rfl), hKK, by rw [unhide HT, unhide HNA]; intro k' x' e' h; cases h⟩
    · rw [show orNeg true e = (e : Int) from rfl] at HN
      have hen : ((e : Int) < 0) = False := by simp
      have heI : (e : Int) ≤ (s.size : Int) := by omega
      have hieI : (i : Int) ≤ (e : Int) := by omega
      have HTA : Hid (tokAt s i = some (kindOf (sub s i e), s.extract i e, e)) := by rw [Hid, unhide HT, unhide HNA]; rfl
      clear HT HNA
      by_cases hcz : c ≤ 90
      · cases hwd : isWord (sub s i e)
        · have HK1 := hide (show kindOf (sub s i e) = 1 by rw [unhide HKO, hwd, if_neg (by simp), if_pos hcz])
          rw [show isWord (s.extract i e) = false from hwd] at HWd
          clear hwd HKO
          go_enter Tryd.func22, Tryd.ntmps22
          go_wp2_with fail
          obtain ⟨c0, c1, c2, f0, f1, d0, d1, d2⟩ := (unhide HI0).facts
          generalize (w.alloc (.cells #[.int .i64 0, .string ⟨#[]⟩, .int .i64 0] 29)).alloc (.cells #[.int .i64 0, .string ⟨#[]⟩, .int .i64 (i : Nat)] 29) = W0 at *
          go_wp2_with (first | (with_reducible refine (unhide HLt _).mono ?_; rintro e w1 ⟨rfl, rfl⟩) | (with_reducible refine (unhide HN _).mono ?_; rintro e w1 ⟨rfl, rfl⟩))
          go_region
          have HI1 := hide (show OneI w i (((w1.setCell ⟨w.heap.size + 1, 0, none⟩ (.int .i64 2)).setCell ⟨w.heap.size + 1, 1, none⟩ (.string (s.extract i e))).drew) 2 (s.extract i e) from (((unhide HI0).kind 2).text (s.extract i e)).drewN 1)
          obtain ⟨a0, a1, a2, a3, a4, a5, a6, a7⟩ := (unhide HI1).facts
          clear c0 c1 c2 f0 f1 d0 d1 d2
          generalize ((w1.setCell ⟨w.heap.size + 1, 0, none⟩ (.int .i64 2)).setCell ⟨w.heap.size + 1, 1, none⟩ (.string (s.extract i e))).drew = W1 at *
          go_wp2_with fail
          have HI2 := hide ((unhide HI1).kind 1)
          obtain ⟨b0, b1, b2, b3, b4, b5, b6, b7⟩ := (unhide HI2).facts
          clear a0 a1 a2 a3 a4 a5 a6 a7
          generalize W1.setCell ⟨w.heap.size + 1, 0, none⟩ (.int .i64 1) = W2 at *
          refine (unhide HWd _).mono ?_
          rintro e2 w3 ⟨rfl, hk3⟩
          have HI3 := hide ((unhide HI2).keeps hk3)
          obtain ⟨g0, g1, g2, g3, g4, g5, g6, g7⟩ := (unhide HI3).facts
          clear hk3 b0 b1 b2 b3 b4 b5 b6 b7
          go_wp2
          have HI4 := HI3
          obtain ⟨hB, hKK⟩ := (unhide HI4).out
          refine bodyPost_ret (results_tok rfl rfl hB) rfl ?_
          exact ⟨_, _, by rw [unhide HTA] <;> (try rfl), hKK, by rw [unhide HTA]; intro k' x' e' h; cases h; exact ⟨(unhide HK1).symm, rfl⟩⟩
        · have HK1 := hide (show kindOf (sub s i e) = 5 by rw [unhide HKO, hwd, if_pos rfl])
          rw [show isWord (s.extract i e) = true from hwd] at HWd
          clear hwd HKO
          go_enter Tryd.func22, Tryd.ntmps22
          go_wp2_with fail
          obtain ⟨c0, c1, c2, f0, f1, d0, d1, d2⟩ := (unhide HI0).facts
          generalize (w.alloc (.cells #[.int .i64 0, .string ⟨#[]⟩, .int .i64 0] 29)).alloc (.cells #[.int .i64 0, .string ⟨#[]⟩, .int .i64 (i : Nat)] 29) = W0 at *
          go_wp2_with (first | (with_reducible refine (unhide HLt _).mono ?_; rintro e w1 ⟨rfl, rfl⟩) | (with_reducible refine (unhide HN _).mono ?_; rintro e w1 ⟨rfl, rfl⟩))
          go_region
          have HI1 := hide (show OneI w i (((w1.setCell ⟨w.heap.size + 1, 0, none⟩ (.int .i64 2)).setCell ⟨w.heap.size + 1, 1, none⟩ (.string (s.extract i e))).drew) 2 (s.extract i e) from (((unhide HI0).kind 2).text (s.extract i e)).drewN 1)
          obtain ⟨a0, a1, a2, a3, a4, a5, a6, a7⟩ := (unhide HI1).facts
          clear c0 c1 c2 f0 f1 d0 d1 d2
          generalize ((w1.setCell ⟨w.heap.size + 1, 0, none⟩ (.int .i64 2)).setCell ⟨w.heap.size + 1, 1, none⟩ (.string (s.extract i e))).drew = W1 at *
          go_wp2_with fail
          have HI2 := hide ((unhide HI1).kind 1)
          obtain ⟨b0, b1, b2, b3, b4, b5, b6, b7⟩ := (unhide HI2).facts
          clear a0 a1 a2 a3 a4 a5 a6 a7
          generalize W1.setCell ⟨w.heap.size + 1, 0, none⟩ (.int .i64 1) = W2 at *
          refine (unhide HWd _).mono ?_
          rintro e2 w3 ⟨rfl, hk3⟩
          have HI3 := hide ((unhide HI2).keeps hk3)
          obtain ⟨g0, g1, g2, g3, g4, g5, g6, g7⟩ := (unhide HI3).facts
          clear hk3 b0 b1 b2 b3 b4 b5 b6 b7
          go_wp2
          have HI4 := hide ((unhide HI3).kind 5)
          obtain ⟨hB, hKK⟩ := (unhide HI4).out
          refine bodyPost_ret (results_tok rfl rfl hB) rfl ?_
          exact ⟨_, _, by rw [unhide HTA] <;> (try rfl), hKK, by rw [unhide HTA]; intro k' x' e' h; cases h; exact ⟨(unhide HK1).symm, rfl⟩⟩
      · cases hwd : isWord (sub s i e)
        · have HK1 := hide (show kindOf (sub s i e) = 2 by rw [unhide HKO, hwd, if_neg (by simp), if_neg hcz])
          rw [show isWord (s.extract i e) = false from hwd] at HWd
          clear hwd HKO
          go_enter Tryd.func22, Tryd.ntmps22
          go_wp2_with fail
          obtain ⟨c0, c1, c2, f0, f1, d0, d1, d2⟩ := (unhide HI0).facts
          generalize (w.alloc (.cells #[.int .i64 0, .string ⟨#[]⟩, .int .i64 0] 29)).alloc (.cells #[.int .i64 0, .string ⟨#[]⟩, .int .i64 (i : Nat)] 29) = W0 at *
          go_wp2_with (first | (with_reducible refine (unhide HLt _).mono ?_; rintro e w1 ⟨rfl, rfl⟩) | (with_reducible refine (unhide HN _).mono ?_; rintro e w1 ⟨rfl, rfl⟩))
          go_region
          have HI1 := hide (show OneI w i (((w1.setCell ⟨w.heap.size + 1, 0, none⟩ (.int .i64 2)).setCell ⟨w.heap.size + 1, 1, none⟩ (.string (s.extract i e))).drew) 2 (s.extract i e) from (((unhide HI0).kind 2).text (s.extract i e)).drewN 1)
          obtain ⟨a0, a1, a2, a3, a4, a5, a6, a7⟩ := (unhide HI1).facts
          clear c0 c1 c2 f0 f1 d0 d1 d2
          generalize ((w1.setCell ⟨w.heap.size + 1, 0, none⟩ (.int .i64 2)).setCell ⟨w.heap.size + 1, 1, none⟩ (.string (s.extract i e))).drew = W1 at *
          go_wp2_with fail
          have HI2 := HI1
          refine (unhide HWd _).mono ?_
          rintro e2 w3 ⟨rfl, hk3⟩
          have HI3 := hide ((unhide HI2).keeps hk3)
          obtain ⟨g0, g1, g2, g3, g4, g5, g6, g7⟩ := (unhide HI3).facts
          clear hk3 a0 a1 a2 a3 a4 a5 a6 a7
          go_wp2
          have HI4 := HI3
          obtain ⟨hB, hKK⟩ := (unhide HI4).out
          refine bodyPost_ret (results_tok rfl rfl hB) rfl ?_
          exact ⟨_, _, by rw [unhide HTA] <;> (try rfl), hKK, by rw [unhide HTA]; intro k' x' e' h; cases h; exact ⟨(unhide HK1).symm, rfl⟩⟩
        · have HK1 := hide (show kindOf (sub s i e) = 5 by rw [unhide HKO, hwd, if_pos rfl])
          rw [show isWord (s.extract i e) = true from hwd] at HWd
          clear hwd HKO
          go_enter Tryd.func22, Tryd.ntmps22
          go_wp2_with fail
          obtain ⟨c0, c1, c2, f0, f1, d0, d1, d2⟩ := (unhide HI0).facts
          generalize (w.alloc (.cells #[.int .i64 0, .string ⟨#[]⟩, .int .i64 0] 29)).alloc (.cells #[.int .i64 0, .string ⟨#[]⟩, .int .i64 (i : Nat)] 29) = W0 at *
          go_wp2_with (first | (with_reducible refine (unhide HLt _).mono ?_; rintro e w1 ⟨rfl, rfl⟩) | (with_reducible refine (unhide HN _).mono ?_; rintro e w1 ⟨rfl, rfl⟩))
          go_region
          have HI1 := hide (show OneI w i (((w1.setCell ⟨w.heap.size + 1, 0, none⟩ (.int .i64 2)).setCell ⟨w.heap.size + 1, 1, none⟩ (.string (s.extract i e))).drew) 2 (s.extract i e) from (((unhide HI0).kind 2).text (s.extract i e)).drewN 1)
          obtain ⟨a0, a1, a2, a3, a4, a5, a6, a7⟩ := (unhide HI1).facts
          clear c0 c1 c2 f0 f1 d0 d1 d2
          generalize ((w1.setCell ⟨w.heap.size + 1, 0, none⟩ (.int .i64 2)).setCell ⟨w.heap.size + 1, 1, none⟩ (.string (s.extract i e))).drew = W1 at *
          go_wp2_with fail
          have HI2 := HI1
          refine (unhide HWd _).mono ?_
          rintro e2 w3 ⟨rfl, hk3⟩
          have HI3 := hide ((unhide HI2).keeps hk3)
          obtain ⟨g0, g1, g2, g3, g4, g5, g6, g7⟩ := (unhide HI3).facts
          clear hk3 a0 a1 a2 a3 a4 a5 a6 a7
          go_wp2
          have HI4 := hide ((unhide HI3).kind 5)
          obtain ⟨hB, hKK⟩ := (unhide HI4).out
          refine bodyPost_ret (results_tok rfl rfl hB) rfl ?_
          exact ⟨_, _, by rw [unhide HTA] <;> (try rfl), hKK, by rw [unhide HTA]; intro k' x' e' h; cases h; exact ⟨(unhide HK1).symm, rfl⟩⟩
  · have q1' : isLet (bt s i) = false := by simpa using q1
    have HLt := hide (refLetter_is (bt s i) false q1' hc0 hc1)
    clear q1
    by_cases q2 : dgP s (numFrom s i) = true
    · have hcd : isDig (bt s i) = true ∨ (isDig (bt s i) = false ∧ bt s i = 45 ∧ isDig (bt s (i + 1)) = true) := by
        by_cases h45 : bt s i = 45
        · rw [numFrom, if_pos h45] at q2
          exact .inr ⟨by rw [h45]; rfl, h45, q2⟩
        · rw [numFrom, if_neg h45] at q2
          exact .inl q2
      have HN := hide (fun w1 => refNumber_any s i w1 hi q2 (by omega))
      have HT := hide (tok_num q1' (hcd.elim .inl fun h => .inr h.2.1))
      have hlt : i < numEnd s i := by
        have h1 := numFrom_le s hi
        have h2 : dgP s (numEnd s i) = false := (spanAt_is (dgP_lt s) _).2
        have h3 := (numEnd_is s hi).1.1
        by_cases e : numFrom s i = numEnd s i
        · rw [← e, q2] at h2; cases h2
        · omega
      have hle := (numEnd_is s hi).2
      have HNA := hide (show numAt s i = if numOk s i = true then some (3, sub s i (numEnd s i), numEnd s i) else none from rfl)
      have HDg := hide (fun b hb => refDigit_is (bt s i) b hb hc0 hc1)
      have HA := hide (refAt1_is s i (by omega) (by omega) _ rfl)
      have HDg1 := hide (fun b hb => refDigit_is (bt s (i + 1)) b hb (bt_nonneg _ _) (bt_le _ _))
      clear q1' q2 hL
      generalize numEnd s i = e at *
      generalize numOk s i = ok at *
      generalize bt s (i + 1) = c1 at *
      generalize bt s i = c at *
      have hen : ((e : Int) < 0) = False := by simp
      have heI : (e : Int) ≤ (s.size : Int) := by omega
      have hieI : (i : Int) ≤ (e : Int) := by omega
      rcases hcd with h1 | ⟨h1, h2, h3⟩
      · have HD := hide (unhide HDg true h1)
        clear HDg HDg1 h1
        cases ok
        · rw [show orNeg false e = -1 from rfl] at HN
          go_enter Tryd.func22, Tryd.ntmps22
          go_wp2_with fail
          obtain ⟨c0, c1, c2, f0, f1, d0, d1, d2⟩ := (unhide HI0).facts
          generalize (w.alloc (.cells #[.int .i64 0, .string ⟨#[]⟩, .int .i64 0] 29)).alloc (.cells #[.int .i64 0, .string ⟨#[]⟩, .int .i64 (i : Nat)] 29) = W0 at *
          go_wp2_with (first | (with_reducible refine (unhide HLt _).mono ?_; rintro e w1 ⟨rfl, rfl⟩) | (with_reducible refine (unhide HD _).mono ?_; rintro e w1 ⟨rfl, rfl⟩) | (with_reducible refine (unhide HN _).mono ?_; rintro e w1 ⟨rfl, rfl⟩))
          obtain ⟨hB, hKK⟩ := (unhide HI0).out
          refine bodyPost_ret (results_tok rfl rfl hB) rfl ?_
          exact ⟨_, _, by rw [unhide HT, unhide HNA] <;> (try rfl), hKK, by rw [unhide HT, unhide HNA]; intro k' x' e' h; cases h⟩
        · rw [show orNeg true e = (e : Int) from rfl] at HN
          have HTA : Hid (tokAt s i = some (3, s.extract i e, e)) := by rw [Hid, unhide HT, unhide HNA]; rfl
          clear HT HNA
          go_enter Tryd.func22, Tryd.ntmps22
          go_wp2_with fail
          obtain ⟨c0, c1, c2, f0, f1, d0, d1, d2⟩ := (unhide HI0).facts
          generalize (w.alloc (.cells #[.int .i64 0, .string ⟨#[]⟩, .int .i64 0] 29)).alloc (.cells #[.int .i64 0, .string ⟨#[]⟩, .int .i64 (i : Nat)] 29) = W0 at *
          go_wp2_with (first | (with_reducible refine (unhide HLt _).mono ?_; rintro e w1 ⟨rfl, rfl⟩) | (with_reducible refine (unhide HD _).mono ?_; rintro e w1 ⟨rfl, rfl⟩) | (with_reducible refine (unhide HN _).mono ?_; rintro e w1 ⟨rfl, rfl⟩))
          go_region
          have HI1 := hide (show OneI w i (((w1.setCell ⟨w.heap.size + 1, 0, none⟩ (.int .i64 3)).setCell ⟨w.heap.size + 1, 1, none⟩ (.string (s.extract i e))).drew) 3 (s.extract i e) from (((unhide HI0).kind 3).text (s.extract i e)).drewN 1)
          obtain ⟨a0, a1, a2, a3, a4, a5, a6, a7⟩ := (unhide HI1).facts
          clear c0 c1 c2 f0 f1 d0 d1 d2
          generalize ((w1.setCell ⟨w.heap.size + 1, 0, none⟩ (.int .i64 3)).setCell ⟨w.heap.size + 1, 1, none⟩ (.string (s.extract i e))).drew = W1 at *
          go_wp2
          obtain ⟨hB, hKK⟩ := (unhide HI1).out
          refine bodyPost_ret (results_tok rfl rfl hB) rfl ?_
          exact ⟨_, _, by rw [unhide HTA] <;> (try rfl), hKK, by rw [unhide HTA]; intro k' x' e' h; cases h; exact ⟨rfl, rfl⟩⟩
      · have HD := hide (unhide HDg false h1)
        have HD1 := hide (unhide HDg1 true h3)
        clear HDg HDg1 h1 h3
        subst h2
        cases ok
        · rw [show orNeg false e = -1 from rfl] at HN
          go_enter Tryd.func22, Tryd.ntmps22
          go_wp2_with fail
          obtain ⟨c0, c1, c2, f0, f1, d0, d1, d2⟩ := (unhide HI0).facts
          generalize (w.alloc (.cells #[.int .i64 0, .string ⟨#[]⟩, .int .i64 0] 29)).alloc (.cells #[.int .i64 0, .string ⟨#[]⟩, .int .i64 (i : Nat)] 29) = W0 at *
          go_wp2_with (first | (with_reducible refine (unhide HLt _).mono ?_; rintro e w1 ⟨rfl, rfl⟩) | (with_reducible refine (unhide HD _).mono ?_; rintro e w1 ⟨rfl, rfl⟩) | (with_reducible refine (unhide HA _).mono ?_; rintro e w1 ⟨rfl, rfl⟩) | (with_reducible refine (unhide HD1 _).mono ?_; rintro e w1 ⟨rfl, rfl⟩) | (with_reducible refine (unhide HN _).mono ?_; rintro e w1 ⟨rfl, rfl⟩))
          obtain ⟨hB, hKK⟩ := (unhide HI0).out
          refine bodyPost_ret (results_tok rfl rfl hB) rfl ?_
          exact ⟨_, _, by rw [unhide HT, unhide HNA] <;> (try rfl), hKK, by rw [unhide HT, unhide HNA]; intro k' x' e' h; cases h⟩
        · rw [show orNeg true e = (e : Int) from rfl] at HN
          have HTA : Hid (tokAt s i = some (3, s.extract i e, e)) := by rw [Hid, unhide HT, unhide HNA]; rfl
          clear HT HNA
          go_enter Tryd.func22, Tryd.ntmps22
          go_wp2_with fail
          obtain ⟨c0, c1, c2, f0, f1, d0, d1, d2⟩ := (unhide HI0).facts
          generalize (w.alloc (.cells #[.int .i64 0, .string ⟨#[]⟩, .int .i64 0] 29)).alloc (.cells #[.int .i64 0, .string ⟨#[]⟩, .int .i64 (i : Nat)] 29) = W0 at *
          go_wp2_with (first | (with_reducible refine (unhide HLt _).mono ?_; rintro e w1 ⟨rfl, rfl⟩) | (with_reducible refine (unhide HD _).mono ?_; rintro e w1 ⟨rfl, rfl⟩) | (with_reducible refine (unhide HA _).mono ?_; rintro e w1 ⟨rfl, rfl⟩) | (with_reducible refine (unhide HD1 _).mono ?_; rintro e w1 ⟨rfl, rfl⟩) | (with_reducible refine (unhide HN _).mono ?_; rintro e w1 ⟨rfl, rfl⟩))
          go_region
          have HI1 := hide (show OneI w i (((w1.setCell ⟨w.heap.size + 1, 0, none⟩ (.int .i64 3)).setCell ⟨w.heap.size + 1, 1, none⟩ (.string (s.extract i e))).drew) 3 (s.extract i e) from (((unhide HI0).kind 3).text (s.extract i e)).drewN 1)
          obtain ⟨a0, a1, a2, a3, a4, a5, a6, a7⟩ := (unhide HI1).facts
          clear c0 c1 c2 f0 f1 d0 d1 d2
          generalize ((w1.setCell ⟨w.heap.size + 1, 0, none⟩ (.int .i64 3)).setCell ⟨w.heap.size + 1, 1, none⟩ (.string (s.extract i e))).drew = W1 at *
          go_wp2
          obtain ⟨hB, hKK⟩ := (unhide HI1).out
          refine bodyPost_ret (results_tok rfl rfl hB) rfl ?_
          exact ⟨_, _, by rw [unhide HTA] <;> (try rfl), hKK, by rw [unhide HTA]; intro k' x' e' h; cases h; exact ⟨rfl, rfl⟩⟩
    · have hcd : isDig (bt s i) = false ∧ ((bt s i == 45) = false ∨ (bt s i = 45 ∧ isDig (bt s (i + 1)) = false)) := by
        by_cases h45 : bt s i = 45
        · rw [numFrom, if_pos h45] at q2
          exact ⟨by rw [h45]; rfl, .inr ⟨h45, by simpa [dgP] using q2⟩⟩
        · rw [numFrom, if_neg h45] at q2
          exact ⟨by simpa [dgP] using q2, .inl (by simp [h45])⟩
      obtain ⟨hd, hcd⟩ := hcd
      have HD := hide (refDigit_is (bt s i) false hd hc0 hc1)
      rcases hcd with e45 | ⟨h45, hd1⟩
      · have hn45 : ¬ (isDig (bt s i) = true ∨ bt s i = 45) := by rw [hd]; simpa using e45
        by_cases q5 : bt s i = 39
        · have HT := hide (tok_hex q1' hn45 q5)
          have HNA := hide (show hexAt s i = if hexOk s i = true then some (4, sub s (i + 1) (hexEnd s i), hexEnd s i + 2) else none from rfl)
          have HN := hide (fun w1 => refHex_any s i w1 hi hs)
          clear q1' q2 hd hn45 hL
          generalize bt s i = c at *
          subst q5
          go_enter Tryd.func22, Tryd.ntmps22
          go_wp2_with fail
          obtain ⟨c0, c1, c2, f0, f1, d0, d1, d2⟩ := (unhide HI0).facts
          generalize (w.alloc (.cells #[.int .i64 0, .string ⟨#[]⟩, .int .i64 0] 29)).alloc (.cells #[.int .i64 0, .string ⟨#[]⟩, .int .i64 (i : Nat)] 29) = W0 at *
          go_wp2_with (first | (with_reducible refine (unhide HLt _).mono ?_; rintro e w1 ⟨rfl, rfl⟩) | (with_reducible refine (unhide HD _).mono ?_; rintro e w1 ⟨rfl, rfl⟩))
          have HI1 := hide ((unhide HI0).kind 4)
          obtain ⟨a0, a1, a2, a3, a4, a5, a6, a7⟩ := (unhide HI1).facts
          clear c0 c1 c2 f0 f1 d0 d1 d2
          generalize w1.setCell ⟨w.heap.size + 1, 0, none⟩ (.int .i64 4) = W1 at *
          refine (unhide HN _).mono ?_
          rintro e w2 ⟨rfl, m, rfl⟩
          have HI2 := hide ((unhide HI1).drewN m)
          go_wp2
          have HI3 := hide ((unhide HI2).text (orNone (hexOk s i) (sub s (i + 1) (hexEnd s i))))
          obtain ⟨hB, hKK⟩ := (unhide HI3).out
          refine bodyPost_ret (results_tok rfl rfl hB) rfl ?_
          cases hok : hexOk s i
          · exact ⟨_, _, by rw [unhide HT, unhide HNA, hok] <;> (try rfl), by rw [hok] at hKK; exact hKK, by rw [unhide HT, unhide HNA, hok]; intro k' x' e' h; cases h⟩
          · exact ⟨_, _, by rw [unhide HT, unhide HNA, hok] <;> (try rfl), by rw [hok] at hKK; exact hKK, by rw [unhide HT, unhide HNA, hok]; intro k' x' e' h; cases h; exact ⟨rfl, rfl⟩⟩
        · have e39 : (bt s i == 39) = false := beq_eq_false_iff_ne.2 q5
          by_cases q6 : bt s i = 34
          · have HT := hide (tok_quo q1' hn45 q6)
            have HQE := hide (show ∀ k x e, quoAt s i = some (k, x, e) → k = 7 by
              intro k x e h
              unfold quoAt at h
              split at h
              · cases h
              · split at h
                · cases h; rfl
                · cases h)
            have HN := hide (fun w1 (hk : Keeps w w1) => refQuoted_any hL hk s i hi hs)
            clear q1' q2 hd hn45 hL q5
            generalize bt s i = c at *
            subst q6
            go_enter Tryd.func22, Tryd.ntmps22
            go_wp2_with fail
            obtain ⟨c0, c1, c2, f0, f1, d0, d1, d2⟩ := (unhide HI0).facts
            generalize (w.alloc (.cells #[.int .i64 0, .string ⟨#[]⟩, .int .i64 0] 29)).alloc (.cells #[.int .i64 0, .string ⟨#[]⟩, .int .i64 (i : Nat)] 29) = W0 at *
            go_wp2_with (first | (with_reducible refine (unhide HLt _).mono ?_; rintro e w1 ⟨rfl, rfl⟩) | (with_reducible refine (unhide HD _).mono ?_; rintro e w1 ⟨rfl, rfl⟩))
            have HI1 := hide ((unhide HI0).kind 7)
            obtain ⟨a0, a1, a2, a3, a4, a5, a6, a7⟩ := (unhide HI1).facts
            clear c0 c1 c2 f0 f1 d0 d1 d2
            generalize w1.setCell ⟨w.heap.size + 1, 0, none⟩ (.int .i64 7) = W1 at *
            refine (unhide HN _ (unhide HI1).1).mono ?_
            rintro e w2 ⟨rfl, hk2⟩
            have HI2 := hide ((unhide HI1).keeps hk2)
            obtain ⟨b0, b1, b2, b3, b4, b5, b6, b7⟩ := (unhide HI2).facts
            clear hk2 a0 a1 a2 a3 a4 a5 a6 a7
            go_wp2
            have HI3 := hide ((unhide HI2).text (quoTxt (quoAt s i)))
            obtain ⟨hB, hKK⟩ := (unhide HI3).out
            refine bodyPost_ret (results_tok rfl rfl hB) rfl ?_
            refine ⟨7, quoTxt (quoAt s i), by rw [unhide HT, ← quo_one] <;> (try rfl), hKK, ?_⟩
            rw [unhide HT]
            intro k' x' e' h
            exact ⟨(unhide HQE _ _ _ h).symm, by rw [h]; rfl⟩
          · have e34 : (bt s i == 34) = false := beq_eq_false_iff_ne.2 q6
            have HT := hide (tok_sign q1' hn45 q5 q6)
            have HN := hide (fun w1 => refSign_any s i w1 hi hs)
            clear q1' q2 hd hn45 hL q5 q6
            generalize hsg : signAt s i = sg at *
            have HSG := hide hsg
            clear hsg
            generalize bt s (i + 1) = c1 at *
            generalize bt s i = c at *
            rcases sg with _ | ⟨k, x, e⟩
            · rw [show signLen none i = 0 from rfl] at HN
              go_enter Tryd.func22, Tryd.ntmps22
              go_wp2_with fail
              obtain ⟨c0, c1, c2, f0, f1, d0, d1, d2⟩ := (unhide HI0).facts
              generalize (w.alloc (.cells #[.int .i64 0, .string ⟨#[]⟩, .int .i64 0] 29)).alloc (.cells #[.int .i64 0, .string ⟨#[]⟩, .int .i64 (i : Nat)] 29) = W0 at *
              go_wp2_with (first | (with_reducible refine (unhide HLt _).mono ?_; rintro e w1 ⟨rfl, rfl⟩) | (with_reducible refine (unhide HD _).mono ?_; rintro e w1 ⟨rfl, rfl⟩))
              refine (unhide HN _).mono ?_
              rintro e w2 ⟨rfl, hk2⟩
              have HI2 := hide ((unhide HI0).keeps hk2)
              obtain ⟨b0, b1, b2, b3, b4, b5, b6, b7⟩ := (unhide HI2).facts
              clear hk2 c0 c1 c2 f0 f1 d0 d1 d2
              go_wp2
              obtain ⟨hB, hKK⟩ := (unhide HI2).out
              refine bodyPost_ret (results_tok rfl rfl hB) rfl ?_
              exact ⟨_, _, by rw [unhide HT] <;> (try rfl), hKK, by rw [unhide HT]; intro k' x' e' h; cases h⟩
            · have HSK := hide (sign_facts hi (unhide HSG))
              have hgt : 0 < e - i := by have := (unhide HSK).1; omega
              have hle := (unhide HSK).2.1
              rw [show signLen (some (k, x, e)) i = e - i from rfl] at HN
              generalize hd0 : e - i = d at *
              have hxI : (0 : Int) < (d : Int) := by omega
              have hidI : (i : Int) + (d : Int) ≤ (s.size : Int) := by omega
              have hii : (i : Int) ≤ (i : Int) + (d : Int) := by omega
              have hidn : ((i : Int) + (d : Int)).toNat = i + d := by omega
              have hid0 : (0 : Int) ≤ (i : Int) + (d : Int) := by omega
              have hiw : IntKind.i64.wrap ((i : Int) + (d : Int)) = (i : Int) + (d : Int) := IntWalk.i64_in _ ⟨by omega, by omega⟩
              have HD0 := hide hd0
              clear hd0
              go_enter Tryd.func22, Tryd.ntmps22
              go_wp2_with fail
              obtain ⟨c0, c1, c2, f0, f1, d0, d1, d2⟩ := (unhide HI0).facts
              generalize (w.alloc (.cells #[.int .i64 0, .string ⟨#[]⟩, .int .i64 0] 29)).alloc (.cells #[.int .i64 0, .string ⟨#[]⟩, .int .i64 (i : Nat)] 29) = W0 at *
              go_wp2_with (first | (with_reducible refine (unhide HLt _).mono ?_; rintro e w1 ⟨rfl, rfl⟩) | (with_reducible refine (unhide HD _).mono ?_; rintro e w1 ⟨rfl, rfl⟩))
              refine (unhide HN _).mono ?_
              rintro e w2 ⟨rfl, hk2⟩
              have HI2 := hide ((unhide HI0).keeps hk2)
              obtain ⟨b0, b1, b2, b3, b4, b5, b6, b7⟩ := (unhide HI2).facts
              clear hk2 c0 c1 c2 f0 f1 d0 d1 d2
              go_wp2_with fail
              go_region
              have HI3 := hide (show OneI w i (((w2.setCell ⟨w.heap.size + 1, 0, none⟩ (.int .i64 6)).setCell ⟨w.heap.size + 1, 1, none⟩ (.string (s.extract i (i + d)))).drew) 6 (s.extract i (i + d)) from (((unhide HI2).kind 6).text (s.extract i (i + d))).drewN 1)
              obtain ⟨g0, g1, g2, g3, g4, g5, g6, g7⟩ := (unhide HI3).facts
              clear b0 b1 b2 b3 b4 b5 b6 b7
              generalize ((w2.setCell ⟨w.heap.size + 1, 0, none⟩ (.int .i64 6)).setCell ⟨w.heap.size + 1, 1, none⟩ (.string (s.extract i (i + d)))).drew = W1 at *
              go_wp2
              obtain ⟨hB, hKK⟩ := (unhide HI3).out
              refine bodyPost_ret (results_tok rfl rfl hB) rfl ?_
              have hed : e = i + d := by have := unhide HD0; omega
              refine ⟨6, s.extract i (i + d), ?_, hKK, ?_⟩
              · rw [unhide HT, hed]; rfl
              · rw [unhide HT]; intro k' x' e' h; cases h; exact ⟨(unhide HSK).2.2.1.symm, by rw [(unhide HSK).2.2.2, hed]; rfl⟩
      · have HT := hide (show tokAt s i = none by
          rw [tok_num q1' (.inr h45), numAt, show numOk s i = false by
            rw [numOk_iff, show numEnd s i = numFrom s i by rw [numEnd, numFrom, if_pos h45]; exact spanAt_run (dgP_lt s) (by omega) (IsRun.refl _ _) hd1]; simp]
          rfl)
        have HS0 := sign_dash hi h45
        have HA := hide (refAt1_is s i (by omega) (by omega) _ rfl)
        have HD1 := hide (refDigit_is (bt s (i + 1)) false hd1 (bt_nonneg _ _) (bt_le _ _))
        clear q1' q2 hd hL hd1
        have HN := hide (fun w1 => refSign_any s i w1 hi hs)
        generalize hsg : signAt s i = sg at *
        have HSG := hide hsg
        clear hsg
        generalize bt s (i + 1) = c1 at *
        generalize bt s i = c at *
        subst h45
        subst HS0
        rw [show signLen none i = 0 from rfl] at HN
        go_enter Tryd.func22, Tryd.ntmps22
        go_wp2_with fail
        obtain ⟨c0, c1, c2, f0, f1, d0, d1, d2⟩ := (unhide HI0).facts
        generalize (w.alloc (.cells #[.int .i64 0, .string ⟨#[]⟩, .int .i64 0] 29)).alloc (.cells #[.int .i64 0, .string ⟨#[]⟩, .int .i64 (i : Nat)] 29) = W0 at *
        go_wp2_with (first | (with_reducible refine (unhide HLt _).mono ?_; rintro e w1 ⟨rfl, rfl⟩) | (with_reducible refine (unhide HD _).mono ?_; rintro e w1 ⟨rfl, rfl⟩) | (with_reducible refine (unhide HA _).mono ?_; rintro e w1 ⟨rfl, rfl⟩) | (with_reducible refine (unhide HD1 _).mono ?_; rintro e w1 ⟨rfl, rfl⟩))
        refine (unhide HN _).mono ?_
        rintro e w2 ⟨rfl, hk2⟩
        have HI2 := hide ((unhide HI0).keeps hk2)
        obtain ⟨b0, b1, b2, b3, b4, b5, b6, b7⟩ := (unhide HI2).facts
        clear hk2 c0 c1 c2 f0 f1 d0 d1 d2
        go_wp2
        obtain ⟨hB, hKK⟩ := (unhide HI2).out
        refine bodyPost_ret (results_tok rfl rfl hB) rfl ?_
        exact ⟨_, _, by rw [unhide HT] <;> (try rfl), hKK, by rw [unhide HT]; intro k' x' e' h; cases h⟩
end Go.Proofs.YtknebkncepgppaaDoor
