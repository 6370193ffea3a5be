/- The stream of tokens. -/
import Derived.Test.YtckcbgijddglpaaGreatDoorLex9
import Derived.Test.YtckcbgijddglpaaGreatDoorLexH
import Derived.Test.YtckcbgijddglpaaGreatDoorSynN
namespace Go.Proofs.YtckcbgijddglpaaGreatDoor
open Go.ChangeShapes Go.WideShapes Go.ChangeAt Go.RowKit Go.PlainAid
set_option linter.unusedVariables false
set_option linter.unusedSimpArgs false

/-- The parser at g: its tokens, its place among them, its error, its module's cells. -/
def PS (w : World) (g : Nat) (A : Option Addr) (c : Nat) (l : List Tok) (i : Nat) (er : Int) (pl : Nat) (m0 m1 m2 m3 m4 : Value) : Prop :=
  Blk w g 59 #[.slice A l.length c, .int .i64 (i : Nat), .int .i64 er, .int .i64 (pl : Nat), m0, m1, m2, m3, m4] ∧ HoldsK w A l
theorem tk_get {l : List Tok} {i : Nat} (h : i < l.length) : l[i]? = some (tk l i) := by
  rw [tk, List.getD_eq_getElem?_getD, List.getElem?_eq_getElem h]; rfl
theorem tk_past {l : List Tok} {i : Nat} (h : l.length ≤ i) : tk l i = (0, ⟨#[]⟩, 0) := by
  rw [tk, List.getD_eq_getElem?_getD, List.getElem?_eq_none h]; rfl
theorem tok_load0 {w : World} {g : Nat} {t : TypeId} {k a : Int} {x : ByteArray} (h : Blk w g t #[.int .i64 k, .string x, .int .i64 a]) : (loadVar 53 ⟨g, 0, none⟩).run Tryz.prog w = .ok (.agg #[.int .i64 k, .string x, .int .i64 a]) w :=
  run_loadVar_row w g t 53 _ (0, 0) _ h Tryz.underlying53 rfl (by kernel_rfl)
theorem results_tok0 {fn : Func} {c : Tmp} {tmps : Array Value} {w : World} {g : Nat} {ty : TypeId} {k a : Int} {x : ByteArray} (h : fn.results = #[.cell c 53]) (hp : tmps.getD c undef = .pointer (some ⟨g, 0, none⟩)) (hb : Blk w g ty #[.int .i64 k, .string x, .int .i64 a]) :
    (results fn tmps).run Tryz.prog w = .ok (.agg #[.int .i64 k, .string x, .int .i64 a]) w := by
  have hp2 : tmps[c]?.getD undef = .pointer (some ⟨g, 0, none⟩) := by simpa using hp
  simp only [results, h]
  simp [hp2, asAddr, tok_load0 hb]

/-- A token's block that is written over. -/
theorem tok_out {w W1 : World} {T : Nat} {t : TypeId} {v0 v1 v2 : Value} (hB : Blk W1 T t #[v0, v1, v2]) (hk : Keeps w W1) (hT : w.heap.size ≤ T) (n : Nat) (k a : Int) (x : ByteArray) :
    Blk ((((W1.drewN n).setCell ⟨T, 0, none⟩ (.int .i64 k)).setCell ⟨T, 1, none⟩ (.string x)).setCell ⟨T, 2, none⟩ (.int .i64 a)) T t #[.int .i64 k, .string x, .int .i64 a] ∧
    Keeps w ((((W1.drewN n).setCell ⟨T, 0, none⟩ (.int .i64 k)).setCell ⟨T, 1, none⟩ (.string x)).setCell ⟨T, 2, none⟩ (.int .i64 a)) :=
  ⟨by simpa using (((hB.drewN n).set_ 0 (.int .i64 k)).set_ 1 (.string x)).set_ 2 (.int .i64 a),
   (((hk.drewN n).setCell (p := ⟨T, 0, none⟩) hT _).setCell (p := ⟨T, 1, none⟩) hT _).setCell (p := ⟨T, 2, none⟩) hT _⟩
set_option maxRecDepth 100000 in
set_option maxHeartbeats 4000000 in
theorem now_any {w : World} {g : Nat} {A : Option Addr} {c : Nat} {l : List Tok} {i : Nat} {er : Int} {pl : Nat} {m0 m1 m2 m3 m4 : Value} (h : PS w g A c l i er pl m0 m1 m2 m3 m4) (hi : i ≤ 1000000) (hl : l.length ≤ 1000000) :
    Calls Tryz.prog 65 #[.pointer (some ⟨g, 0, none⟩)] w fun e w' => e = .returned (.agg #[.int .i64 (tk l i).1, .string (tk l i).2.1, .int .i64 ((tk l i).2.2 : Nat)]) ∧ Keeps w w' := by
  have hb := h.1.alloc (.cells #[.int .i64 0, .string ⟨#[]⟩, .int .i64 0] 53)
  have h0 := hb.cell 0
  have h1 := hb.cell 1
  replace h0 : (w.alloc (.cells #[.int .i64 0, .string ⟨#[]⟩, .int .i64 0] 53)).cell? ⟨g, 0, none⟩ = some (.slice A l.length c) := h0
  replace h1 : (w.alloc (.cells #[.int .i64 0, .string ⟨#[]⟩, .int .i64 0] 53)).cell? ⟨g, 1, none⟩ = some (.int .i64 (i : Nat)) := h1
  have HB := hide (Blk.new w 53 #[.int .i64 0, .string ⟨#[]⟩, .int .i64 0])
  have HK := hide ((Keeps.refl w).alloc (.cells #[.int .i64 0, .string ⟨#[]⟩, .int .i64 0] 53))
  have HH := hide (h.2.keeps ((Keeps.refl w).alloc (.cells #[.int .i64 0, .string ⟨#[]⟩, .int .i64 0] 53)))
  clear h hb
  by_cases hlt : i < l.length
  · have hltI : ¬ ((l.length : Int) ≤ (i : Int)) := by omega
    have hiI : (i : Int) < (l.length : Int) := by omega
    have hget := tk_get hlt
    generalize tk l i = t at *
    obtain ⟨k, x, a⟩ := t
    obtain ⟨b, o, rfl, c0, c1, c2, hbl⟩ := (unhide HH).at_ hget
    obtain ⟨z0, z1, z2⟩ := (unhide HB).facts
    go_enter Tryz.func65, Tryz.ntmps65
    go_wp2
    go_quiet (fail)
    go_wp2
    go_region
    go_wp2
    obtain ⟨hB, hKK⟩ := tok_out (unhide HB) (unhide HK) (Nat.le_refl _) (nq + 1) k (a : Nat) x
    refine bodyPost_ret (results_tok0 rfl rfl hB) rfl ?_
    exact ⟨rfl, hKK⟩
  · have hltI : (l.length : Int) ≤ (i : Int) := by omega
    have ht := tk_past (l := l) (i := i) (by omega)
    rw [ht]
    obtain ⟨z0, z1, z2⟩ := (unhide HB).facts
    go_enter Tryz.func65, Tryz.ntmps65
    go_wp2
    go_quiet (fail)
    go_wp2
    obtain ⟨hB, hKK⟩ := tok_out (unhide HB) (unhide HK) (Nat.le_refl _) nq 0 0 ⟨#[]⟩
    refine bodyPost_ret (results_tok0 rfl rfl hB) rfl ?_
    exact ⟨rfl, hKK⟩
end Go.Proofs.YtckcbgijddglpaaGreatDoor
namespace Go.Proofs.YtckcbgijddglpaaGreatDoor
open Go.ChangeShapes Go.WideShapes Go.ChangeAt Go.RowKit Go.PlainAid
set_option linter.unusedVariables false
set_option linter.unusedSimpArgs false

theorem PS.keeps {w w' : World} {g : Nat} {A : Option Addr} {c : Nat} {l : List Tok} {i : Nat} {er : Int} {pl : Nat} {m0 m1 m2 m3 m4 : Value} (h : PS w g A c l i er pl m0 m1 m2 m3 m4) (hk : Keeps w w') : PS w' g A c l i er pl m0 m1 m2 m3 m4 := ⟨h.1.keeps hk, h.2.keeps hk⟩
set_option maxRecDepth 100000 in
set_option maxHeartbeats 4000000 in
theorem is_any {w : World} {g : Nat} {A : Option Addr} {c : Nat} {l : List Tok} {i : Nat} {er : Int} {pl : Nat} {m0 m1 m2 m3 m4 : Value} (h : PS w g A c l i er pl m0 m1 m2 m3 m4) (hi : i ≤ 1000000) (hl : l.length ≤ 1000000) (s : ByteArray) :
    Calls Tryz.prog 90 #[.pointer (some ⟨g, 0, none⟩), .string s] w fun e w' => e = .returned (.bool (isT l i s)) ∧ Keeps w w' := by
  have HN := hide (now_any h hi hl)
  have HI := hide (show isT l i s = ((decide ((tk l i).1 = 5) || decide ((tk l i).1 = 6)) && (tk l i).2.1.data.toList == s.data.toList) from rfl)
  clear h
  generalize tk l i = t at *
  obtain ⟨k, x, a⟩ := t
  have hkk : k = 5 ∨ k = 6 ∨ ((k == 5) = false ∧ (k == 6) = false ∧ k ≠ 5 ∧ k ≠ 6) := by
    by_cases q : k = 5
    · exact .inl q
    · by_cases q2 : k = 6
      · exact .inr (.inl q2)
      · exact .inr (.inr ⟨by simp [q], by simp [q2], q, q2⟩)
  have hx : ((x.toList == s.toList) = true ∧ (x.data.toList == s.data.toList) = true) ∨ ((x.toList == s.toList) = false ∧ (x.data.toList == s.data.toList) = false) := by
    rw [ByteArray.toList_eq, ByteArray.toList_eq]
    cases x.data.toList == s.data.toList <;> simp
  rcases hkk with rfl | rfl | ⟨q1, q2, q3, q4⟩
  · rcases hx with ⟨x1, x2⟩ | ⟨x1, x2⟩
    · have HR := hide (show isT l i s = true by rw [unhide HI]; simp [x2])
      clear x2
      go_enter Tryz.func90, Tryz.ntmps90
      go_wp2_with fail
      refine (unhide HN).mono ?_
      rintro e w1 ⟨rfl, hk⟩
      have HK := hide hk
      clear hk
      go_wp2
      go_ret
      exact ⟨ret_bool (unhide HR).symm, (unhide HK).alloc _⟩
    · have HR := hide (show isT l i s = false by rw [unhide HI]; simp [x2])
      clear x2
      go_enter Tryz.func90, Tryz.ntmps90
      go_wp2_with fail
      refine (unhide HN).mono ?_
      rintro e w1 ⟨rfl, hk⟩
      have HK := hide hk
      clear hk
      go_wp2
      go_ret
      exact ⟨ret_bool (unhide HR).symm, (unhide HK).alloc _⟩
  · rcases hx with ⟨x1, x2⟩ | ⟨x1, x2⟩
    · have HR := hide (show isT l i s = true by rw [unhide HI]; simp [x2])
      clear x2
      go_enter Tryz.func90, Tryz.ntmps90
      go_wp2_with fail
      refine (unhide HN).mono ?_
      rintro e w1 ⟨rfl, hk⟩
      have HK := hide hk
      clear hk
      go_wp2
      go_ret
      exact ⟨ret_bool (unhide HR).symm, (unhide HK).alloc _⟩
    · have HR := hide (show isT l i s = false by rw [unhide HI]; simp [x2])
      clear x2
      go_enter Tryz.func90, Tryz.ntmps90
      go_wp2_with fail
      refine (unhide HN).mono ?_
      rintro e w1 ⟨rfl, hk⟩
      have HK := hide hk
      clear hk
      go_wp2
      go_ret
      exact ⟨ret_bool (unhide HR).symm, (unhide HK).alloc _⟩
  · have HR := hide (show isT l i s = false by rw [unhide HI]; simp [q3, q4])
    clear hx q3 q4
    go_enter Tryz.func90, Tryz.ntmps90
    go_wp2_with fail
    refine (unhide HN).mono ?_
    rintro e w1 ⟨rfl, hk⟩
    have HK := hide hk
    clear hk
    go_wp2
    go_ret
    exact ⟨ret_bool (unhide HR).symm, (unhide HK).alloc _⟩
end Go.Proofs.YtckcbgijddglpaaGreatDoor
namespace Go.Proofs.YtckcbgijddglpaaGreatDoor
open Go.ChangeShapes Go.WideShapes Go.ChangeAt Go.RowKit Go.PlainAid
set_option linter.unusedVariables false
set_option linter.unusedSimpArgs false

theorem PS.at_ {w : World} {g : Nat} {A : Option Addr} {c : Nat} {l : List Tok} {i : Nat} {er : Int} {pl : Nat} {m0 m1 m2 m3 m4 : Value} (h : PS w g A c l i er pl m0 m1 m2 m3 m4) (hA : ∀ b, A.map (·.block) = some b → b ≠ g) : PS (w.setCell ⟨g, 1, none⟩ (.int .i64 ((i : Int) + 1))) g A c l (i + 1) er pl m0 m1 m2 m3 m4 := by
  refine ⟨?_, ?_⟩
  · have := h.1.set_ 1 (.int .i64 ((i : Int) + 1))
    simpa [Int.natCast_add] using this
  · refine ⟨h.2.1, fun hn => ?_⟩
    obtain ⟨ad, e, hb, hc⟩ := h.2.2 hn
    refine ⟨ad, e, by rw [World.size_setCell]; exact hb, fun j u hu => ?_⟩
    rw [World.cell?_of_block (Below.heap_setCell w ⟨g, 1, none⟩ _ (ad.add j).block (by rw [block_of_add]; exact hA _ (by rw [e]; rfl)))]
    exact hc j u hu
theorem field0 (k a : Int) (x : ByteArray) (w : World) : (Instr.field 53 (.agg #[.int .i64 k, .string x, .int .i64 a]) 0).run Tryz.prog w = .ok (.int .i64 k) w := by kernel_rfl
theorem field2 (k a : Int) (x : ByteArray) (w : World) : (Instr.field 53 (.agg #[.int .i64 k, .string x, .int .i64 a]) 2).run Tryz.prog w = .ok (.int .i64 a) w := by kernel_rfl
set_option maxRecDepth 100000 in
set_option maxHeartbeats 4000000 in
theorem skipTok_any {w : World} {g : Nat} {A : Option Addr} {c : Nat} {l : List Tok} {i : Nat} {er : Int} {pl : Nat} {m0 m1 m2 m3 m4 : Value} (h : PS w g A c l i er pl m0 m1 m2 m3 m4) (hA : ∀ b, A.map (·.block) = some b → b ≠ g) (hi : i ≤ 1000000) (hl : l.length ≤ 1000000) :
    Calls Tryz.prog 67 #[.pointer (some ⟨g, 0, none⟩)] w fun e w' => e = .returned (.tuple #[]) ∧ PS w' g A c l (skT l i) er pl m0 m1 m2 m3 m4 ∧ Fr g w w' := by
  have HN := hide (now_any h hi hl)
  have HH := hide h
  have HI := hide (show skT l i = if (tk l i).1 = 0 then i else i + 1 from rfl)
  clear h
  generalize tk l i = t at *
  obtain ⟨k, x, a⟩ := t
  have hf := fun w => field0 k (a : Nat) x w
  by_cases q : k = 0
  · subst q
    have HS := hide (show skT l i = i from unhide HI)
    go_enter Tryz.func67, Tryz.ntmps67
    go_wp2_with fail
    refine (unhide HN).mono ?_
    rintro e w1 ⟨rfl, hk⟩
    have HK := hide hk
    clear hk
    go_wp2
    go_end0
    exact ⟨rfl, by rw [unhide HS]; exact (unhide HH).keeps (unhide HK), (Fr.refl g w).keeps (unhide HK)⟩
  · have q2 : (k != 0) = true := by rw [bne_iff_ne]; exact q
    have HS := hide (show skT l i = i + 1 by rw [unhide HI]; exact if_neg q)
    clear q
    go_enter Tryz.func67, Tryz.ntmps67
    go_wp2_with fail
    refine (unhide HN).mono ?_
    rintro e w1 ⟨rfl, hk⟩
    have hp := (unhide HH).keeps hk
    have HP := hide hp
    have HK := hide hk
    obtain ⟨c0, f0, _⟩ := hp.1.facts
    have c1 : w1.cell? ⟨g, 1, none⟩ = some (.int .i64 (i : Nat)) := c0 1
    clear hk hp c0
    go_wp2
    go_end0
    exact ⟨rfl, by rw [unhide HS]; exact (unhide HP).at_ hA, ((Fr.refl g w).keeps (unhide HK)).set 1 _⟩
end Go.Proofs.YtckcbgijddglpaaGreatDoor
namespace Go.Proofs.YtckcbgijddglpaaGreatDoor
open Go.ChangeShapes Go.WideShapes Go.ChangeAt Go.RowKit Go.PlainAid
set_option linter.unusedVariables false
set_option linter.unusedSimpArgs false

theorem isT_sk {l : List Tok} {i : Nat} {s : ByteArray} (h : isT l i s = true) : skT l i = i + 1 := by
  simp only [isT, Bool.and_eq_true, Bool.or_eq_true, decide_eq_true_eq] at h
  rw [skT, if_neg (by rcases h.1 with h | h <;> rw [h] <;> decide)]
set_option maxRecDepth 100000 in
set_option maxHeartbeats 4000000 in
theorem take_any {w : World} {g : Nat} {A : Option Addr} {c : Nat} {l : List Tok} {i : Nat} {er : Int} {pl : Nat} {m0 m1 m2 m3 m4 : Value} (h : PS w g A c l i er pl m0 m1 m2 m3 m4) (hA : ∀ b, A.map (·.block) = some b → b ≠ g) (hi : i ≤ 1000000) (hl : l.length ≤ 1000000) (s : ByteArray) :
    Calls Tryz.prog 68 #[.pointer (some ⟨g, 0, none⟩), .string s] w fun e w' => e = .returned (.bool (isT l i s)) ∧ PS w' g A c l (if isT l i s = true then i + 1 else i) er pl m0 m1 m2 m3 m4 ∧ Fr g w w' := by
  have HI := hide (is_any h hi hl s)
  have HH := hide h
  have HSK := hide (fun (w1 : World) (hk : Keeps w w1) => skipTok_any (h.keeps hk) hA hi hl)
  clear h
  cases hb : isT l i s with
  | false =>
    rw [hb] at HI
    have HR := hide (show (if (false : Bool) = true then i + 1 else i) = i from rfl)
    clear hb
    go_enter Tryz.func68, Tryz.ntmps68
    go_wp2_with fail
    refine (unhide HI).mono ?_
    rintro e w1 ⟨rfl, hk⟩
    have HK := hide hk
    clear hk
    go_wp2
    go_ret
    exact ⟨rfl, (unhide HH).keeps (unhide HK), (Fr.refl g w).keeps (unhide HK)⟩
  | true =>
    rw [hb] at HI
    have HS := hide (isT_sk hb)
    clear hb
    go_enter Tryz.func68, Tryz.ntmps68
    go_wp2_with fail
    refine (unhide HI).mono ?_
    rintro e w1 ⟨rfl, hk⟩
    have HK := hide hk
    clear hk
    go_wp2_with fail
    refine (unhide HSK _ (unhide HK)).mono ?_
    rintro e w2 ⟨rfl, hp, hf⟩
    have HP := hide hp
    have HF := hide (((Fr.refl g w).keeps (unhide HK)).trans hf)
    clear hp hf
    go_wp2
    go_ret
    exact ⟨rfl, by have := unhide HP; rw [unhide HS] at this; exact this, unhide HF⟩
end Go.Proofs.YtckcbgijddglpaaGreatDoor
namespace Go.Proofs.YtckcbgijddglpaaGreatDoor
open Go.ChangeShapes Go.WideShapes Go.ChangeAt Go.RowKit Go.PlainAid
set_option linter.unusedVariables false
set_option linter.unusedSimpArgs false

/-- The parser has an error, at a place; the rest of it is as it was. -/
theorem PS.stop {w : World} {g : Nat} {A : Option Addr} {c : Nat} {l : List Tok} {i : Nat} {er : Int} {pl : Nat} {m0 m1 m2 m3 m4 : Value} (h : PS w g A c l i er pl m0 m1 m2 m3 m4) (hA : ∀ b, A.map (·.block) = some b → b ≠ g) (e : Int) (p : Nat) :
    PS ((w.setCell ⟨g, 2, none⟩ (.int .i64 e)).setCell ⟨g, 3, none⟩ (.int .i64 (p : Nat))) g A c l i e p m0 m1 m2 m3 m4 := by
  refine ⟨?_, ?_⟩
  · have := (h.1.set_ 2 (.int .i64 e)).set_ 3 (.int .i64 (p : Nat))
    simpa using this
  · refine ⟨h.2.1, fun hn => ?_⟩
    obtain ⟨ad, e', hb, hc⟩ := h.2.2 hn
    refine ⟨ad, e', by rw [World.size_setCell, World.size_setCell]; exact hb, fun j u hu => ?_⟩
    have hne : (ad.add j).block ≠ g := by rw [block_of_add]; exact hA _ (by rw [e']; rfl)
    rw [World.cell?_of_block (Below.heap_setCell _ ⟨g, 3, none⟩ _ (ad.add j).block hne), World.cell?_of_block (Below.heap_setCell w ⟨g, 2, none⟩ _ (ad.add j).block hne)]
    exact hc j u hu
set_option maxRecDepth 100000 in
set_option maxHeartbeats 4000000 in
theorem stopAt_any {w : World} {g : Nat} {A : Option Addr} {c : Nat} {l : List Tok} {i : Nat} {er : Int} {pl : Nat} {m0 m1 m2 m3 m4 : Value} (h : PS w g A c l i er pl m0 m1 m2 m3 m4) (hA : ∀ b, A.map (·.block) = some b → b ≠ g) (p : Nat) (x : Int) :
    Calls Tryz.prog 89 #[.pointer (some ⟨g, 0, none⟩), .int .i64 (p : Nat), .int .i64 x] w fun e w' => e = .returned (.bool false) ∧ PS w' g A c l i x p m0 m1 m2 m3 m4 ∧ Fr g w w' := by
  have HH := hide h
  obtain ⟨c0, f0, _⟩ := h.1.facts
  clear h
  go_enter Tryz.func89, Tryz.ntmps89
  go_wp2
  go_ret
  exact ⟨rfl, (unhide HH).stop hA x p, ((Fr.refl g w).set 2 _).set 3 _⟩
set_option maxRecDepth 100000 in
set_option maxHeartbeats 4000000 in
theorem stop_any {w : World} {g : Nat} {A : Option Addr} {c : Nat} {l : List Tok} {i : Nat} {er : Int} {pl : Nat} {m0 m1 m2 m3 m4 : Value} (h : PS w g A c l i er pl m0 m1 m2 m3 m4) (hA : ∀ b, A.map (·.block) = some b → b ≠ g) (hi : i ≤ 1000000) (hl : l.length ≤ 1000000) (x : Int) :
    Calls Tryz.prog 66 #[.pointer (some ⟨g, 0, none⟩), .int .i64 x] w fun e w' => e = .returned (.bool false) ∧ PS w' g A c l i x (tk l i).2.2 m0 m1 m2 m3 m4 ∧ Fr g w w' := by
  have HN := hide (now_any h hi hl)
  have HSt := hide (fun (w1 : World) (hk : Keeps w w1) (p : Nat) => stopAt_any (h.keeps hk) hA p x)
  clear h
  generalize tk l i = t at *
  obtain ⟨k, y, a⟩ := t
  have hf := fun w => field2 k (a : Nat) y w
  go_enter Tryz.func66, Tryz.ntmps66
  go_wp2_with fail
  refine (unhide HN).mono ?_
  rintro e w1 ⟨rfl, hk⟩
  have HK := hide hk
  clear hk
  go_wp2_with fail
  refine (unhide HSt _ (unhide HK) a).mono ?_
  rintro e w2 ⟨rfl, hp, hfr⟩
  have HP := hide hp
  have HF := hide (((Fr.refl g w).keeps (unhide HK)).trans hfr)
  clear hp hfr
  go_wp2
  go_ret
  exact ⟨rfl, unhide HP, unhide HF⟩
end Go.Proofs.YtckcbgijddglpaaGreatDoor
