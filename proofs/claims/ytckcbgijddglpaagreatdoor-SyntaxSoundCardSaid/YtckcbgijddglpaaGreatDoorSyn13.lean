/- The parser: the value of a default. -/
import Derived.Test.YtckcbgijddglpaaGreatDoorSyn12
namespace Go.Proofs.YtckcbgijddglpaaGreatDoor
open Go.ChangeShapes Go.WideShapes Go.ChangeAt Go.RowKit Go.PlainAid
set_option linter.unusedVariables false
set_option linter.unusedSimpArgs false
section
variable {w : World} {g : Nat} {A : Option Addr} {c : Nat} {l : List Tok} {i : Nat} {m0 m1 m2 m3 m4 : Value}
theorem val_out {w : World} {V : Nat} {t : TypeId} {v0 v1 v2 v3 v4 v5 : Value} (hB : Blk w V t #[v0, v1, v2, v3, v4, v5]) (u0 u1 u2 u3 u4 u5 : Value) :
    Blk ((((((w.setCell ⟨V, 0, none⟩ u0).setCell ⟨V, 1, none⟩ u1).setCell ⟨V, 2, none⟩ u2).setCell ⟨V, 3, none⟩ u3).setCell ⟨V, 4, none⟩ u4).setCell ⟨V, 5, none⟩ u5) V t #[u0, u1, u2, u3, u4, u5] := by
  simpa using (((((hB.set_ 0 u0).set_ 1 u1).set_ 2 u2).set_ 3 u3).set_ 4 u4).set_ 5 u5
theorem results_val {fn : Func} {c t : Tmp} {tmps : Array Value} {w : World} {V : Nat} {ty : TypeId} {k n r : Int} {b : Value} {A B : Option Addr} {x y p q : Nat} (h : fn.results = #[.cell c 45, .tmp t]) (hp : tmps.getD c undef = .pointer (some ⟨V, 0, none⟩)) (hb : Blk w V ty #[.int .i64 k, .int .i64 n, b, .slice A x y, .int .i64 r, .slice B p q]) (hl : (loadVar 45 ⟨V, 0, none⟩).run Tryz.prog w = .ok (.agg #[.int .i64 k, .int .i64 n, b, .slice A x y, .int .i64 r, .slice B p q]) w) :
    (results fn tmps).run Tryz.prog w = .ok (.tuple #[.agg #[.int .i64 k, .int .i64 n, b, .slice A x y, .int .i64 r, .slice B p q], tmps.getD t undef]) w := by
  have hp2 : tmps[c]?.getD undef = .pointer (some ⟨V, 0, none⟩) := by simpa using hp
  simp only [results, h]
  simp [hp2, asAddr, hl]
theorem val_load {w : World} {V : Nat} {ty : TypeId} {k n r : Int} {A B D : Option Addr} {x y p q x1 y1 : Nat} (hb : Blk w V ty #[.int .i64 k, .int .i64 n, .slice D x1 y1, .slice A x y, .int .i64 r, .slice B p q]) :
    (loadVar 45 ⟨V, 0, none⟩).run Tryz.prog w = .ok (.agg #[.int .i64 k, .int .i64 n, .slice D x1 y1, .slice A x y, .int .i64 r, .slice B p q]) w :=
  run_loadVar_row w V ty 45 _ (0, 0) _ hb Tryz.underlying45 rfl (by kernel_rfl)
/-- What a value of a default is handed back as. -/
def GivesVal (g : Nat) (A : Option Addr) (c : Nat) (l : List Tok) (m0 m1 m2 m3 m4 : Value) (w : World) (r : ValV × Nat) (e : Ending) (w' : World) : Prop :=
  ∃ vb, e = .returned (.tuple #[.agg #[.int .i64 r.1.kind, .int .i64 r.1.n, vb, .slice none 0 0, .int .i64 0, .slice none 0 0], .bool true]) ∧ PQ w' g A c l r.2 m0 m1 m2 m3 m4 ∧ BytesH w' (fun b => w.heap.size ≤ b) vb r.1.b
theorem number_eq (h : (tk l i).1 = 3) : numberT l i = .ok (numT (tk l i).2.1, i + 1) := by simp [numberT, tokT, skT, h, bind, Except.bind, pure, Except.pure]
theorem tok_eq {k : Int} (h : (tk l i).1 = k) (hk : k ≠ 0) : tokT l i k = .ok ((tk l i).2.1, i + 1) := by rw [tokT, if_pos h, skT, if_neg (by omega)]
theorem PQ.set6 (h : PQ w g A c l i m0 m1 m2 m3 m4) {V : Nat} (hV : g < V) (u0 u1 u2 u3 u4 u5 : Value) : PQ ((((((w.setCell ⟨V, 0, none⟩ u0).setCell ⟨V, 1, none⟩ u1).setCell ⟨V, 2, none⟩ u2).setCell ⟨V, 3, none⟩ u3).setCell ⟨V, 4, none⟩ u4).setCell ⟨V, 5, none⟩ u5) g A c l i m0 m1 m2 m3 m4 :=
  (((((h.far hV 0 u0).far hV 1 u1).far hV 2 u2).far hV 3 u3).far hV 4 u4).far hV 5 u5
theorem FS.set6 {S : Nat → Prop} {w0 : World} (h : FS S w0 w) {V : Nat} (hV : w0.heap.size ≤ V) (u0 u1 u2 u3 u4 u5 : Value) : FS S w0 ((((((w.setCell ⟨V, 0, none⟩ u0).setCell ⟨V, 1, none⟩ u1).setCell ⟨V, 2, none⟩ u2).setCell ⟨V, 3, none⟩ u3).setCell ⟨V, 4, none⟩ u4).setCell ⟨V, 5, none⟩ u5) :=
  (((((h.set (p := ⟨V, 0, none⟩) (.inr hV) u0).set (p := ⟨V, 1, none⟩) (.inr hV) u1).set (p := ⟨V, 2, none⟩) (.inr hV) u2).set (p := ⟨V, 3, none⟩) (.inr hV) u3).set (p := ⟨V, 4, none⟩) (.inr hV) u4).set (p := ⟨V, 5, none⟩) (.inr hV) u5
theorem BytesH.set6 {ok : Nat → Prop} {v : Value} {bs : List UInt8} (h : BytesH w ok v bs) {V : Nat} {cs : Array Value} (hb : Blk w V 45 cs) (u0 u1 u2 u3 u4 u5 : Value) : BytesH ((((((w.setCell ⟨V, 0, none⟩ u0).setCell ⟨V, 1, none⟩ u1).setCell ⟨V, 2, none⟩ u2).setCell ⟨V, 3, none⟩ u3).setCell ⟨V, 4, none⟩ u4).setCell ⟨V, 5, none⟩ u5) ok v bs :=
  h.fs (S := (· = V)) ((((((((FS.refl (· = V) w).set (p := ⟨V, 0, none⟩) (.inl rfl) u0).set (p := ⟨V, 1, none⟩) (.inl rfl) u1).set (p := ⟨V, 2, none⟩) (.inl rfl) u2).set (p := ⟨V, 3, none⟩) (.inl rfl) u3).set (p := ⟨V, 4, none⟩) (.inl rfl) u4).set (p := ⟨V, 5, none⟩) (.inl rfl) u5)) (fun b hb' e => .inl (by subst e; exact ⟨_, _, _, hb, by decide, by decide, by decide⟩))
theorem PE.set6 {x : Int} {p : Nat} (h : PE w g x p) {V : Nat} (hV : g < V) (u0 u1 u2 u3 u4 u5 : Value) : PE ((((((w.setCell ⟨V, 0, none⟩ u0).setCell ⟨V, 1, none⟩ u1).setCell ⟨V, 2, none⟩ u2).setCell ⟨V, 3, none⟩ u3).setCell ⟨V, 4, none⟩ u4).setCell ⟨V, 5, none⟩ u5) g x p := by
  have hk : ∀ o, ((((((w.setCell ⟨V, 0, none⟩ u0).setCell ⟨V, 1, none⟩ u1).setCell ⟨V, 2, none⟩ u2).setCell ⟨V, 3, none⟩ u3).setCell ⟨V, 4, none⟩ u4).setCell ⟨V, 5, none⟩ u5).cell? ⟨g, o, none⟩ = w.cell? ⟨g, o, none⟩ := fun o =>
    World.cell?_of_block (by
      simp only
      rw [Below.heap_setCell _ ⟨V, 5, none⟩ _ g (by simp; omega), Below.heap_setCell _ ⟨V, 4, none⟩ _ g (by simp; omega), Below.heap_setCell _ ⟨V, 3, none⟩ _ g (by simp; omega), Below.heap_setCell _ ⟨V, 2, none⟩ _ g (by simp; omega), Below.heap_setCell _ ⟨V, 1, none⟩ _ g (by simp; omega), Below.heap_setCell _ ⟨V, 0, none⟩ _ g (by simp; omega)])
  exact ⟨(hk 2).trans h.1, (hk 3).trans h.2⟩
/-- Hexadecimal strings, and all others, are not too long. -/
def SmallL (l : List Tok) : Prop := ∀ i, (tk l i).2.1.size ≤ 1000000
set_option maxRecDepth 100000 in
set_option maxHeartbeats 16000000 in
theorem value_q (h : PQ w g A c l i m0 m1 m2 m3 m4) (hN : NumsL l) (hXs : SmallL l) :
    Calls Tryz.prog 131 #[.pointer (some ⟨g, 0, none⟩)] w (PostT (valueT l i) g (· = g) w (GivesVal g A c l m0 m1 m2 m3 m4 w) (fun e => e = .returned (.tuple #[.agg #[.int .i64 0, .int .i64 0, .slice none 0 0, .slice none 0 0, .int .i64 0, .slice none 0 0], .bool false]))) := by
  have HF0 := hide ((FS.refl (· = g) w).alloc (.cells #[.int .i64 0, .int .i64 0, .slice none 0 0, .slice none 0 0, .int .i64 0, .slice none 0 0] 45))
  have HV0 := hide (Blk.new w 45 #[.int .i64 0, .int .i64 0, .slice none 0 0, .slice none 0 0, .int .i64 0, .slice none 0 0])
  have HP0 := hide (h.keeps ((Keeps.refl w).alloc (.cells #[.int .i64 0, .int .i64 0, .slice none 0 0, .slice none 0 0, .int .i64 0, .slice none 0 0] 45)))
  have HN := hide (now_q (unhide HP0))
  have hgV := h.lt
  have hN3 := hN i
  generalize hkk : (tk l i).1 = k at HN hN3
  generalize hxx : (tk l i).2.1 = x at HN hN3
  generalize ((tk l i).2.2 : Nat) = a at HN
  rcases show k = 3 ∨ k = 2 ∨ k = 4 ∨ k = 7 ∨ (k ≠ 3 ∧ k ≠ 2 ∧ k ≠ 4 ∧ k ≠ 7) by omega with rfl | rfl | rfl | rfl | ⟨q1, q2, q3, q4⟩
  · have E := hide (show valueT l i = .ok ({ kind := 2, n := numT x }, i + 1) by simp only [valueT]; rw [hkk, hxx]; rfl)
    have EN := number_eq hkk
    rw [hxx] at EN
    have HEN := hide EN
    clear EN hkk hxx hN3
    go_enter Tryz.func131, Tryz.ntmps131
    go_wp2_with fail
    refine (unhide HN).mono ?_
    rintro e w1 ⟨rfl, hk⟩
    have HT1 := hide (Blk.new w1 53 #[.int .i64 3, .string x, .int .i64 (a : Nat)])
    have HK1 := hide (hk.alloc (.cells #[.int .i64 3, .string x, .int .i64 (a : Nat)] 53))
    have HP1 := hide ((unhide HP0).keeps (unhide HK1))
    have HV1 := hide ((unhide HV0).keeps (unhide HK1))
    have HF1 := hide ((unhide HF0).keeps (unhide HK1))
    have hT0 := (unhide HT1).cell 0
    have hV1 : w.heap.size < w1.heap.size := by have := hk.size; rw [World.size_alloc] at this; omega
    clear hk HN
    have HQ := hide (number_q (unhide HP1) hN)
    rw [unhide HEN] at HQ
    go_wp2_with fail
    refine (unhide HQ).mono ?_
    rintro e w2 ⟨⟨rfl, hp⟩, hf⟩
    have HP2 := hide hp
    have HV2 := hide (hf.blk1 (unhide HV1) hgV)
    have HF2 := hide ((unhide HF1).trans hf)
    clear hp hf HQ
    obtain ⟨hvc, hvf, _⟩ := (unhide HV2).facts
    go_wp2
    have HO := hide (val_out (unhide HV2) (.int .i64 2) (.int .i64 (numT x)) (.slice none 0 0) (.slice none 0 0) (.int .i64 0) (.slice none 0 0))
    (try simp only [Exit.inBlock, Exit.then]); refine bodyPost_ret (results_val rfl rfl (unhide HO) (val_load (unhide HO))) rfl ?_
    rw [unhide E]
    exact ⟨⟨_, rfl, (unhide HP2).set6 hgV _ _ _ _ _ _, BytesH.nil _ _⟩, (unhide HF2).set6 (Nat.le_refl _) _ _ _ _ _ _⟩
  · have E := hide (show valueT l i = .ok ({ kind := 3, b := x.data.toList }, i + 1) by simp only [valueT]; rw [hkk, hxx]; rfl)
    have HSK := hide (show skT l i = i + 1 by rw [skT, hkk]; rfl)
    clear hkk hxx hN3
    go_enter Tryz.func131, Tryz.ntmps131
    go_wp2_with fail
    refine (unhide HN).mono ?_
    rintro e w1 ⟨rfl, hk⟩
    have HT1 := hide (Blk.new w1 53 #[.int .i64 2, .string x, .int .i64 (a : Nat)])
    have HK1 := hide (hk.alloc (.cells #[.int .i64 2, .string x, .int .i64 (a : Nat)] 53))
    have HP1 := hide ((unhide HP0).keeps (unhide HK1))
    have HV1 := hide ((unhide HV0).keeps (unhide HK1))
    have HF1 := hide ((unhide HF0).keeps (unhide HK1))
    have hT0 := (unhide HT1).cell 0
    have hV1 : w.heap.size < w1.heap.size := by have := hk.size; rw [World.size_alloc] at this; omega
    clear hk HN
    have HCV := hide (fun w => Lib.run_convert_string_bytes (P := Tryz.prog) w 9 41 5 x Tryz.underlying9 Tryz.underlying41 Tryz.underlying5)
    have HQ := hide (skip_q (unhide HP1))
    rw [unhide HSK] at HQ
    go_wp2_with fail
    refine (unhide HQ).mono ?_
    rintro e w2 ⟨rfl, hp, hf⟩
    have hkb : Keeps w2 (Lib.bytesWorld w2 5 x) := Lib.bytesWorld_below _ _ _
    have HT2 : Hid (w2.cell? ⟨w1.heap.size, 1, none⟩ = some (.string x)) := by have := (hf.blk (unhide HT1) (by omega)).cell 1; exact this
    have HBY := hide (BytesH.of_str w2 (fun b => w.heap.size ≤ b) x (by have := hf.2.2.2.1; rw [World.size_alloc] at this; omega))
    have HP2 := hide (hp.keeps hkb)
    have HV2 := hide ((hf.blk (unhide HV1) hgV).keeps hkb)
    have HF2 := hide (((unhide HF1).fr hf rfl).keeps hkb)
    have hT2 := unhide HT2
    clear hp hf HQ hT0 hkb
    have hCV := unhide HCV w2
    obtain ⟨hvc, hvf, _⟩ := (unhide HV2).facts
    go_wp2
    have HO := hide (val_out (unhide HV2) (.int .i64 3) (.int .i64 0) (.slice (some ⟨w2.heap.size, 0, none⟩) x.size (grownCap w2 x.size 0 5)) (.slice none 0 0) (.int .i64 0) (.slice none 0 0))
    (try simp only [Exit.inBlock, Exit.then]); refine bodyPost_ret (results_val rfl rfl (unhide HO) (val_load (unhide HO))) rfl ?_
    rw [unhide E]
    exact ⟨⟨_, rfl, (unhide HP2).set6 hgV _ _ _ _ _ _, (unhide HBY).set6 (unhide HV2) _ _ _ _ _ _⟩, (unhide HF2).set6 (Nat.le_refl _) _ _ _ _ _ _⟩
  · have E := hide (show valueT l i = .ok ({ kind := 5, b := hexB x.data.toList }, i + 1) by simp only [valueT]; rw [hkk, hxx]; rfl)
    have ET := tok_eq hkk (by decide)
    rw [hxx] at ET
    have HET := hide ET
    have HXS := hide (hXs i)
    rw [hxx] at HXS
    clear ET hkk hxx hN3
    go_enter Tryz.func131, Tryz.ntmps131
    go_wp2_with fail
    refine (unhide HN).mono ?_
    rintro e w1 ⟨rfl, hk⟩
    have HT1 := hide (Blk.new w1 53 #[.int .i64 4, .string x, .int .i64 (a : Nat)])
    have HK1 := hide (hk.alloc (.cells #[.int .i64 4, .string x, .int .i64 (a : Nat)] 53))
    have HP1 := hide ((unhide HP0).keeps (unhide HK1))
    have HV1 := hide ((unhide HV0).keeps (unhide HK1))
    have HF1 := hide ((unhide HF0).keeps (unhide HK1))
    have hT0 := (unhide HT1).cell 0
    have hV1 : w.heap.size < w1.heap.size := by have := hk.size; rw [World.size_alloc] at this; omega
    clear hk HN
    have HQ := hide (hex_q (unhide HP1) (unhide HET) (unhide HXS))
    go_wp2_with fail
    refine (unhide HQ).mono ?_
    rintro e w2 ⟨vb, rfl, hp, hf, hb⟩
    have HP2 := hide hp
    have HV2 := hide (hf.blk1 (unhide HV1) hgV)
    have HF2 := hide ((unhide HF1).trans hf)
    have hsz := (unhide HF1).size
    have HBY := hide (hb.imp (ok' := fun b => w.heap.size ≤ b) (fun b _ q => Nat.le_trans hsz q))
    obtain ⟨Ab, cb, rfl, -, -⟩ := unhide HBY
    clear hp hf hb HQ hsz
    obtain ⟨hvc, hvf, _⟩ := (unhide HV2).facts
    go_wp2
    have HO := hide (val_out (unhide HV2) (.int .i64 5) (.int .i64 0) (.slice Ab (hexB x.data.toList).length cb) (.slice none 0 0) (.int .i64 0) (.slice none 0 0))
    (try simp only [Exit.inBlock, Exit.then]); refine bodyPost_ret (results_val rfl rfl (unhide HO) (val_load (unhide HO))) rfl ?_
    rw [unhide E]
    exact ⟨⟨_, rfl, (unhide HP2).set6 hgV _ _ _ _ _ _, (unhide HBY).set6 (unhide HV2) _ _ _ _ _ _⟩, (unhide HF2).set6 (Nat.le_refl _) _ _ _ _ _ _⟩
  · have E := hide (show valueT l i = .ok ({ kind := 6, b := x.data.toList }, i + 1) by simp only [valueT]; rw [hkk, hxx]; rfl)
    have HSK := hide (show skT l i = i + 1 by rw [skT, hkk]; rfl)
    clear hkk hxx hN3
    go_enter Tryz.func131, Tryz.ntmps131
    go_wp2_with fail
    refine (unhide HN).mono ?_
    rintro e w1 ⟨rfl, hk⟩
    have HT1 := hide (Blk.new w1 53 #[.int .i64 7, .string x, .int .i64 (a : Nat)])
    have HK1 := hide (hk.alloc (.cells #[.int .i64 7, .string x, .int .i64 (a : Nat)] 53))
    have HP1 := hide ((unhide HP0).keeps (unhide HK1))
    have HV1 := hide ((unhide HV0).keeps (unhide HK1))
    have HF1 := hide ((unhide HF0).keeps (unhide HK1))
    have hT0 := (unhide HT1).cell 0
    have hV1 : w.heap.size < w1.heap.size := by have := hk.size; rw [World.size_alloc] at this; omega
    clear hk HN
    have HCV := hide (fun w => Lib.run_convert_string_bytes (P := Tryz.prog) w 9 41 5 x Tryz.underlying9 Tryz.underlying41 Tryz.underlying5)
    have HQ := hide (skip_q (unhide HP1))
    rw [unhide HSK] at HQ
    go_wp2_with fail
    refine (unhide HQ).mono ?_
    rintro e w2 ⟨rfl, hp, hf⟩
    have hkb : Keeps w2 (Lib.bytesWorld w2 5 x) := Lib.bytesWorld_below _ _ _
    have HT2 : Hid (w2.cell? ⟨w1.heap.size, 1, none⟩ = some (.string x)) := by have := (hf.blk (unhide HT1) (by omega)).cell 1; exact this
    have HBY := hide (BytesH.of_str w2 (fun b => w.heap.size ≤ b) x (by have := hf.2.2.2.1; rw [World.size_alloc] at this; omega))
    have HP2 := hide (hp.keeps hkb)
    have HV2 := hide ((hf.blk (unhide HV1) hgV).keeps hkb)
    have HF2 := hide (((unhide HF1).fr hf rfl).keeps hkb)
    have hT2 := unhide HT2
    clear hp hf HQ hT0 hkb
    have hCV := unhide HCV w2
    obtain ⟨hvc, hvf, _⟩ := (unhide HV2).facts
    go_wp2
    have HO := hide (val_out (unhide HV2) (.int .i64 6) (.int .i64 0) (.slice (some ⟨w2.heap.size, 0, none⟩) x.size (grownCap w2 x.size 0 5)) (.slice none 0 0) (.int .i64 0) (.slice none 0 0))
    (try simp only [Exit.inBlock, Exit.then]); refine bodyPost_ret (results_val rfl rfl (unhide HO) (val_load (unhide HO))) rfl ?_
    rw [unhide E]
    exact ⟨⟨_, rfl, (unhide HP2).set6 hgV _ _ _ _ _ _, (unhide HBY).set6 (unhide HV2) _ _ _ _ _ _⟩, (unhide HF2).set6 (Nat.le_refl _) _ _ _ _ _ _⟩
  · have e1 : (k == 3) = false := by simp [q1]
    have e2 : (k == 2) = false := by simp [q2]
    have e3 : (k == 4) = false := by simp [q3]
    have e4 : (k == 7) = false := by simp [q4]
    have EV := hide (show valueT l i = (if isT l i wTRUE = true then .ok ({ kind := 1, n := 1 }, i + 1) else if isT l i wFALSE = true then .ok ({ kind := 1 }, i + 1) else if isT l i wNULL = true then .ok ({ kind := 4 }, i + 1) else errT l i 7) by simp only [valueT]; rw [hkk, if_neg q1, if_neg q2, if_neg q3, if_neg q4])
    clear hkk hxx hN3 q1 q2 q3 q4
    go_enter Tryz.func131, Tryz.ntmps131
    go_wp2_with fail
    refine (unhide HN).mono ?_
    rintro e w1 ⟨rfl, hk⟩
    have HT1 := hide (Blk.new w1 53 #[.int .i64 k, .string x, .int .i64 (a : Nat)])
    have HK1 := hide (hk.alloc (.cells #[.int .i64 k, .string x, .int .i64 (a : Nat)] 53))
    have HP1 := hide ((unhide HP0).keeps (unhide HK1))
    have HV1 := hide ((unhide HV0).keeps (unhide HK1))
    have HF1 := hide ((unhide HF0).keeps (unhide HK1))
    have hT0 := (unhide HT1).cell 0
    have hV1 : w.heap.size < w1.heap.size := by have := hk.size; rw [World.size_alloc] at this; omega
    clear hk HN
    rcases Bool.eq_false_or_eq_true (isT l i wTRUE) with hb11 | hb11
    · have E11 := hide hb11
      clear hb11
      go_wp2_with fail
      refine (take_y (unhide HP1) (unhide E11)).mono ?_
      rintro e w12 ⟨rfl, hp, hf⟩
      have HP12 := hide hp
      have HF12 := hide ((unhide HF1).fr hf rfl)
      have HV12 := hide (hf.blk (unhide HV1) hgV)
      clear hp hf hT0
      have E := hide (show valueT l i = .ok ({ kind := 1, n := 1 }, i + 1) by rw [unhide EV]; simp [unhide E11])
      obtain ⟨hvc, hvf, _⟩ := (unhide HV12).facts
      go_wp2
      have HO := hide (val_out (unhide HV12) (.int .i64 1) (.int .i64 1) (.slice none 0 0) (.slice none 0 0) (.int .i64 0) (.slice none 0 0))
      (try simp only [Exit.inBlock, Exit.then]); refine bodyPost_ret (results_val rfl rfl (unhide HO) (val_load (unhide HO))) rfl ?_
      rw [unhide E]
      exact ⟨⟨_, rfl, (unhide HP12).set6 hgV _ _ _ _ _ _, BytesH.nil _ _⟩, (unhide HF12).set6 (Nat.le_refl _) _ _ _ _ _ _⟩
    · have E11 := hide hb11
      clear hb11
      go_wp2_with fail
      refine (take_n (unhide HP1) (unhide E11)).mono ?_
      rintro e w13 ⟨rfl, hp, hf⟩
      have HP13 := hide hp
      have HF13 := hide ((unhide HF1).fr hf rfl)
      have HV13 := hide (hf.blk (unhide HV1) hgV)
      clear hp hf hT0
      rcases Bool.eq_false_or_eq_true (isT l i wFALSE) with hb14 | hb14
      · have E14 := hide hb14
        clear hb14
        go_wp2_with fail
        refine (take_y (unhide HP13) (unhide E14)).mono ?_
        rintro e w15 ⟨rfl, hp, hf⟩
        have HP15 := hide hp
        have HF15 := hide ((unhide HF13).fr hf rfl)
        have HV15 := hide (hf.blk (unhide HV13) hgV)
        clear hp hf
        have E := hide (show valueT l i = .ok ({ kind := 1, n := 0 }, i + 1) by rw [unhide EV]; simp [unhide E11, unhide E14])
        obtain ⟨hvc, hvf, _⟩ := (unhide HV15).facts
        go_wp2
        have HO := hide (val_out (unhide HV15) (.int .i64 1) (.int .i64 0) (.slice none 0 0) (.slice none 0 0) (.int .i64 0) (.slice none 0 0))
        (try simp only [Exit.inBlock, Exit.then]); refine bodyPost_ret (results_val rfl rfl (unhide HO) (val_load (unhide HO))) rfl ?_
        rw [unhide E]
        exact ⟨⟨_, rfl, (unhide HP15).set6 hgV _ _ _ _ _ _, BytesH.nil _ _⟩, (unhide HF15).set6 (Nat.le_refl _) _ _ _ _ _ _⟩
      · have E14 := hide hb14
        clear hb14
        go_wp2_with fail
        refine (take_n (unhide HP13) (unhide E14)).mono ?_
        rintro e w16 ⟨rfl, hp, hf⟩
        have HP16 := hide hp
        have HF16 := hide ((unhide HF13).fr hf rfl)
        have HV16 := hide (hf.blk (unhide HV13) hgV)
        clear hp hf
        rcases Bool.eq_false_or_eq_true (isT l i wNULL) with hb17 | hb17
        · have E17 := hide hb17
          clear hb17
          go_wp2_with fail
          refine (take_y (unhide HP16) (unhide E17)).mono ?_
          rintro e w18 ⟨rfl, hp, hf⟩
          have HP18 := hide hp
          have HF18 := hide ((unhide HF16).fr hf rfl)
          have HV18 := hide (hf.blk (unhide HV16) hgV)
          clear hp hf
          have E := hide (show valueT l i = .ok ({ kind := 4, n := 0 }, i + 1) by rw [unhide EV]; simp [unhide E11, unhide E14, unhide E17])
          obtain ⟨hvc, hvf, _⟩ := (unhide HV18).facts
          go_wp2
          have HO := hide (val_out (unhide HV18) (.int .i64 4) (.int .i64 0) (.slice none 0 0) (.slice none 0 0) (.int .i64 0) (.slice none 0 0))
          (try simp only [Exit.inBlock, Exit.then]); refine bodyPost_ret (results_val rfl rfl (unhide HO) (val_load (unhide HO))) rfl ?_
          rw [unhide E]
          exact ⟨⟨_, rfl, (unhide HP18).set6 hgV _ _ _ _ _ _, BytesH.nil _ _⟩, (unhide HF18).set6 (Nat.le_refl _) _ _ _ _ _ _⟩
        · have E17 := hide hb17
          clear hb17
          go_wp2_with fail
          refine (take_n (unhide HP16) (unhide E17)).mono ?_
          rintro e w19 ⟨rfl, hp, hf⟩
          have HP19 := hide hp
          have HF19 := hide ((unhide HF16).fr hf rfl)
          have HV19 := hide (hf.blk (unhide HV16) hgV)
          clear hp hf
          go_wp2_with fail
          refine (stop_q (unhide HP19) 7).mono ?_
          rintro e w20 ⟨rfl, hp, hf⟩
          have HP20 := hide hp
          have HF20 := hide ((unhide HF19).fr hf rfl)
          have HV20 := hide (hf.blk (unhide HV19) hgV)
          clear hp hf
          obtain ⟨hvc, hvf, _⟩ := (unhide HV20).facts
          go_wp2
          have HO := hide (val_out (unhide HV20) (.int .i64 0) (.int .i64 0) (.slice none 0 0) (.slice none 0 0) (.int .i64 0) (.slice none 0 0))
          (try simp only [Exit.inBlock, Exit.then]); refine bodyPost_ret (results_val rfl rfl (unhide HO) (val_load (unhide HO))) rfl ?_
          have hE : valueT l i = .error ((tk l i).2.2, 7) := by rw [unhide EV]; simp [errT, unhide E11, unhide E14, unhide E17]
          rw [hE]
          exact ⟨⟨rfl, (unhide HP20).set6 hgV _ _ _ _ _ _⟩, (unhide HF20).set6 (Nat.le_refl _) _ _ _ _ _ _⟩
end
end Go.Proofs.YtckcbgijddglpaaGreatDoor
