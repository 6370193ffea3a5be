/- The parser: what its calls leave alone; tokens, numbers; nodes in memory; a bound. -/
import Derived.Test.YtckcbgijddglpaaGreatDoorSyn4
import Derived.Lib.ConvBytes
import Derived.Deep.RegionHeld3
namespace Go.Proofs.YtckcbgijddglpaaGreatDoor
open Go.ChangeShapes Go.WideShapes Go.ChangeAt Go.RowKit Go.PlainAid
set_option linter.unusedVariables false
set_option linter.unusedSimpArgs false

/-- But for the blocks of S all is as it was. -/
def FS (S : Nat → Prop) (w w' : World) : Prop := w'.os = w.os ∧ w'.tape = w.tape ∧ w'.output = w.output ∧ w.heap.size ≤ w'.heap.size ∧ ∀ b, b < w.heap.size → ¬ S b → w'.heap[b]? = w.heap[b]?
section
variable {S S' S1 S2 : Nat → Prop} {w w' w2 a b c : World}
theorem FS.refl (S : Nat → Prop) (w : World) : FS S w w := ⟨rfl, rfl, rfl, Nat.le_refl _, fun _ _ _ => rfl⟩
theorem FS.size (h : FS S w w') : w.heap.size ≤ w'.heap.size := h.2.2.2.1
theorem FS.trans2 (h : FS S1 a b) (k : FS S2 b c) (h1 : ∀ x, x < a.heap.size → S1 x → S x) (h2 : ∀ x, x < a.heap.size → S2 x → S x) : FS S a c :=
  ⟨k.1.trans h.1, k.2.1.trans h.2.1, k.2.2.1.trans h.2.2.1, Nat.le_trans h.2.2.2.1 k.2.2.2.1, fun x hx hg => (k.2.2.2.2 x (Nat.lt_of_lt_of_le hx h.2.2.2.1) (fun q => hg (h2 x hx q))).trans (h.2.2.2.2 x hx (fun q => hg (h1 x hx q)))⟩
theorem FS.trans (h : FS S a b) (k : FS S b c) : FS S a c := h.trans2 k (fun _ _ q => q) (fun _ _ q => q)
theorem FS.weak (h : FS S w w') (hs : ∀ x, x < w.heap.size → S x → S' x) : FS S' w w' := ⟨h.1, h.2.1, h.2.2.1, h.2.2.2.1, fun x hx hg => h.2.2.2.2 x hx (fun q => hg (hs x hx q))⟩
theorem FS.of_fr {g : Nat} (h : Fr g w w') (hg : S g) : FS S w w' := ⟨h.1, h.2.1, h.2.2.1, h.2.2.2.1, fun x hx hn => h.2.2.2.2 x hx (fun e => hn (e ▸ hg))⟩
theorem FS.of_keeps (k : Keeps w w') : FS S w w' := ⟨k.os, k.tape, k.output, k.size, fun b hb _ => k.block b hb⟩
theorem FS.keeps (h : FS S w w') (k : Keeps w' w2) : FS S w w2 := h.trans (FS.of_keeps k)
theorem FS.fr {g : Nat} (h : FS S w w') (k : Fr g w' w2) (hg : S g) : FS S w w2 := h.trans (FS.of_fr k hg)
theorem FS.drewN (h : FS S w w') (n : Nat) : FS S w (w'.drewN n) := h
theorem FS.drew (h : FS S w w') : FS S w w'.drew := h
theorem FS.alloc (h : FS S w w') (o : Obj) : FS S w (w'.alloc o) := h.keeps ((Keeps.refl w').alloc o)
theorem FS.set (h : FS S w w') {p : Addr} (hp : S p.block ∨ w.heap.size ≤ p.block) (u : Value) : FS S w (w'.setCell p u) := by
  have k := (Below.refl 0 w').setCell (p := p) (Nat.zero_le _) u
  refine ⟨k.os.trans h.1, k.tape.trans h.2.1, k.output.trans h.2.2.1, Nat.le_trans h.2.2.2.1 k.size, fun b hb hn => ?_⟩
  refine (Below.heap_setCell w' p u b ?_).trans (h.2.2.2.2 b hb hn)
  rintro rfl
  rcases hp with hp | hp
  · exact hn hp
  · omega
theorem FS.grown {row : Option Nat} (h : FS S w w') (hg : w'.grownBy w2 row) (hr : ∀ b, row = some b → S b ∨ w.heap.size ≤ b) : FS S w w2 := by
  refine ⟨hg.os.trans h.1, hg.tape.trans h.2.1, hg.output.trans h.2.2.1, Nat.le_trans h.2.2.2.1 hg.size, fun b hb hn => (hg.block b (Nat.lt_of_lt_of_le hb h.2.2.2.1) ?_).trans (h.2.2.2.2 b hb hn)⟩
  intro e
  rcases hr b e.symm with q | q
  · exact hn q
  · omega
theorem FS.blk {g : Nat} {t : TypeId} {cs : Array Value} (h : FS S w w') (hb : Blk w g t cs) (hn : ¬ S g) : Blk w' g t cs := (h.2.2.2.2 g hb.lt hn).trans hb
theorem FS.own {base : Nat} {e : TypeId} {size : Nat} {v : Value} {n : Nat} {xs : List Value} (h : FS S w w') (ho : w.ownsRow base e size v n xs) (hn : ∀ b, v.ownBlock = some b → ¬ S b) : w'.ownsRow base e size v n xs :=
  own_kept ho fun b hb => h.2.2.2.2 b (own_lt ho b hb).2 (hn b hb)
theorem FS.below {base : Nat} (h : FS S w w') (hs : ∀ b, b < base → ¬ S b) (hb : base ≤ w.heap.size) : Below base w w' := ⟨h.1, h.2.1, h.2.2.1, h.2.2.2.1, fun b hb' => h.2.2.2.2 b (by omega) (hs b hb')⟩
theorem FS.held {A : Option Addr} {l : List Tok} (h : FS S w w') (hh : HoldsK w A l) (hn : ∀ b, A.map (·.block) = some b → ¬ S b) : HoldsK w' A l := by
  refine ⟨hh.1, fun q => ?_⟩
  obtain ⟨ad, e, hb, hc⟩ := hh.2 q
  refine ⟨ad, e, Nat.lt_of_lt_of_le hb h.size, fun j u hu => ?_⟩
  rw [World.cell?_of_block (w := w) (h.2.2.2.2 (ad.add j).block (by rw [block_of_add]; exact hb) (by rw [block_of_add]; exact hn _ (by rw [e]; rfl)))]
  exact hc j u hu
end
theorem own_type {w : World} {base : Nat} {e : TypeId} {size : Nat} {v : Value} {n : Nat} {xs : List Value} (h : w.ownsRow base e size v n xs) {b : Nat} {t : TypeId} {cs : Array Value} (hb : Blk w b t cs) (hne : e ≠ t) : v.ownBlock ≠ some b := by
  intro q
  rcases h.2 with ⟨rfl, _⟩ | ⟨g, cap, cur, rfl, _, hgg, _⟩
  · cases q
  · have q2 : g = b := by injection q
    subst q2
    exact (Blk.ne_ (w := w) (g := g) (g' := g) hgg hb hne) rfl

/-- The parser goes on: no error so far. -/
def PQ (w : World) (g : Nat) (A : Option Addr) (c : Nat) (l : List Tok) (i : Nat) (m0 m1 m2 m3 m4 : Value) : Prop :=
  PS w g A c l i 0 0 m0 m1 m2 m3 m4 ∧ (∀ b, A.map (·.block) = some b → b < g) ∧ i ≤ l.length ∧ l.length ≤ 10000
/-- The parser has an error, at a place. -/
def PE (w : World) (g : Nat) (x : Int) (p : Nat) : Prop := w.cell? ⟨g, 2, none⟩ = some (.int .i64 x) ∧ w.cell? ⟨g, 3, none⟩ = some (.int .i64 (p : Nat))
section
variable {w w' : World} {g : Nat} {A : Option Addr} {c : Nat} {l : List Tok} {i : Nat} {m0 m1 m2 m3 m4 : Value}
theorem PQ.lt (h : PQ w g A c l i m0 m1 m2 m3 m4) : g < w.heap.size := h.1.1.lt
theorem PQ.blk (h : PQ w g A c l i m0 m1 m2 m3 m4) : Blk w g 59 #[.slice A l.length c, .int .i64 (i : Nat), .int .i64 0, .int .i64 0, m0, m1, m2, m3, m4] := h.1.1
theorem PQ.fs {S : Nat → Prop} (h : PQ w g A c l i m0 m1 m2 m3 m4) (k : FS S w w') (hS : ∀ b, b ≤ g → ¬ S b) : PQ w' g A c l i m0 m1 m2 m3 m4 :=
  ⟨⟨k.blk h.1.1 (hS g (Nat.le_refl _)), k.held h.1.2 fun b hb => hS b (Nat.le_of_lt (h.2.1 b hb))⟩, h.2⟩
theorem PQ.keeps (h : PQ w g A c l i m0 m1 m2 m3 m4) (k : Keeps w w') : PQ w' g A c l i m0 m1 m2 m3 m4 := ⟨h.1.keeps k, h.2⟩
/-- A cell of a younger block is written. -/
theorem PQ.far (h : PQ w g A c l i m0 m1 m2 m3 m4) {n : Nat} (hn : g < n) (o : Nat) (u : Value) : PQ (w.setCell ⟨n, o, none⟩ u) g A c l i m0 m1 m2 m3 m4 :=
  h.fs (S := (· = n)) ((FS.refl (· = n) w).set (p := ⟨n, o, none⟩) (.inl rfl) u) (fun b hb e => by omega)
theorem PQ.ne (h : PQ w g A c l i m0 m1 m2 m3 m4) : ∀ b, A.map (·.block) = some b → b ≠ g := fun b hb => by have := h.2.1 b hb; omega
theorem PS.err {er : Int} {pl : Nat} (h : PS w g A c l i er pl m0 m1 m2 m3 m4) : PE w g er pl := ⟨by simpa using h.1.cell 2, by simpa using h.1.cell 3⟩
end
/-- What a reading call of the parser gives: on success okv, else an error and bad. -/
def PostT {α : Type} (r : Except SErr α) (g : Nat) (S : Nat → Prop) (w : World) (okv : α → Ending → World → Prop) (bad : Ending → Prop) (e : Ending) (w' : World) : Prop :=
  (match r with | .ok a => okv a e w' | .error (p, x) => bad e ∧ PE w' g x p) ∧ FS S w w'
def No (e : Ending) : Prop := e = .returned (.bool false)
def Yes (e : Ending) : Prop := e = .returned (.bool true)
theorem tk_end_le {l : List Tok} {i : Nat} (hi : i ≤ l.length) (h : (tk l i).1 ≠ 0) : i + 1 ≤ l.length := by
  rcases Nat.lt_or_ge i l.length with q | q
  · exact q
  · rw [tk_past q] at h; exact absurd rfl h
theorem isT_ne {l : List Tok} {i : Nat} {s : ByteArray} (h : isT l i s = true) : (tk l i).1 ≠ 0 := by
  simp only [isT, Bool.and_eq_true, Bool.or_eq_true, decide_eq_true_eq] at h
  rcases h.1 with h | h <;> rw [h] <;> decide
theorem skT_le {l : List Tok} {i : Nat} (hi : i ≤ l.length) : skT l i ≤ l.length := by
  rw [skT]; split
  · exact hi
  · exact tk_end_le hi (by assumption)
section
variable {w : World} {g : Nat} {A : Option Addr} {c : Nat} {l : List Tok} {i : Nat} {m0 m1 m2 m3 m4 : Value}
/-- Take, of a parser that goes on. -/
theorem take_q (h : PQ w g A c l i m0 m1 m2 m3 m4) (s : ByteArray) :
    Calls Tryz.prog 68 #[.pointer (some ⟨g, 0, none⟩), .string s] w fun e w' => e = .returned (.bool (isT l i s)) ∧ PQ w' g A c l (if isT l i s = true then i + 1 else i) m0 m1 m2 m3 m4 ∧ Fr g w w' := by
  obtain ⟨hp, hA, hi, hl⟩ := h
  refine (take_any hp (PQ.ne ⟨hp, hA, hi, hl⟩) (by omega) (by omega) s).mono ?_
  rintro e w' ⟨he, h1, h2⟩
  refine ⟨he, ⟨h1, hA, ?_, hl⟩, h2⟩
  split
  · exact tk_end_le hi (isT_ne (by assumption))
  · exact hi
theorem is_q (h : PQ w g A c l i m0 m1 m2 m3 m4) (s : ByteArray) :
    Calls Tryz.prog 90 #[.pointer (some ⟨g, 0, none⟩), .string s] w fun e w' => e = .returned (.bool (isT l i s)) ∧ Keeps w w' := is_any h.1 (by have := h.2.2; omega) (by have := h.2.2; omega) s
theorem now_q (h : PQ w g A c l i m0 m1 m2 m3 m4) :
    Calls Tryz.prog 65 #[.pointer (some ⟨g, 0, none⟩)] w fun e w' => e = .returned (.agg #[.int .i64 (tk l i).1, .string (tk l i).2.1, .int .i64 ((tk l i).2.2 : Nat)]) ∧ Keeps w w' := now_any h.1 (by have := h.2.2; omega) (by have := h.2.2; omega)
theorem skip_q (h : PQ w g A c l i m0 m1 m2 m3 m4) :
    Calls Tryz.prog 67 #[.pointer (some ⟨g, 0, none⟩)] w fun e w' => e = .returned (.tuple #[]) ∧ PQ w' g A c l (skT l i) m0 m1 m2 m3 m4 ∧ Fr g w w' := by
  obtain ⟨hp, hA, hi, hl⟩ := h
  refine (skipTok_any hp (PQ.ne ⟨hp, hA, hi, hl⟩) (by omega) (by omega)).mono ?_
  rintro e w' ⟨he, h1, h2⟩
  exact ⟨he, ⟨h1, hA, skT_le hi, hl⟩, h2⟩
theorem stop_q (h : PQ w g A c l i m0 m1 m2 m3 m4) (x : Int) :
    Calls Tryz.prog 66 #[.pointer (some ⟨g, 0, none⟩), .int .i64 x] w fun e w' => e = .returned (.bool false) ∧ PE w' g x (tk l i).2.2 ∧ Fr g w w' := by
  obtain ⟨hp, hA, hi, hl⟩ := h
  refine (stop_any hp (PQ.ne ⟨hp, hA, hi, hl⟩) (by omega) (by omega) x).mono ?_
  rintro e w' ⟨he, h1, h2⟩
  exact ⟨he, h1.err, h2⟩
theorem stopAt_q (h : PQ w g A c l i m0 m1 m2 m3 m4) (p : Nat) (x : Int) :
    Calls Tryz.prog 89 #[.pointer (some ⟨g, 0, none⟩), .int .i64 (p : Nat), .int .i64 x] w fun e w' => e = .returned (.bool false) ∧ PE w' g x p ∧ Fr g w w' := by
  obtain ⟨hp, hA, hi, hl⟩ := h
  refine (stopAt_any hp (PQ.ne ⟨hp, hA, hi, hl⟩) p x).mono ?_
  rintro e w' ⟨he, h1, h2⟩
  exact ⟨he, h1.err, h2⟩
set_option maxRecDepth 100000 in
set_option maxHeartbeats 4000000 in
theorem want_q (h : PQ w g A c l i m0 m1 m2 m3 m4) (s : ByteArray) :
    Calls Tryz.prog 30 #[.pointer (some ⟨g, 0, none⟩), .string s] w (PostT (wantT l i s) g (· = g) w (fun j e w' => Yes e ∧ PQ w' g A c l j m0 m1 m2 m3 m4) No) := by
  have HT := hide (take_q h s)
  have HW := hide (show wantT l i s = if isT l i s = true then .ok (i + 1) else errT l i 7 from rfl)
  clear h
  cases hb : isT l i s with
  | true =>
    rw [hb] at HT HW
    clear hb
    go_enter Tryz.func30, Tryz.ntmps30
    go_wp2_with fail
    refine (unhide HT).mono ?_
    rintro e w1 ⟨rfl, hp, hf⟩
    have HP := hide hp
    have HF := hide hf
    clear hp hf
    go_wp2
    go_ret
    rw [unhide HW]
    exact ⟨⟨rfl, unhide HP⟩, FS.of_fr (unhide HF) rfl⟩
  | false =>
    rw [hb] at HT HW
    clear hb
    go_enter Tryz.func30, Tryz.ntmps30
    go_wp2_with fail
    refine (unhide HT).mono ?_
    rintro e w1 ⟨rfl, hp, hf⟩
    have HS := hide (stop_q hp 7)
    have HF := hide hf
    clear hp hf
    go_wp2_with fail
    refine (unhide HS).mono ?_
    rintro e w2 ⟨rfl, hp, hf⟩
    have HP := hide hp
    have HF2 := hide hf
    clear hp hf
    go_wp2
    go_ret
    rw [unhide HW]
    exact ⟨⟨rfl, unhide HP⟩, FS.of_fr ((unhide HF).trans (unhide HF2)) rfl⟩
end
end Go.Proofs.YtckcbgijddglpaaGreatDoor
namespace Go.Proofs.YtckcbgijddglpaaGreatDoor
open Go.ChangeShapes Go.WideShapes Go.ChangeAt Go.RowKit Go.PlainAid
set_option linter.unusedVariables false
set_option linter.unusedSimpArgs false

/-- Each number among the tokens is one of 64 bits. -/
def NumsL (l : List Tok) : Prop := ∀ i, (tk l i).1 = 3 → (tk l i).2.1.size ≤ 1000000 ∧ Lib.parseIntB 64 (tk l i).2.1.data.toList = .ok (numT (tk l i).2.1)
section
variable {w : World} {g : Nat} {A : Option Addr} {c : Nat} {l : List Tok} {i : Nat} {m0 m1 m2 m3 m4 : Value}
theorem tok_new {w W1 : World} (k a : Int) (x : ByteArray) (w : World) : Blk (w.alloc (.cells #[.int .i64 k, .string x, .int .i64 a] 53)) w.heap.size 53 #[.int .i64 k, .string x, .int .i64 a] := Blk.new _ _ _
set_option maxRecDepth 100000 in
set_option maxHeartbeats 4000000 in
theorem token_q (h : PQ w g A c l i m0 m1 m2 m3 m4) (k : Int) :
    Calls Tryz.prog 29 #[.pointer (some ⟨g, 0, none⟩), .int .i64 k] w (PostT (tokT l i k) g (· = g) w (fun r e w' => e = .returned (.tuple #[.string r.1, .bool true]) ∧ PQ w' g A c l r.2 m0 m1 m2 m3 m4) (fun e => e = .returned (.tuple #[.string ⟨#[]⟩, .bool false]))) := by
  have HN := hide (now_q h)
  have HSk := hide (fun (w1 : World) (hk : Keeps w w1) => skip_q (h.keeps hk))
  have HSt := hide (fun (w1 : World) (hk : Keeps w w1) => stop_q (h.keeps hk) 7)
  have HG := hide h.lt
  have HW := hide (show tokT l i k = if (tk l i).1 = k then .ok ((tk l i).2.1, skT l i) else .error ((tk l i).2.2, 7) from rfl)
  clear h
  generalize tk l i = t at *
  obtain ⟨k', x, a⟩ := t
  by_cases q : k' = k
  · have q2 : (k' != k) = false := by simp [q]
    have HW2 := hide (show tokT l i k = .ok (x, skT l i) by rw [unhide HW]; exact if_pos q)
    clear q
    go_enter Tryz.func29, Tryz.ntmps29
    go_wp2_with fail
    refine (unhide HN).mono ?_
    rintro e w1 ⟨rfl, hk⟩
    have HK := hide hk
    have HB := hide (Blk.new w1 53 #[.int .i64 k', .string x, .int .i64 (a : Nat)])
    clear hk
    go_wp2_with fail
    refine (unhide HSk _ ((unhide HK).alloc _)).mono ?_
    rintro e w2 ⟨rfl, hp, hf⟩
    have HP := hide hp
    have HF := hide (((Fr.refl g w).keeps ((unhide HK).alloc _)).trans hf)
    have hx : w2.cell? ⟨w1.heap.size, 1, none⟩ = some (.string x) := by
      have hb : Blk w2 w1.heap.size 53 #[.int .i64 k', .string x, .int .i64 (a : Nat)] := (hf.2.2.2.2 w1.heap.size (unhide HB).lt (by have := unhide HG; have := (unhide HK).size; omega)).trans (unhide HB)
      exact hb.cell 1
    clear hp hf
    go_wp2
    go_ret2
    rw [unhide HW2]
    exact ⟨⟨rfl, unhide HP⟩, FS.of_fr (unhide HF) rfl⟩
  · have q2 : (k' != k) = true := by rw [bne_iff_ne]; exact q
    have HW2 := hide (show tokT l i k = .error (a, 7) by rw [unhide HW]; exact if_neg q)
    clear q
    go_enter Tryz.func29, Tryz.ntmps29
    go_wp2_with fail
    refine (unhide HN).mono ?_
    rintro e w1 ⟨rfl, hk⟩
    have HK := hide hk
    clear hk
    go_wp2_with fail
    refine (unhide HSt _ ((unhide HK).alloc _)).mono ?_
    rintro e w2 ⟨rfl, hp, hf⟩
    have HP := hide hp
    have HF := hide (((Fr.refl g w).keeps ((unhide HK).alloc _)).trans hf)
    clear hp hf
    go_wp2
    go_ret2
    rw [unhide HW2]
    exact ⟨⟨rfl, unhide HP⟩, FS.of_fr (unhide HF) rfl⟩
set_option maxRecDepth 100000 in
set_option maxHeartbeats 4000000 in
theorem number_q (h : PQ w g A c l i m0 m1 m2 m3 m4) (hN : NumsL l) :
    Calls Tryz.prog 106 #[.pointer (some ⟨g, 0, none⟩)] w (PostT (numberT l i) g (· = g) w (fun r e w' => e = .returned (.tuple #[.int .i64 r.1, .bool true]) ∧ PQ w' g A c l r.2 m0 m1 m2 m3 m4) (fun e => e = .returned (.tuple #[.int .i64 0, .bool false]))) := by
  have HT := hide (token_q h 3)
  cases hr : tokT l i 3 with
  | error q =>
    obtain ⟨p, x⟩ := q
    have HW := hide (show numberT l i = .error (p, x) by rw [numberT, hr]; rfl)
    rw [hr] at HT
    clear hr h
    go_enter Tryz.func106, Tryz.ntmps106
    go_wp2_with fail
    refine (unhide HT).mono ?_
    rintro e w1 ⟨⟨rfl, hpe⟩, hf⟩
    have HP := hide hpe
    have HF := hide hf
    clear hpe hf
    go_wp2
    go_ret2
    rw [unhide HW]
    exact ⟨⟨rfl, unhide HP⟩, unhide HF⟩
  | ok r =>
    obtain ⟨x, j⟩ := r
    have HW := hide (show numberT l i = .ok (numT x, j) by rw [numberT, hr]; rfl)
    have hx : x.size ≤ 1000000 ∧ Lib.parseIntB 64 x.data.toList = .ok (numT x) := by
      rw [tokT] at hr
      split at hr
      · have := hN i (by assumption)
        injection hr with hr; injection hr with h1 h2
        rw [← h1]; exact this
      · cases hr
    rw [hr] at HT
    have HPI := hide (fun w => Tryz.strconv_ParseInt_10_at64_ok x (by omega) (numT x) hx.2 w)
    clear hr h hx
    generalize numT x = v at *
    go_enter Tryz.func106, Tryz.ntmps106
    go_wp2_with fail
    refine (unhide HT).mono ?_
    rintro e w1 ⟨⟨rfl, hpe⟩, hf⟩
    have HP := hide hpe
    have HF := hide hf
    clear hpe hf
    go_wp2_with fail
    refine (unhide HPI _).mono ?_
    rintro e w2 ⟨rfl, hw⟩
    have HK : Hid (Keeps w1 w2) := by
      rcases hw with rfl | ⟨t, rfl⟩
      · exact Keeps.refl _
      · exact Lib.bytesWorld_below _ _ _
    clear hw
    go_wp2
    go_ret2
    rw [unhide HW]
    exact ⟨⟨rfl, (unhide HP).keeps (unhide HK)⟩, (unhide HF).keeps (unhide HK)⟩
end
end Go.Proofs.YtckcbgijddglpaaGreatDoor
namespace Go.Proofs.YtckcbgijddglpaaGreatDoor
open Go.ChangeShapes Go.WideShapes Go.ChangeAt Go.RowKit Go.PlainAid
set_option linter.unusedVariables false
set_option linter.unusedSimpArgs false

/-- The cells of a node: its items' slice vi, its fields' slice vf. -/
def nodeC (n : NodeV) (vi vf : Value) : Array Value :=
  #[.int .i64 n.kind, .string n.name, .bool n.mHas, .int .i64 n.mNum, .int .i64 n.mMode, .bool n.con.has, .bool n.con.hasLow, .bool n.con.hasHigh, .bool n.con.more, .int .i64 n.con.low, .int .i64 n.con.high, vi, vf, .int .i64 (n.root : Nat), .bool n.more, .int .i64 (n.of : Nat)]
def NB (w : World) (b : Nat) (n : NodeV) (vi vf : Value) : Prop := Blk w b 40 (nodeC n vi vf)
theorem NB.put {w : World} {b : Nat} {n : NodeV} {vi vf : Value} (h : NB w b n vi vf) (o : Nat) (u : Value) {n' : NodeV} {vi' vf' : Value} (e : (nodeC n vi vf).setIfInBounds o u = nodeC n' vi' vf') : NB (w.setCell ⟨b, o, none⟩ u) b n' vi' vf' := by
  have := Blk.set_ h o u
  rw [e] at this
  exact this
/-- A list lies in a row of its own, in a block that ok allows. -/
def RowH (w : World) (ok : Nat → Prop) (e : TypeId) (size : Nat) (v : Value) (n : Nat) (xs : List Value) : Prop := w.ownsRow 0 e size v n xs ∧ ∀ b, v.ownBlock = some b → ok b
def itemC (x : ItemV) : List Value := [.string x.name, .int .i64 x.number, .bool x.has]
def itemsC (l : List ItemV) : List Value := l.flatMap itemC
def ItemsH (w : World) (ok : Nat → Prop) (v : Value) (l : List ItemV) : Prop := RowH w ok 97 3 v l.length (itemsC l)
def fieldC (x : FieldV) (vb : Value) : List Value := [.string x.name, .int .i64 (x.type : Nat), .bool x.optional, .bool x.has, .int .i64 x.dflt.kind, .int .i64 x.dflt.n, vb, .slice none 0 0, .int .i64 0, .slice none 0 0, .int .i64 (x.group : Nat)]
def fieldsC (l : List (FieldV × Value)) : List Value := l.flatMap fun q => fieldC q.1 q.2
def bytesC (l : List UInt8) : List Value := l.map fun b => .int .u8 (b.toNat : Nat)
def BytesH (w : World) (ok : Nat → Prop) (v : Value) (l : List UInt8) : Prop :=
  ∃ A c, v = .slice A l.length c ∧ l.length ≤ c ∧ (l ≠ [] → ∃ b cs fr, A = some ⟨b, 0, none⟩ ∧ ok b ∧ w.heap[b]? = some (.cells cs 5 fr) ∧ ∀ (j : Nat) (u : Value), (bytesC l)[j]? = some u → cs[j]? = some u)
def FieldsH (w : World) (ok : Nat → Prop) (v : Value) (l : List FieldV) : Prop :=
  ∃ qs : List (FieldV × Value), qs.map (·.1) = l ∧ RowH w ok 47 11 v l.length (fieldsC qs) ∧ ∀ q ∈ qs, BytesH w ok q.2 q.1.dflt.b
def nodesC (l : List (NodeV × Value × Value)) : List Value := l.flatMap fun q => (nodeC q.1 q.2.1 q.2.2).toList
def NodesH (w : World) (g : Nat) (ok : Nat → Prop) (v : Value) (l : List NodeV) : Prop :=
  ∃ qs : List (NodeV × Value × Value), qs.map (·.1) = l ∧ w.ownsRow (g + 1) 40 16 v l.length (nodesC qs) ∧ ∀ q ∈ qs, ItemsH w ok q.2.1 q.1.items ∧ FieldsH w ok q.2.2 q.1.fields

theorem RowH.imp {w : World} {ok ok' : Nat → Prop} {e : TypeId} {size : Nat} {v : Value} {n : Nat} {xs : List Value} (h : RowH w ok e size v n xs) (hk : ∀ b, b < w.heap.size → ok b → ok' b) : RowH w ok' e size v n xs := ⟨h.1, fun b hb => hk b (own_lt h.1 b hb).2 (h.2 b hb)⟩
theorem BytesH.imp {w : World} {ok ok' : Nat → Prop} {v : Value} {l : List UInt8} (h : BytesH w ok v l) (hk : ∀ b, b < w.heap.size → ok b → ok' b) : BytesH w ok' v l := by
  obtain ⟨A, c, h1, h2, h3⟩ := h
  refine ⟨A, c, h1, h2, fun hn => ?_⟩
  obtain ⟨b, cs, fr, e, hb, hh, hc⟩ := h3 hn
  exact ⟨b, cs, fr, e, hk b (Array.getElem?_eq_some_iff.1 hh).1 hb, hh, hc⟩
theorem BytesH.nil (w : World) (ok : Nat → Prop) : BytesH w ok (.slice none 0 0) [] := ⟨none, 0, rfl, Nat.le_refl _, fun h => absurd rfl h⟩
theorem BytesH.of_own {w : World} {ok : Nat → Prop} {base : Nat} {v : Value} {l : List UInt8} (h : w.ownsRow base 5 1 v l.length (bytesC l)) (hk : ∀ b, base ≤ b → ok b) : BytesH w ok v l := by
  rcases h.2 with ⟨rfl, hn⟩ | ⟨g, cap, cur, rfl, hb, hg, hle, _, hs, ht⟩
  · have : l = [] := List.eq_nil_of_length_eq_zero hn
    subst this
    exact BytesH.nil _ _
  · refine ⟨_, cap, rfl, hle, fun _ => ⟨g, cur, _, rfl, hk g hb, hg, fun j u hu => ?_⟩⟩
    rw [← ht, List.getElem?_take] at hu
    split at hu
    · simpa using hu
    · cases hu
/-- The bytes of a string, converted. -/
theorem BytesH.of_str (w : World) (ok : Nat → Prop) (s : ByteArray) (hk : ok w.heap.size) : BytesH (Lib.bytesWorld w 5 s) ok (.slice (some ⟨w.heap.size, 0, none⟩) s.size (grownCap w s.size 0 5)) s.data.toList := by
  refine ⟨_, _, by rw [← Lib.size_eq], by rw [← Lib.size_eq]; exact grownCap_ge _ _ _ _, fun _ => ⟨w.heap.size, _, _, rfl, hk, Lib.bytesWorld_at_new w _ s, fun j u hu => ?_⟩⟩
  rw [bytesC, List.getElem?_map] at hu
  obtain ⟨b, hb, rfl⟩ := Option.map_eq_some_iff.1 hu
  have hj : j < s.data.size := by
    have := (List.getElem?_eq_some_iff.1 hb).1
    simpa using this
  have hb' : s.data[j] = b := by
    have := (List.getElem?_eq_some_iff.1 hb).2
    simpa using this
  simp only [Lib.bytesCells]
  rw [Array.getElem?_append_left (by simpa using hj)]
  have e : s.data[j]? = some b := by rw [Array.getElem?_eq_getElem hj, hb']
  simp [e]
theorem FieldsH.imp {w : World} {ok ok' : Nat → Prop} {v : Value} {l : List FieldV} (h : FieldsH w ok v l) (hk : ∀ b, b < w.heap.size → ok b → ok' b) : FieldsH w ok' v l := by
  obtain ⟨qs, h1, h2, h3⟩ := h
  exact ⟨qs, h1, h2.imp hk, fun q hq => (h3 q hq).imp hk⟩
theorem NodesH.imp {w : World} {g : Nat} {ok ok' : Nat → Prop} {v : Value} {l : List NodeV} (h : NodesH w g ok v l) (hk : ∀ b, b < w.heap.size → ok b → ok' b) : NodesH w g ok' v l := by
  obtain ⟨qs, h1, h2, h3⟩ := h
  exact ⟨qs, h1, h2, fun q hq => ⟨(h3 q hq).1.imp hk, (h3 q hq).2.imp hk⟩⟩
/-- What S may turn is of another type, or not ok. -/
def Clear (w : World) (S ok : Nat → Prop) : Prop := ∀ b, b < w.heap.size → S b → (∃ cs t f, w.heap[b]? = some (.cells cs t f) ∧ t ≠ 97 ∧ t ≠ 47 ∧ t ≠ 5) ∨ ¬ ok b
theorem RowH.fs {w w' : World} {S ok : Nat → Prop} {e : TypeId} {size : Nat} {v : Value} {n : Nat} {xs : List Value} (h : RowH w ok e size v n xs) (k : FS S w w') (hS : Clear w S ok) (he : e = 97 ∨ e = 47 ∨ e = 5) : RowH w' ok e size v n xs := by
  refine ⟨k.own h.1 fun b hb hs => ?_, h.2⟩
  rcases hS b (own_lt h.1 b hb).2 hs with ⟨cs, t, f, hc, h1, h2, h3⟩ | q
  · rcases h.1.2 with ⟨rfl, _⟩ | ⟨g, cap, cur, rfl, _, hgg, _⟩
    · cases hb
    · have q2 : g = b := by injection hb
      subst q2
      rw [hgg] at hc
      injection hc with hc
      injection hc with _ ht
      subst ht
      rcases he with he | he | he
      · exact h1 he
      · exact h2 he
      · exact h3 he
  · exact q (h.2 b hb)
theorem BytesH.fs {w w' : World} {S ok : Nat → Prop} {v : Value} {l : List UInt8} (h : BytesH w ok v l) (k : FS S w w') (hS : Clear w S ok) : BytesH w' ok v l := by
  obtain ⟨A, c, h1, h2, h3⟩ := h
  refine ⟨A, c, h1, h2, fun hn => ?_⟩
  obtain ⟨b, cs, fr, e, hb, hh, hc⟩ := h3 hn
  have hlt := (Array.getElem?_eq_some_iff.1 hh).1
  refine ⟨b, cs, fr, e, hb, (k.2.2.2.2 b hlt fun hs => ?_).trans hh, hc⟩
  rcases hS b hlt hs with ⟨cs', t, f, hc', _, _, h3'⟩ | q
  · rw [hh] at hc'
    injection hc' with hc'
    injection hc' with _ ht
    exact h3' ht.symm
  · exact q hb
theorem ItemsH.fs {w w' : World} {S ok : Nat → Prop} {v : Value} {l : List ItemV} (h : ItemsH w ok v l) (k : FS S w w') (hS : Clear w S ok) : ItemsH w' ok v l := RowH.fs h k hS (.inl rfl)
theorem FieldsH.fs {w w' : World} {S ok : Nat → Prop} {v : Value} {l : List FieldV} (h : FieldsH w ok v l) (k : FS S w w') (hS : Clear w S ok) : FieldsH w' ok v l := by
  obtain ⟨qs, h1, h2, h3⟩ := h
  exact ⟨qs, h1, h2.fs k hS (.inr (.inl rfl)), fun q hq => (h3 q hq).fs k hS⟩
theorem NodesH.fs {w w' : World} {g : Nat} {S ok : Nat → Prop} {v : Value} {l : List NodeV} (h : NodesH w g ok v l) (k : FS S w w') (hS : Clear w S ok) (hv : ∀ b, v.ownBlock = some b → ¬ S b) : NodesH w' g ok v l := by
  obtain ⟨qs, h1, h2, h3⟩ := h
  exact ⟨qs, h1, k.own h2 hv, fun q hq => ⟨(h3 q hq).1.fs k hS, (h3 q hq).2.fs k hS⟩⟩
theorem clear_none (w : World) (ok : Nat → Prop) : Clear w (fun _ => False) ok := fun _ _ h => h.elim
theorem NodesH.keeps {w w' : World} {g : Nat} {ok : Nat → Prop} {v : Value} {l : List NodeV} (h : NodesH w g ok v l) (k : Keeps w w') : NodesH w' g ok v l := h.fs (FS.of_keeps k) (clear_none w ok) (fun _ _ q => q)
theorem FieldsH.keeps {w w' : World} {ok : Nat → Prop} {v : Value} {l : List FieldV} (h : FieldsH w ok v l) (k : Keeps w w') : FieldsH w' ok v l := h.fs (FS.of_keeps k) (clear_none w ok)
theorem ItemsH.keeps {w w' : World} {ok : Nat → Prop} {v : Value} {l : List ItemV} (h : ItemsH w ok v l) (k : Keeps w w') : ItemsH w' ok v l := h.fs (FS.of_keeps k) (clear_none w ok)
theorem clear_typ {w : World} {S ok : Nat → Prop} (h : ∀ b, b < w.heap.size → S b → (∃ cs t f, w.heap[b]? = some (.cells cs t f) ∧ t ≠ 97 ∧ t ≠ 47 ∧ t ≠ 5)) : Clear w S ok := fun b hb hs => .inl (h b hb hs)
theorem NodesH.typ {w : World} {g : Nat} {ok : Nat → Prop} {v : Value} {l : List NodeV} (h : NodesH w g ok v l) {b : Nat} (hb : v.ownBlock = some b) : ∃ cs t f, w.heap[b]? = some (.cells cs t f) ∧ t ≠ 97 ∧ t ≠ 47 ∧ t ≠ 5 := by
  obtain ⟨qs, h1, h2, h3⟩ := h
  rcases h2.2 with ⟨rfl, _⟩ | ⟨g, cap, cur, rfl, _, hgg, _⟩
  · cases hb
  · have q2 : g = b := by injection hb
    subst q2
    exact ⟨_, _, _, hgg, by decide, by decide, by decide⟩
theorem NB.typ {w : World} {b : Nat} {n : NodeV} {vi vf : Value} (h : NB w b n vi vf) : ∃ cs t f, w.heap[b]? = some (.cells cs t f) ∧ t ≠ 97 ∧ t ≠ 47 ∧ t ≠ 5 := ⟨_, _, _, h, by decide, by decide, by decide⟩
theorem PQ.typ {w : World} {g : Nat} {A : Option Addr} {c : Nat} {l : List Tok} {i : Nat} {m0 m1 m2 m3 m4 : Value} (h : PQ w g A c l i m0 m1 m2 m3 m4) : ∃ cs t f, w.heap[g]? = some (.cells cs t f) ∧ t ≠ 97 ∧ t ≠ 47 ∧ t ≠ 5 := ⟨_, _, _, h.1.1, by decide, by decide, by decide⟩
theorem NodesH.own_lt {w : World} {g : Nat} {ok : Nat → Prop} {v : Value} {l : List NodeV} (h : NodesH w g ok v l) : ∀ b, v.ownBlock = some b → g < b ∧ b < w.heap.size := by
  obtain ⟨qs, h1, h2, h3⟩ := h
  exact fun b hb => ⟨(World.ownsRow.lt h2 b hb).1, (World.ownsRow.lt h2 b hb).2⟩
end Go.Proofs.YtckcbgijddglpaaGreatDoor
namespace Go.Proofs.YtckcbgijddglpaaGreatDoor
open Go.ChangeShapes Go.WideShapes Go.ChangeAt Go.RowKit Go.PlainAid
set_option linter.unusedVariables false
set_option linter.unusedSimpArgs false

section
variable {w : World} {g : Nat} {A : Option Addr} {c : Nat} {l : List Tok} {i : Nat} {m0 m1 m2 m3 m4 : Value}
theorem take_y (h : PQ w g A c l i m0 m1 m2 m3 m4) {s : ByteArray} (hb : isT l i s = true) :
    Calls Tryz.prog 68 #[.pointer (some ⟨g, 0, none⟩), .string s] w fun e w' => e = .returned (.bool true) ∧ PQ w' g A c l (i + 1) m0 m1 m2 m3 m4 ∧ Fr g w w' := by
  have := take_q h s
  rw [hb] at this
  exact this
theorem take_n (h : PQ w g A c l i m0 m1 m2 m3 m4) {s : ByteArray} (hb : isT l i s = false) :
    Calls Tryz.prog 68 #[.pointer (some ⟨g, 0, none⟩), .string s] w fun e w' => e = .returned (.bool false) ∧ PQ w' g A c l i m0 m1 m2 m3 m4 ∧ Fr g w w' := by
  have := take_q h s
  rw [hb] at this
  exact this
theorem is_y (h : PQ w g A c l i m0 m1 m2 m3 m4) {s : ByteArray} {b : Bool} (hb : isT l i s = b) :
    Calls Tryz.prog 90 #[.pointer (some ⟨g, 0, none⟩), .string s] w fun e w' => e = .returned (.bool b) ∧ PQ w' g A c l i m0 m1 m2 m3 m4 ∧ Fr g w w' := by
  have := is_q h s
  rw [hb] at this
  refine this.mono ?_
  rintro e w' ⟨he, hk⟩
  exact ⟨he, h.keeps hk, (Fr.refl g w).keeps hk⟩
theorem want_y (h : PQ w g A c l i m0 m1 m2 m3 m4) {s : ByteArray} {j : Nat} (hb : wantT l i s = .ok j) :
    Calls Tryz.prog 30 #[.pointer (some ⟨g, 0, none⟩), .string s] w fun e w' => e = .returned (.bool true) ∧ PQ w' g A c l j m0 m1 m2 m3 m4 ∧ FS (· = g) w w' := by
  have := want_q h s
  rw [hb] at this
  refine this.mono ?_
  rintro e w' ⟨⟨he, hp⟩, hf⟩
  exact ⟨he, hp, hf⟩
theorem want_n (h : PQ w g A c l i m0 m1 m2 m3 m4) {s : ByteArray} {p : Nat} {x : Int} (hb : wantT l i s = .error (p, x)) :
    Calls Tryz.prog 30 #[.pointer (some ⟨g, 0, none⟩), .string s] w fun e w' => e = .returned (.bool false) ∧ PE w' g x p ∧ FS (· = g) w w' := by
  have := want_q h s
  rw [hb] at this
  refine this.mono ?_
  rintro e w' ⟨⟨he, hp⟩, hf⟩
  exact ⟨he, hp, hf⟩
/-- The parser's block, and another one. -/
abbrev S2 (g n : Nat) : Nat → Prop := fun b => b = g ∨ b = n
theorem FS.fr2 {n : Nat} {w w1 w2 : World} (h : FS (S2 g n) w w1) (k : Fr g w1 w2) : FS (S2 g n) w w2 := h.fr k (.inl rfl)
theorem FS.fs2 {n : Nat} {w w1 w2 : World} (h : FS (S2 g n) w w1) (k : FS (· = g) w1 w2) : FS (S2 g n) w w2 := h.trans (k.weak fun x _ e => .inl e)
theorem FS.set2 {n : Nat} {w w1 : World} (h : FS (S2 g n) w w1) (o : Nat) (u : Value) : FS (S2 g n) w (w1.setCell ⟨n, o, none⟩ u) := h.set (.inl (.inr rfl)) u
theorem Fr.blk {w w1 : World} {n : Nat} {t : TypeId} {cs : Array Value} (k : Fr g w w1) (h : Blk w n t cs) (hn : g < n) : Blk w1 n t cs := (k.2.2.2.2 n h.lt (by omega)).trans h
theorem FS.blk1 {w w1 : World} {n : Nat} {t : TypeId} {cs : Array Value} (k : FS (· = g) w w1) (h : Blk w n t cs) (hn : g < n) : Blk w1 n t cs := k.blk h (by omega)

set_option maxRecDepth 100000 in
set_option maxHeartbeats 4000000 in
theorem bound_q (h : PQ w g A c l i m0 m1 m2 m3 m4) (hN : NumsL l) {n : Nat} {t : TypeId} {cs : Array Value} (hB : Blk w n t cs) (hn : g < n) {o1 o2 : Nat} (h1 : o1 < cs.size) (h2 : o2 < cs.size) :
    Calls Tryz.prog 130 #[.pointer (some ⟨g, 0, none⟩), .pointer (some ⟨n, o1, none⟩), .pointer (some ⟨n, o2, none⟩)] w
      (PostT (numberT l i) g (S2 g n) w (fun r e w' => Yes e ∧ PQ w' g A c l r.2 m0 m1 m2 m3 m4 ∧ Blk w' n t ((cs.setIfInBounds o1 (.int .i64 r.1)).setIfInBounds o2 (.bool true))) No) := by
  have HT := hide (number_q h hN)
  have hg := h.lt
  clear h
  cases hr : numberT l i with
  | error q =>
    obtain ⟨p, x⟩ := q
    rw [hr] at HT
    clear hr
    go_enter Tryz.func130, Tryz.ntmps130
    go_wp2_with fail
    refine (unhide HT).mono ?_
    rintro e w1 ⟨⟨rfl, hpe⟩, hf⟩
    have HP := hide hpe
    have HF := hide hf
    have hb := hf.blk1 hB hn
    have c1 : w1.cell? ⟨n, o1, none⟩ = some cs[o1] := by rw [hb.cell]; exact Array.getElem?_eq_getElem h1
    have c2 : w1.cell? ⟨n, o2, none⟩ = some cs[o2] := by rw [hb.cell]; exact Array.getElem?_eq_getElem h2
    have f1 := hb.frozen o1
    have f2 := hb.frozen o2
    generalize cs[o1] = u1 at c1
    generalize cs[o2] = u2 at c2
    obtain ⟨u3, c3⟩ := cell?_setCell_some (w := w1) (p := ⟨n, o1, none⟩) (x := .int .i64 0) (q := ⟨n, o2, none⟩) (v := u2) c2
    clear hpe hf hb
    go_wp2
    go_ret
    refine ⟨⟨rfl, ?_⟩, ?_⟩
    · have hne : n ≠ g := by omega
      refine ⟨?_, ?_⟩
      · rw [World.cell?_of_block (Below.heap_setCell _ ⟨n, o2, none⟩ _ g (by simp; omega)), World.cell?_of_block (Below.heap_setCell _ ⟨n, o1, none⟩ _ g (by simp; omega))]; exact (unhide HP).1
      · rw [World.cell?_of_block (Below.heap_setCell _ ⟨n, o2, none⟩ _ g (by simp; omega)), World.cell?_of_block (Below.heap_setCell _ ⟨n, o1, none⟩ _ g (by simp; omega))]; exact (unhide HP).2
    · exact (((FS.refl (S2 g n) w).fs2 (unhide HF)).set2 o1 _).set2 o2 _
  | ok r =>
    obtain ⟨v, j⟩ := r
    rw [hr] at HT
    clear hr
    go_enter Tryz.func130, Tryz.ntmps130
    go_wp2_with fail
    refine (unhide HT).mono ?_
    rintro e w1 ⟨⟨rfl, hpe⟩, hf⟩
    have HP := hide hpe
    have HF := hide hf
    have hb := hf.blk1 hB hn
    have HB := hide hb
    have c1 : w1.cell? ⟨n, o1, none⟩ = some cs[o1] := by rw [hb.cell]; exact Array.getElem?_eq_getElem h1
    have c2 : w1.cell? ⟨n, o2, none⟩ = some cs[o2] := by rw [hb.cell]; exact Array.getElem?_eq_getElem h2
    have f1 := hb.frozen o1
    have f2 := hb.frozen o2
    generalize cs[o1] = u1 at c1
    generalize cs[o2] = u2 at c2
    obtain ⟨u3, c3⟩ := cell?_setCell_some (w := w1) (p := ⟨n, o1, none⟩) (x := .int .i64 v) (q := ⟨n, o2, none⟩) (v := u2) c2
    clear hpe hf hb
    go_wp2
    go_ret
    exact ⟨⟨rfl, ((unhide HP).far hn o1 _).far hn o2 _, ((unhide HB).set_ o1 _).set_ o2 _⟩, (((FS.refl (S2 g n) w).fs2 (unhide HF)).set2 o1 _).set2 o2 _⟩
end
end Go.Proofs.YtckcbgijddglpaaGreatDoor
