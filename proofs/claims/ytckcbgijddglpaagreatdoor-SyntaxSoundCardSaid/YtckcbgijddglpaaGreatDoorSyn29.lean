/- Parse. -/
import Derived.Test.YtckcbgijddglpaaGreatDoorSyn28
namespace Go.Proofs.YtckcbgijddglpaaGreatDoor
open Go.ChangeShapes Go.WideShapes Go.ChangeAt Go.RowKit Go.PlainAid
set_option linter.unusedVariables false
set_option linter.unusedSimpArgs false
/-- A module as it lies in memory, from a block on. -/
def ModH (w : World) (B : Nat) (m2 m3 m4 : Value) (m : ModV) : Prop :=
  ∃ g, B ≤ g ∧ w.ownsRow (g + 1) 9 1 m2 m.names.length (strsC m.names) ∧ w.ownsRow (g + 1) 3 1 m3 m.types.length (intsC m.types) ∧ NodesH w g (g < ·) m4 m.nodes ∧ m.nodes.length ≤ 300 ∧ m.types.length = m.names.length ∧ m.names.length ≤ 40
/-- What Parse hands back. -/
def GivesMod (r : Except SErr ModV) (w : World) (e : Ending) (w' : World) : Prop :=
  match r with
  | .error (p, x) => e = .returned (.tuple #[.agg #[.string ⟨#[]⟩, .int .i64 0, .slice none 0 0, .slice none 0 0, .slice none 0 0], .int .i64 (p : Nat), .int .i64 x]) ∧ Keeps w w'
  | .ok m => ∃ A2 c2 A3 c3 A4 c4, e = .returned (.tuple #[.agg #[.string m.name, .int .i64 m.tagging, .slice A2 m.names.length c2, .slice A3 m.types.length c3, .slice A4 m.nodes.length c4], .int .i64 0, .int .i64 0]) ∧ ModH w' w.heap.size (.slice A2 m.names.length c2) (.slice A3 m.types.length c3) (.slice A4 m.nodes.length c4) m ∧ Keeps w w'
theorem mod_out {w : World} {V : Nat} {t : TypeId} {v0 v1 v2 v3 v4 : Value} (hB : Blk w V t #[v0, v1, v2, v3, v4]) (u0 u1 u2 u3 u4 : Value) :
    Blk (((((w.setCell ⟨V, 0, none⟩ u0).setCell ⟨V, 1, none⟩ u1).setCell ⟨V, 2, none⟩ u2).setCell ⟨V, 3, none⟩ u3).setCell ⟨V, 4, none⟩ u4) V t #[u0, u1, u2, u3, u4] := by
  simpa using ((((hB.set_ 0 u0).set_ 1 u1).set_ 2 u2).set_ 3 u3).set_ 4 u4
theorem mod_load {w : World} {V : Nat} {ty : TypeId} {s : ByteArray} {k : Int} {A B D : Option Addr} {x y p q x1 y1 : Nat} (hb : Blk w V ty #[.string s, .int .i64 k, .slice A x y, .slice B p q, .slice D x1 y1]) :
    (loadVar 27 ⟨V, 0, none⟩).run Tryz.prog w = .ok (.agg #[.string s, .int .i64 k, .slice A x y, .slice B p q, .slice D x1 y1]) w :=
  run_loadVar_row w V ty 27 _ (0, 0) _ hb Tryz.underlying27 rfl (by kernel_rfl)
theorem results_mod {fn : Func} {c t u : Tmp} {tmps : Array Value} {w : World} {V : Nat} {ty : TypeId} {s : ByteArray} {k : Int} {A B D : Option Addr} {x y p q x1 y1 : Nat} (h : fn.results = #[.cell c 27, .tmp t, .tmp u]) (hp : tmps.getD c undef = .pointer (some ⟨V, 0, none⟩)) (hb : Blk w V ty #[.string s, .int .i64 k, .slice A x y, .slice B p q, .slice D x1 y1]) :
    (results fn tmps).run Tryz.prog w = .ok (.tuple #[.agg #[.string s, .int .i64 k, .slice A x y, .slice B p q, .slice D x1 y1], tmps.getD t undef, tmps.getD u undef]) w := by
  have hp2 : tmps[c]?.getD undef = .pointer (some ⟨V, 0, none⟩) := by simpa using hp
  simp only [results, h]
  simp [hp2, asAddr, mod_load hb]
theorem Keeps.set5 {w0 w : World} (h : Keeps w0 w) {V : Nat} (hV : w0.heap.size ≤ V) (u0 u1 u2 u3 u4 : Value) : Keeps w0 (((((w.setCell ⟨V, 0, none⟩ u0).setCell ⟨V, 1, none⟩ u1).setCell ⟨V, 2, none⟩ u2).setCell ⟨V, 3, none⟩ u3).setCell ⟨V, 4, none⟩ u4) :=
  ((((h.setCell (p := ⟨V, 0, none⟩) hV u0).setCell (p := ⟨V, 1, none⟩) hV u1).setCell (p := ⟨V, 2, none⟩) hV u2).setCell (p := ⟨V, 3, none⟩) hV u3).setCell (p := ⟨V, 4, none⟩) hV u4
theorem ModH.set5 {w : World} {B : Nat} {m2 m3 m4 : Value} {m : ModV} (h : ModH w B m2 m3 m4 m) {V : Nat} {cs : Array Value} (hb : Blk w V 27 cs) (u0 u1 u2 u3 u4 : Value) : ModH (((((w.setCell ⟨V, 0, none⟩ u0).setCell ⟨V, 1, none⟩ u1).setCell ⟨V, 2, none⟩ u2).setCell ⟨V, 3, none⟩ u3).setCell ⟨V, 4, none⟩ u4) B m2 m3 m4 m := by
  obtain ⟨g, h1, h2, h3, h4, h5⟩ := h
  have k : FS (· = V) w (((((w.setCell ⟨V, 0, none⟩ u0).setCell ⟨V, 1, none⟩ u1).setCell ⟨V, 2, none⟩ u2).setCell ⟨V, 3, none⟩ u3).setCell ⟨V, 4, none⟩ u4) := ((((((FS.refl (· = V) w).set (p := ⟨V, 0, none⟩) (.inl rfl) u0).set (p := ⟨V, 1, none⟩) (.inl rfl) u1).set (p := ⟨V, 2, none⟩) (.inl rfl) u2).set (p := ⟨V, 3, none⟩) (.inl rfl) u3).set (p := ⟨V, 4, none⟩) (.inl rfl) u4)
  refine ⟨g, h1, k.own h2 fun b hb' e => ?_, k.own h3 fun b hb' e => ?_, h4.fs k (clear_typ fun b _ e => by subst e; exact ⟨_, _, _, hb, by decide, by decide, by decide⟩) fun b hb' e => ?_, h5⟩
  · subst e; exact own_type h2 hb (by decide) hb'
  · subst e; exact own_type h3 hb (by decide) hb'
  · subst e
    obtain ⟨qs, _, h, _⟩ := h4
    exact own_type h hb (by decide) hb'
theorem str_load {w : World} {V : Nat} {ty : TypeId} {a b d : Int} {A : Option Addr} {x y : Nat} (hb : Blk w V ty #[.slice A x y, .int .i64 a, .int .i64 b, .int .i64 d]) :
    (loadVar 56 ⟨V, 0, none⟩).run Tryz.prog w = .ok (.agg #[.slice A x y, .int .i64 a, .int .i64 b, .int .i64 d]) w :=
  run_loadVar_row w V ty 56 _ (0, 0) _ hb Tryz.underlying56 rfl (by kernel_rfl)
theorem results_str {fn : Func} {c : Tmp} {tmps : Array Value} {w : World} {V : Nat} {ty : TypeId} {a b d : Int} {A : Option Addr} {x y : Nat} (h : fn.results = #[.cell c 56]) (hp : tmps.getD c undef = .pointer (some ⟨V, 0, none⟩)) (hb : Blk w V ty #[.slice A x y, .int .i64 a, .int .i64 b, .int .i64 d]) :
    (results fn tmps).run Tryz.prog w = .ok (.agg #[.slice A x y, .int .i64 a, .int .i64 b, .int .i64 d]) w := by
  have hp2 : tmps[c]?.getD undef = .pointer (some ⟨V, 0, none⟩) := by simpa using hp
  simp only [results, h]
  simp [hp2, asAddr, str_load hb]
theorem toks_ne {s : ByteArray} {p : Nat} {x : Int} (h : toks s = .error (p, x)) : x ≠ 0 := by
  unfold toks at h
  split at h
  · cases h; decide
  · cases ht : toksAt s 0 with
    | error q => rw [ht] at h; cases h; decide
    | ok m => rw [ht] at h; cases h
theorem toks_pos {s : ByteArray} {l : List Tok} (h : toks s = .ok l) : 0 < l.length := by
  unfold toks at h
  split at h
  · cases h
  · cases ht : toksAt s 0 with
    | error p => rw [ht] at h; cases h
    | ok m => rw [ht] at h; cases h; exact (tks_ok s _ 0 _ (Nat.zero_le _) ht).1
theorem HoldsK.blk_lt {w : World} {A : Option Addr} {l : List Tok} (h : HoldsK w A l) (hl : 0 < l.length) : ∀ b, A.map (·.block) = some b → b < w.heap.size := by
  intro b hb
  obtain ⟨ad, e, h1, _⟩ := h.2 hl
  rw [e] at hb
  injection hb with hb
  subst hb; exact h1
set_option maxHeartbeats 4000000 in
theorem new_any (A : Option Addr) (n c : Nat) (w : World) : Calls Tryz.prog 12 #[.slice A n c] w fun e w' => e = .returned (.agg #[.slice A n c, .int .i64 0, .int .i64 0, .int .i64 0]) ∧ Keeps w w' := by
  go_enter Tryz.func12, Tryz.ntmps12
  go_wp2
  refine bodyPost_ret (results_str rfl rfl (Blk.new w 56 #[.slice A n c, .int .i64 0, .int .i64 0, .int .i64 0])) rfl ?_
  exact ⟨rfl, (Keeps.refl w).alloc _⟩
theorem stopped_any {w : World} {g : Nat} {x : Int} {p : Nat} (h : PE w g x p) : Calls Tryz.prog 14 #[.pointer (some ⟨g, 0, none⟩)] w fun e w' => e = .returned (.tuple #[.int .i64 (p : Nat), .int .i64 x]) ∧ Keeps w w' := by
  obtain ⟨h2, h3⟩ := h
  go_enter Tryz.func14, Tryz.ntmps14
  go_wp2
  go_quiet (fail)
  go_wp2
  go_ret2
  exact ⟨rfl, (Keeps.refl w).drewN _⟩
set_option maxRecDepth 100000 in
set_option maxHeartbeats 16000000 in
theorem parseM_any {w : World} (hL : LexW w) (s : ByteArray) (hs : s.size ≤ 1000000000) : Calls Tryz.prog 7 #[.string s] w (GivesMod (parseT (toks s)) w) := by
  have HK0 := hide ((Keeps.refl w).alloc (.cells #[.string ⟨#[]⟩, .int .i64 0, .slice none 0 0, .slice none 0 0, .slice none 0 0] 27))
  have HV0 := hide (Blk.new w 27 #[.string ⟨#[]⟩, .int .i64 0, .slice none 0 0, .slice none 0 0, .slice none 0 0])
  have HT := hide (tokens_any (hL.keeps (unhide HK0)) s hs)
  clear hL
  rcases ht : toks s with ⟨p, x⟩ | l
  · have hx0 : (x != 0) = true := by rw [bne_iff_ne]; exact toks_ne ht
    rw [ht] at HT
    clear ht
    go_enter Tryz.func7, Tryz.ntmps7
    go_wp2_with fail
    refine (unhide HT).mono ?_
    rintro e w1 ⟨rfl, hk⟩
    have HV1 := hide ((unhide HV0).keeps hk)
    have HK1 := hide (hk)
    clear hk HT
    obtain ⟨hvc, hvf, -⟩ := (unhide HV1).facts
    have HO := hide (mod_out (unhide HV1) (.string ⟨#[]⟩) (.int .i64 0) (.slice none 0 0) (.slice none 0 0) (.slice none 0 0))
    go_wp2
    refine bodyPost_ret (results_mod rfl rfl (unhide HO)) rfl ?_
    exact ⟨rfl, ((unhide HK0).trans (unhide HK1)).set5 (Nat.le_refl _) _ _ _ _ _⟩
  · rw [ht] at HT
    have hNm := toks_nums ht
    have hXs := toks_small ht
    have hll := toks_len ht
    have hlp := toks_pos ht
    clear ht
    go_enter Tryz.func7, Tryz.ntmps7
    go_wp2_with fail
    refine (unhide HT).mono ?_
    rintro e w1 ⟨A, c, rfl, ho, hk⟩
    have HH1 := hide (holdsK_of_own ho)
    have HV1 := hide ((unhide HV0).keeps hk)
    have HK1 := hide ((unhide HK0).trans hk)
    have HNW := hide (new_any A l.length c w1)
    clear hk HT ho
    go_wp2_with fail
    refine (unhide HNW).mono ?_
    rintro e w2 ⟨rfl, hk⟩
    have hka := hk.alloc (.cells #[.slice A l.length c, .int .i64 0, .int .i64 0, .int .i64 0, .string ⟨#[]⟩, .int .i64 0, .slice none 0 0, .slice none 0 0, .slice none 0 0] 59)
    have HH2 := hide ((unhide HH1).keeps hk)
    have HP2 : Hid (PQ _ w2.heap.size A c l 0 (.string ⟨#[]⟩) (.int .i64 0) (.slice none 0 0) (.slice none 0 0) (.slice none 0 0)) := ⟨⟨Blk.new w2 59 _, (unhide HH1).keeps hka⟩, fun b hb => (unhide HH2).blk_lt hlp b hb, Nat.zero_le _, by omega⟩
    have HV2 := hide ((unhide HV1).keeps hka)
    have HK2 := hide ((unhide HK1).trans hka)
    have hgw : w.heap.size < w2.heap.size := by have h1 := (unhide HV1).lt; have h2 := hk.size; omega
    have HQ := hide (module_q (unhide HP2) hNm hXs)
    clear hk hka HNW
    rcases hm : moduleT l with ⟨p, x⟩ | m
    · have HE := hide (show parseT (.ok l) = .error (p, x) from hm)
      rw [hm] at HQ
      clear hm
      go_wp2_with fail
      refine (unhide HQ).mono ?_
      rintro e w3 ⟨⟨rfl, hp⟩, hf⟩
      have HS := hide (stopped_any hp)
      have hk3 := hf.below (base := w2.heap.size) (fun b hb q => by have : w2.heap.size ≤ b := q; omega) (by rw [World.size_alloc]; omega)
      have HV3 := hide (show Blk w3 w.heap.size 27 _ from (hk3.block _ hgw).trans (unhide HV2))
      have HK3 := hide (show Keeps w w3 from Below.trans (unhide HK2) (Below.mono hk3 (by omega)))
      clear hp hf hk3 HQ
      go_wp2_with fail
      refine (unhide HS).mono ?_
      rintro e w4 ⟨rfl, hk⟩
      have HV4 := hide ((unhide HV3).keeps hk)
      have HK4 := hide ((unhide HK3).trans hk)
      clear hk
      obtain ⟨hvc, hvf, -⟩ := (unhide HV4).facts
      have HO := hide (mod_out (unhide HV4) (.string ⟨#[]⟩) (.int .i64 0) (.slice none 0 0) (.slice none 0 0) (.slice none 0 0))
      go_wp2
      refine bodyPost_ret (results_mod rfl rfl (unhide HO)) rfl ?_
      rw [unhide HE]
      exact ⟨rfl, (unhide HK4).set5 (Nat.le_refl _) _ _ _ _ _⟩
    · have HE := hide (show parseT (.ok l) = .ok m from hm)
      rw [hm] at HQ
      clear hm
      go_wp2_with fail
      refine (unhide HQ).mono ?_
      rintro e w3 ⟨⟨rfl, i, ⟨m2, m3, m4, hp, h2, h3, h4, h5⟩, -, h6, h7⟩, hf⟩
      have hk3 := hf.below (base := w2.heap.size) (fun b hb q => by have : w2.heap.size ≤ b := q; omega) (by rw [World.size_alloc]; omega)
      have HV3 := hide (show Blk w3 w.heap.size 27 _ from (hk3.block _ hgw).trans (unhide HV2))
      have HK3 := hide (show Keeps w w3 from Below.trans (unhide HK2) (Below.mono hk3 (by omega)))
      have h4' : ∃ xs, w3.ownsRow (w2.heap.size + 1) 40 16 m4 m.nodes.length xs := by
        obtain ⟨qs, _, h, _⟩ := h4
        exact ⟨_, h⟩
      obtain ⟨xs4, h4'⟩ := h4'
      obtain ⟨A2, c2, rfl, -⟩ := own_form2 h2
      obtain ⟨A3, c3, rfl, -⟩ := own_form2 h3
      obtain ⟨A4, c4, rfl, -⟩ := own_form2 h4'
      obtain ⟨hgc, hgf, -⟩ := hp.blk.facts
      obtain ⟨hvc, hvf, -⟩ := (unhide HV3).facts
      have HO := hide (mod_out (unhide HV3) (.string m.name) (.int .i64 m.tagging) (.slice A2 m.names.length c2) (.slice A3 m.types.length c3) (.slice A4 m.nodes.length c4))
      have HMH := hide (show ModH w3 w.heap.size _ _ _ m from ⟨w2.heap.size, Nat.le_of_lt hgw, h2, h3, h4, h5, h6, h7⟩)
      clear hp h2 h3 h4 h5 h6 h7 h4' hf hk3 HQ
      go_wp2
      refine bodyPost_ret (results_mod rfl rfl (unhide HO)) rfl ?_
      rw [unhide HE]
      exact ⟨A2, c2, A3, c3, A4, c4, rfl, (unhide HMH).set5 (unhide HV3) _ _ _ _ _, (unhide HK3).set5 (Nat.le_refl _) _ _ _ _ _⟩
end Go.Proofs.YtckcbgijddglpaaGreatDoor
