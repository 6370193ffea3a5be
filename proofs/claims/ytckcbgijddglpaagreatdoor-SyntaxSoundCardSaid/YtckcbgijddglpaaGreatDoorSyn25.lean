/- The parser: names of types. -/
import Derived.Test.YtckcbgijddglpaaGreatDoorSyn24
namespace Go.Proofs.YtckcbgijddglpaaGreatDoor
open Go.ChangeShapes Go.WideShapes Go.ChangeAt Go.RowKit Go.PlainAid
set_option linter.unusedVariables false
set_option linter.unusedSimpArgs false
theorem str_info : (Tryz.prog.info? 9).map (fun i => (i.size, i.bytes, i.zero.map fun z => z.cells.size)) = some (1, 16, some 1) := by kernel_rfl
theorem int_info : (Tryz.prog.info? 3).map (fun i => (i.size, i.bytes, i.zero.map fun z => z.cells.size)) = some (1, 8, some 1) := by kernel_rfl
def strsC (l : List ByteArray) : List Value := l.map .string
def intsC (l : List Nat) : List Value := l.map fun k => .int .i64 (k : Nat)
/-- The parser with its module so far. -/
def AsgC (w : World) (g : Nat) (A : Option Addr) (c : Nat) (l : List Tok) (i : Nat) (m0 m1 m2 m3 m4 : Value) (names : List ByteArray) (types : List Nat) (nodes : List NodeV) : Prop :=
  PQ w g A c l i m0 m1 m2 m3 m4 ∧ w.ownsRow (g + 1) 9 1 m2 names.length (strsC names) ∧ w.ownsRow (g + 1) 3 1 m3 types.length (intsC types) ∧ NodesH w g (g < ·) m4 nodes ∧ nodes.length ≤ 300
def AsgS (w : World) (g : Nat) (A : Option Addr) (c : Nat) (l : List Tok) (m0 m1 : Value) (i : Nat) (m : ModV) (wr : World) : Prop :=
  (∃ m2 m3 m4, AsgC wr g A c l i m0 m1 m2 m3 m4 m.names m.types m.nodes) ∧ FS (g ≤ ·) w wr ∧ m.types.length = m.names.length ∧ m.names.length ≤ 40
section
variable {w wr w2 : World} {g : Nat} {A : Option Addr} {c : Nat} {l : List Tok} {i j : Nat} {m0 m1 m2 m3 m4 : Value} {names : List ByteArray} {types : List Nat} {nodes nodes' : List NodeV} {m : ModV}
theorem AsgC.step (h : AsgC w g A c l i m0 m1 m2 m3 m4 names types nodes) (k : FS (· = g) w w2) (hp : PQ w2 g A c l j m0 m1 m2 m3 m4) : AsgC w2 g A c l j m0 m1 m2 m3 m4 names types nodes := by
  obtain ⟨h1, h2, h3, h4, h5⟩ := h
  exact ⟨hp, k.own h2 (fun b hb e => by have := (h2.lt b hb).1; omega), k.own h3 (fun b hb e => by have := (h3.lt b hb).1; omega), h4.fs k (clear_typ fun b _ e => by subst e; exact h1.typ) (fun b hb e => by have := h4.own_lt b hb; omega), h5⟩
theorem AsgC.low (h : AsgC w g A c l i m0 m1 m2 m3 m4 names types nodes) : ∀ b, SN g m4 b → g ≤ b := by
  rintro b (e | e)
  · omega
  · have := h.2.2.2.1.own_lt b e; omega
theorem AsgC.node (h : AsgC w g A c l i m0 m1 m2 m3 m4 names types nodes) (hG : GivesNodes g A c l m0 m1 m2 m3 m4 (g < ·) w j nodes' w2) (k : FS (SN g m4) w w2) : ∃ m4', AsgC w2 g A c l j m0 m1 m2 m3 m4' names types nodes' := by
  obtain ⟨h1, h2, h3, h4, h5⟩ := h
  obtain ⟨m', g1, g2, _, g4⟩ := hG
  obtain ⟨qs, _, hr, _⟩ := h4
  refine ⟨m', g1, k.own h2 (fun b hb e => ?_), k.own h3 (fun b hb e => ?_), g2, g4⟩
  · rcases e with e | e
    · have := (h2.lt b hb).1; omega
    · exact own_same_ne h2 hr (by decide) hb e
  · rcases e with e | e
    · have := (h3.lt b hb).1; omega
    · exact own_same_ne h3 hr (by decide) hb e
theorem PQ.setN (h : PQ w g A c l i m0 m1 m2 m3 m4) (v : Value) : PQ (w.setCell ⟨g, 6, none⟩ v) g A c l i m0 m1 v m3 m4 := by
  obtain ⟨⟨h1, h2⟩, h3, h4⟩ := h
  refine ⟨⟨?_, ?_⟩, h3, h4⟩
  · simpa using h1.set_ 6 v
  · exact ((FS.refl (· = g) w).set (p := ⟨g, 6, none⟩) (.inl rfl) v).held h2 fun b hb e => by have := h3 b hb; omega
theorem PQ.setT (h : PQ w g A c l i m0 m1 m2 m3 m4) (v : Value) : PQ (w.setCell ⟨g, 7, none⟩ v) g A c l i m0 m1 m2 v m4 := by
  obtain ⟨⟨h1, h2⟩, h3, h4⟩ := h
  refine ⟨⟨?_, ?_⟩, h3, h4⟩
  · simpa using h1.set_ 7 v
  · exact ((FS.refl (· = g) w).set (p := ⟨g, 7, none⟩) (.inl rfl) v).held h2 fun b hb e => by have := h3 b hb; omega
theorem PQ.setNm (h : PQ w g A c l i m0 m1 m2 m3 m4) (v : Value) : PQ (w.setCell ⟨g, 4, none⟩ v) g A c l i v m1 m2 m3 m4 := by
  obtain ⟨⟨h1, h2⟩, h3, h4⟩ := h
  refine ⟨⟨?_, ?_⟩, h3, h4⟩
  · simpa using h1.set_ 4 v
  · exact ((FS.refl (· = g) w).set (p := ⟨g, 4, none⟩) (.inl rfl) v).held h2 fun b hb e => by have := h3 b hb; omega
theorem PQ.setTg (h : PQ w g A c l i m0 m1 m2 m3 m4) (v : Value) : PQ (w.setCell ⟨g, 5, none⟩ v) g A c l i m0 v m2 m3 m4 := by
  obtain ⟨⟨h1, h2⟩, h3, h4⟩ := h
  refine ⟨⟨?_, ?_⟩, h3, h4⟩
  · simpa using h1.set_ 5 v
  · exact ((FS.refl (· = g) w).set (p := ⟨g, 5, none⟩) (.inl rfl) v).held h2 fun b hb e => by have := h3 b hb; omega
/-- A row grows, of another type than nodes and what they hold. -/
theorem grow_nodes {w5 : World} {e : TypeId} {n : Nat} {xs : List Value} {v : Value} {o : Obj} (hp : PQ w g A c l i m0 m1 m2 m3 m4) (hN : NodesH w g (g < ·) m4 nodes) (hr : w.ownsRow (g + 1) e 1 v n xs) (he : e ≠ 97 ∧ e ≠ 47 ∧ e ≠ 5 ∧ e ≠ 40) (hg : (w.alloc o).grownBy w5 v.ownBlock) (q : Nat) (u : Value) :
    PQ w5 g A c l i m0 m1 m2 m3 m4 ∧ NodesH (w5.setCell ⟨g, q, none⟩ u) g (g < ·) m4 nodes ∧ FS (g ≤ ·) w (w5.setCell ⟨g, q, none⟩ u) ∧ FS (fun b => b = g ∨ v.ownBlock = some b) w (w5.setCell ⟨g, q, none⟩ u) := by
  have hF5 : FS (fun b => v.ownBlock = some b) w w5 := ((FS.refl _ w).alloc _).grown hg fun b hb => .inl hb
  have hF6 : FS (fun b => b = g ∨ v.ownBlock = some b) w (w5.setCell ⟨g, q, none⟩ u) := (hF5.weak fun b _ q => .inr q).set (p := ⟨g, q, none⟩) (.inl (.inl rfl)) u
  refine ⟨hp.fs hF5 fun b hb e => by have := (hr.lt b e).1; omega, hN.fs hF6 (clear_typ fun b _ e => ?_) (fun b hb e => ?_), hF6.weak fun b _ e => ?_, hF6⟩
  · rcases e with e | e
    · subst e; exact hp.typ
    · obtain ⟨cs, h⟩ := own_kind hr e
      exact ⟨cs, _, _, h, he.1, he.2.1, he.2.2.1⟩
  · rcases e with e | e
    · have := hN.own_lt b hb; omega
    · obtain ⟨qs, _, h, _⟩ := hN
      exact own_same_ne h hr (fun q => he.2.2.2 q.symm) hb e
  · rcases e with e | e
    · omega
    · have := (hr.lt b e).1; show g ≤ b; omega
theorem push_names {w5 : World} {v' : Value} {x : ByteArray} (h : AsgC w g A c l i m0 m1 m2 m3 m4 names types nodes) (ho : w5.ownsRow (g + 1) 9 1 v' (names.length + 1) (strsC names ++ [.string x])) (hg : (w.alloc (.cells [Value.string x].toArray 9)).grownBy w5 m2.ownBlock) :
    PQ w5 g A c l i m0 m1 m2 m3 m4 ∧ AsgC (w5.setCell ⟨g, 6, none⟩ v') g A c l i m0 m1 v' m3 m4 (names ++ [x]) types nodes ∧ FS (g ≤ ·) w (w5.setCell ⟨g, 6, none⟩ v') := by
  obtain ⟨h1, h2, h3, h4, h5⟩ := h
  obtain ⟨k1, k2, k3, k4⟩ := grow_nodes h1 h4 h2 ⟨by decide, by decide, by decide, by decide⟩ hg 6 v'
  refine ⟨k1, ⟨k1.setN v', ?_, k4.own h3 (fun b hb e => ?_), k2, h5⟩, k3⟩
  · rw [List.length_append]
    have e : strsC (names ++ [x]) = strsC names ++ [.string x] := by simp [strsC]
    rw [e]
    exact own_kept ho fun b hb => Below.heap_setCell w5 ⟨g, 6, none⟩ v' b fun e => by have h1 := (ho.lt _ hb).1; have e2 : b = g := e; omega
  · rcases e with e | e
    · have := (h3.lt b hb).1; omega
    · exact own_same_ne h3 h2 (by decide) hb e
theorem push_types {w5 : World} {v' : Value} {x : Nat} (h : AsgC w g A c l i m0 m1 m2 m3 m4 names types nodes) (ho : w5.ownsRow (g + 1) 3 1 v' (types.length + 1) (intsC types ++ [.int .i64 (x : Nat)])) (hg : (w.alloc (.cells [Value.int .i64 (x : Nat)].toArray 3)).grownBy w5 m3.ownBlock) :
    PQ w5 g A c l i m0 m1 m2 m3 m4 ∧ AsgC (w5.setCell ⟨g, 7, none⟩ v') g A c l i m0 m1 m2 v' m4 names (types ++ [x]) nodes ∧ FS (g ≤ ·) w (w5.setCell ⟨g, 7, none⟩ v') := by
  obtain ⟨h1, h2, h3, h4, h5⟩ := h
  obtain ⟨k1, k2, k3, k4⟩ := grow_nodes h1 h4 h3 ⟨by decide, by decide, by decide, by decide⟩ hg 7 v'
  refine ⟨k1, ⟨k1.setT v', k4.own h2 (fun b hb e => ?_), ?_, k2, h5⟩, k3⟩
  · rcases e with e | e
    · have := (h2.lt b hb).1; omega
    · exact own_same_ne h2 h3 (by decide) hb e
  · rw [List.length_append]
    have e : intsC (types ++ [x]) = intsC types ++ [.int .i64 (x : Nat)] := by simp [intsC]
    rw [e]
    exact own_kept ho fun b hb => Below.heap_setCell w5 ⟨g, 7, none⟩ v' b fun e => by have h1 := (ho.lt _ hb).1; have e2 : b = g := e; omega
theorem eqg {b : Nat} : b < w.heap.size → b = g → g ≤ b := fun _ e => by omega
theorem wantA (h : AsgS w g A c l m0 m1 i m wr) (s : ByteArray) :
    Calls Tryz.prog 30 #[.pointer (some ⟨g, 0, none⟩), .string s] wr (PostT (wantT l i s) g (g ≤ ·) w (fun j e w' => Yes e ∧ AsgS w g A c l m0 m1 j m w') No) := by
  obtain ⟨⟨m2, m3, m4, hC⟩, h3, h4⟩ := h
  refine (want_q hC.1 s).mono ?_
  rintro e w' ⟨hr, hf⟩
  have hF := h3.trans (hf.weak (S' := (g ≤ ·)) fun x _ e => by omega)
  refine ⟨?_, hF⟩
  rcases hw : wantT l i s with ⟨p, x⟩ | j
  · rw [hw] at hr; exact hr
  · rw [hw] at hr
    exact ⟨hr.1, ⟨m2, m3, m4, hC.step hf hr.2⟩, hF, h4⟩
theorem nowA (h : AsgS w g A c l m0 m1 i m wr) :
    Calls Tryz.prog 65 #[.pointer (some ⟨g, 0, none⟩)] wr fun e w' => e = .returned (.agg #[.int .i64 (tk l i).1, .string (tk l i).2.1, .int .i64 ((tk l i).2.2 : Nat)]) ∧ AsgS w g A c l m0 m1 i m w' := by
  obtain ⟨⟨m2, m3, m4, hC⟩, h3, h4⟩ := h
  refine (now_q hC.1).mono ?_
  rintro e w' ⟨he, hk⟩
  exact ⟨he, ⟨m2, m3, m4, hC.step (FS.of_keeps hk) (hC.1.keeps hk)⟩, h3.keeps hk, h4⟩
theorem skipA (h : AsgS w g A c l m0 m1 i m wr) (hk : (tk l i).1 ≠ 0) :
    Calls Tryz.prog 67 #[.pointer (some ⟨g, 0, none⟩)] wr fun e w' => e = .returned (.tuple #[]) ∧ AsgS w g A c l m0 m1 (i + 1) m w' := by
  obtain ⟨⟨m2, m3, m4, hC⟩, h3, h4⟩ := h
  refine (skip_q hC.1).mono ?_
  rintro e w' ⟨he, hp, hf⟩
  rw [skT, if_neg hk] at hp
  exact ⟨he, ⟨m2, m3, m4, hC.step (FS.of_fr hf rfl) hp⟩, h3.fr hf (Nat.le_refl g), h4⟩
theorem stopA (h : AsgS w g A c l m0 m1 i m wr) (x : Int) :
    Calls Tryz.prog 66 #[.pointer (some ⟨g, 0, none⟩), .int .i64 x] wr fun e w' => e = .returned (.bool false) ∧ PE w' g x (tk l i).2.2 ∧ FS (g ≤ ·) w w' := by
  obtain ⟨⟨m2, m3, m4, hC⟩, h3, h4⟩ := h
  refine (stop_q hC.1 x).mono ?_
  rintro e w' ⟨he, hp, hf⟩
  exact ⟨he, hp, h3.fr hf (Nat.le_refl g)⟩
theorem nodeA (h : AsgS w g A c l m0 m1 i m wr) {ndp : NodeP} {D : Int} (hNd : NodeC l ndp D) :
    Calls Tryz.prog 69 #[.pointer (some ⟨g, 0, none⟩), .int .i64 D] wr
      (PostT (ndp i m.nodes) g (g ≤ ·) w (fun r e w' => e = .returned (.tuple #[.int .i64 (r.1 : Nat), .bool true]) ∧ AsgS w g A c l m0 m1 r.2.1 { m with nodes := r.2.2 } w') (fun e => e = .returned (.tuple #[.int .i64 0, .bool false]))) := by
  obtain ⟨⟨m2, m3, m4, hC⟩, h3, h4⟩ := h
  refine (hNd wr g A c i m0 m1 m2 m3 m4 m.nodes (g < ·) hC.1 hC.2.2.2.1 (fun b hb => by have := hC.1.lt; show g < b; omega) hC.2.2.2.2).mono ?_
  rintro e w' ⟨hr, hf⟩
  have hF := h3.trans (hf.weak (S' := (g ≤ ·)) fun x _ e => hC.low x e)
  refine ⟨?_, hF⟩
  rcases hw : ndp i m.nodes with ⟨p, x⟩ | ⟨k, j, ns2⟩
  · rw [hw] at hr; exact hr
  · rw [hw] at hr
    obtain ⟨m', hC'⟩ := hC.node hr.2 hf
    exact ⟨hr.1, ⟨m2, m3, m', hC'⟩, hF, h4⟩
end
end Go.Proofs.YtckcbgijddglpaaGreatDoor
