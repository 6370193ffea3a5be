/- The parser: a field is appended. -/
import Derived.Test.YtckcbgijddglpaaGreatDoorSyn16
namespace Go.Proofs.YtckcbgijddglpaaGreatDoor
open Go.ChangeShapes Go.WideShapes Go.ChangeAt Go.RowKit Go.PlainAid
set_option linter.unusedVariables false
set_option linter.unusedSimpArgs false
theorem own_kind {w : World} {base : Nat} {e : TypeId} {size : Nat} {v : Value} {n : Nat} {xs : List Value} (h : w.ownsRow base e size v n xs) {b : Nat} (hb : v.ownBlock = some b) : ∃ cs, w.heap[b]? = some (.cells cs e (0, 0)) := by
  rcases h.2 with ⟨rfl, _⟩ | ⟨g, cap, cur, rfl, _, hgg, _⟩
  · cases hb
  · have q : g = b := by injection hb
    subst q
    exact ⟨_, hgg⟩
theorem kind_ne {w : World} {b : Nat} {cs cs' : Array Value} {t t' : TypeId} {f f' : Nat × Nat} (h : w.heap[b]? = some (.cells cs t f)) (h' : w.heap[b]? = some (.cells cs' t' f')) (hne : t ≠ t') : False := by
  rw [h] at h'
  injection h' with h'
  injection h' with _ ht
  exact hne ht
theorem BytesH.keep {w w' : World} {ok : Nat → Prop} {v : Value} {l : List UInt8} (h : BytesH w ok v l) (hk : ∀ (b : Nat) (cs : Array Value) (f : Nat × Nat), w.heap[b]? = some (Obj.cells cs 5 f) → w'.heap[b]? = w.heap[b]?) : BytesH w' ok v l := by
  obtain ⟨A, c, h1, h2, h3⟩ := h
  refine ⟨A, c, h1, h2, fun hn => ?_⟩
  obtain ⟨b, cs, fr, e, hb, hh, hc⟩ := h3 hn
  exact ⟨b, cs, fr, e, hb, (hk b cs fr hh).trans hh, hc⟩
abbrev okx (ok : Nat → Prop) (v : Value) : Nat → Prop := fun b => ok b ∧ v.ownBlock ≠ some b
abbrev SN (g : Nat) (m : Value) : Nat → Prop := fun b => b = g ∨ m.ownBlock = some b
abbrev SF (g n : Nat) (m v : Value) : Nat → Prop := fun b => b = g ∨ b = n ∨ m.ownBlock = some b ∨ v.ownBlock = some b
/-- The parser goes on with these nodes. -/
def GivesNodes (g : Nat) (A : Option Addr) (c : Nat) (l : List Tok) (m0 m1 m2 m3 m4 : Value) (ok : Nat → Prop) (w : World) (i : Nat) (ns : List NodeV) (w' : World) : Prop :=
  ∃ m, PQ w' g A c l i m0 m1 m2 m3 m ∧ NodesH w' g ok m ns ∧ NewR w m4 m ∧ ns.length ≤ 300
/-- What a type's parser does, at a depth. -/
def NodeC (l : List Tok) (nd : NodeP) (D : Int) : Prop :=
  ∀ (w : World) (g : Nat) (A : Option Addr) (c i : Nat) (m0 m1 m2 m3 m4 : Value) (ns : List NodeV) (ok : Nat → Prop), PQ w g A c l i m0 m1 m2 m3 m4 → NodesH w g ok m4 ns → (∀ b, w.heap.size ≤ b → ok b) → ns.length ≤ 300 →
    Calls Tryz.prog 69 #[.pointer (some ⟨g, 0, none⟩), .int .i64 D] w
      (PostT (nd i ns) g (SN g m4) w (fun r e w' => e = .returned (.tuple #[.int .i64 (r.1 : Nat), .bool true]) ∧ GivesNodes g A c l m0 m1 m2 m3 m4 ok w r.2.1 r.2.2 w') (fun e => e = .returned (.tuple #[.int .i64 0, .bool false])))
/-- A node in the making, its fields so far; the parser's nodes beside it. -/
def MakeN (w : World) (g : Nat) (A : Option Addr) (c : Nat) (l : List Tok) (m0 m1 m2 m3 : Value) (n : Nat) (ok : Nat → Prop) (i : Nat) (m vi vf : Value) (nd : NodeV) (ns : List NodeV) : Prop :=
  PQ w g A c l i m0 m1 m2 m3 m ∧ NB w n nd vi vf ∧ FieldsH w ok vf nd.fields ∧ NodesH w g (okx ok vf) m ns ∧ (∀ b, w.heap.size ≤ b → ok b) ∧ g < n ∧ (∀ b, vf.ownBlock = some b → g < b) ∧ m.ownBlock ≠ some n ∧ ns.length ≤ 300
def GivesField (g : Nat) (A : Option Addr) (c : Nat) (l : List Tok) (m0 m1 m2 m3 : Value) (n : Nat) (ok : Nat → Prop) (w : World) (m vi vf : Value) (i : Nat) (nd : NodeV) (ns : List NodeV) (w' : World) : Prop :=
  ∃ m' vf', MakeN w' g A c l m0 m1 m2 m3 n ok i m' vi vf' nd ns ∧ NewR w m m' ∧ NewR w vf vf'
theorem fieldsC_snoc (l : List (FieldV × Value)) (x : FieldV) (v : Value) : fieldsC (l ++ [(x, v)]) = fieldsC l ++ fieldC x v := by simp [fieldsC]
theorem fieldC_one (x : FieldV) (A : Option Addr) (a b : Nat) : ∀ u ∈ fieldC x (.slice A a b), u.oneCell' = true := by
  intro u hu
  simp only [fieldC, List.mem_cons, List.not_mem_nil, or_false] at hu
  rcases hu with rfl | rfl | rfl | rfl | rfl | rfl | rfl | rfl | rfl | rfl | rfl <;> rfl
section
variable {w : World} {g : Nat} {A : Option Addr} {c : Nat} {l : List Tok} {i : Nat} {m0 m1 m2 m3 m4 : Value}
theorem field_end {w0 w w5 : World} {n : Nat} {nd : NodeV} {m vi vf v' vb : Value} {ok : Nat → Prop} {x : FieldV} {ns : List NodeV} {qs : List (FieldV × Value)} (hM : MakeN w g A c l m0 m1 m2 m3 n ok i m vi vf nd ns)
    (hq : qs.map (·.1) = nd.fields) (hrow : RowH w ok 47 11 vf nd.fields.length (fieldsC qs)) (hby : ∀ q ∈ qs, BytesH w ok q.2 q.1.dflt.b) (hb : BytesH w ok vb x.dflt.b) (hF : FS (SF g n m4 vf) w0 w)
    (ho : w5.ownsRow 0 47 11 v' (nd.fields.length + 1) (fieldsC qs ++ fieldC x vb)) (hg : (w.drew.alloc (.cells (fieldC x vb).toArray 47)).grownBy w5 vf.ownBlock) (hat : v'.ownBlock = vf.ownBlock ∨ v'.ownBlock = some (w.drew.alloc (.cells (fieldC x vb).toArray 47)).heap.size) :
    NB w5 n nd vi vf ∧ MakeN (w5.setCell ⟨n, 12, none⟩ v') g A c l m0 m1 m2 m3 n ok i m vi v' { nd with fields := nd.fields ++ [x] } ns ∧ NewR w0 vf v' ∧ FS (SF g n m4 vf) w0 (w5.setCell ⟨n, 12, none⟩ v') := by
  obtain ⟨hp, hB, hFl, hN, hok, hn, hgf, hmn, hlen⟩ := hM
  have hsz : (w.drew.alloc (.cells (fieldC x vb).toArray 47)).heap.size = w.heap.size + 1 := by simp
  have hni : some n ≠ vf.ownBlock := fun e => own_type hrow.1 hB (by decide) e.symm
  have hF1 : FS (SF g n m4 vf) w (w.drew.alloc (.cells (fieldC x vb).toArray 47)) := ((FS.refl _ w).drew).alloc _
  have hF5 : FS (SF g n m4 vf) w w5 := hF1.grown hg fun b hb => .inl (.inr (.inr (.inr hb)))
  have hB5 : NB w5 n nd vi vf := Blk.grown (Blk.alloc (Blk.drew hB) _) hg hni
  have hV5 : FS (fun b => vf.ownBlock = some b) w w5 := ((FS.refl _ w).drew.alloc _).grown hg fun b hb => .inl hb
  have hp5 : PQ w5 g A c l i m0 m1 m2 m3 m := hp.fs hV5 fun b hb e => by have := hgf b e; omega
  have hz0 := hF.size
  have hz5 := hV5.size
  have hV6 : FS (fun b => b = n ∨ vf.ownBlock = some b) w (w5.setCell ⟨n, 12, none⟩ v') := (hV5.weak fun b _ q => .inr q).set (p := ⟨n, 12, none⟩) (.inl (.inl rfl)) v'
  have hb6 : ∀ {u : Value} {bs : List UInt8}, BytesH w ok u bs → BytesH (w5.setCell ⟨n, 12, none⟩ v') ok u bs := fun h => h.keep fun b cs f hh => hV6.2.2.2.2 b (Array.getElem?_eq_some_iff.1 hh).1 (by
    rintro (e | e)
    · subst e; exact kind_ne hh hB (by decide)
    · obtain ⟨cs', h'⟩ := own_kind hrow.1 e
      exact kind_ne hh h' (by decide))
  have hm : ∀ b, m.ownBlock = some b → ∃ cs, w.heap[b]? = some (.cells cs 40 (0, 0)) := fun b hb => by
    obtain ⟨qs', _, h2, _⟩ := hN
    exact own_kind h2 hb
  refine ⟨hB5, ⟨hp5.far hn 12 v', NB.put hB5 12 v' rfl, ⟨qs ++ [(x, vb)], by simp [hq], ⟨?_, fun b hb => ?_⟩, ?_⟩, ?_, fun b hb => hok b (by simp only [World.size_setCell] at hb; omega), hn, fun b hb => ?_, hmn, hlen⟩, ?_, (hF.trans hF5).set (p := ⟨n, 12, none⟩) (.inl (.inr (.inl rfl))) v'⟩
  · rw [List.length_append, fieldsC_snoc]
    refine own_kept ho fun b hb => Below.heap_setCell w5 ⟨n, 12, none⟩ v' b fun e => ?_
    subst e
    exact own_type ho hB5 (by decide) hb
  · rcases hat with hat | hat
    · exact hrow.2 b (by rw [← hat]; exact hb)
    · rw [hat] at hb; injection hb with hb; exact hok b (by omega)
  · intro q hq'
    rw [List.mem_append] at hq'
    rcases hq' with hq' | hq'
    · exact hb6 (hby q hq')
    · simp only [List.mem_singleton] at hq'; subst hq'; exact hb6 hb
  · have hN2 : NodesH w g (fun b => okx ok v' b ∧ vf.ownBlock ≠ some b) m ns := hN.imp fun b hb hk => ⟨⟨hk.1, fun e => by
      rcases hat with hat | hat
      · exact hk.2 (hat ▸ e)
      · rw [hat] at e; injection e with e; omega⟩, hk.2⟩
    refine (hN2.fs hV6 (fun b hb hs => ?_) (fun b hb hs => ?_)).imp (fun b _ h => h.1)
    · rcases hs with hs | hs
      · subst hs; exact .inl hB.typ
      · exact .inr fun h => h.2 hs
    · rcases hs with hs | hs
      · subst hs; exact hmn hb
      · obtain ⟨cs1, h1⟩ := hm b hb
        obtain ⟨cs2, h2⟩ := own_kind hrow.1 hs
        exact kind_ne h1 h2 (by decide)
  · rcases hat with hat | hat
    · exact hgf b (hat ▸ hb)
    · rw [hat] at hb; injection hb with hb
      have := Blk.lt hB; omega
  · rcases hat with hat | hat
    · exact .inl hat
    · exact .inr ⟨_, hat, by omega⟩
end
end Go.Proofs.YtckcbgijddglpaaGreatDoor
