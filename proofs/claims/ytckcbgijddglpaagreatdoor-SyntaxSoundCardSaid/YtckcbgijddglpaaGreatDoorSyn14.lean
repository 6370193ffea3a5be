/- The parser: an item is appended. -/
import Derived.Test.YtckcbgijddglpaaGreatDoorSyn13
import Derived.Deep.RegionLaw
import Derived.Deep.AppendLies
namespace Go.Proofs.YtckcbgijddglpaaGreatDoor
open Go.ChangeShapes Go.WideShapes Go.ChangeAt Go.RowKit Go.PlainAid
set_option linter.unusedVariables false
set_option linter.unusedSimpArgs false
theorem info_three {P : Program} {t : TypeId} {k b : Nat} (h : (P.info? t).map (fun i => (i.size, i.bytes, i.zero.map fun z => z.cells.size)) = some (k, b, some k)) : ∃ i z, P.info? t = some i ∧ i.zero = some z ∧ i.size = k ∧ i.bytes = b ∧ z.cells.size = k := by
  cases hi : P.info? t with
  | none => rw [hi] at h; cases h
  | some i =>
    rw [hi] at h
    simp only [Option.map_some, Option.some.injEq, Prod.mk.injEq] at h
    obtain ⟨h1, h2, h3⟩ := h
    obtain ⟨z, hz, hz2⟩ := Option.map_eq_some_iff.1 h3
    exact ⟨i, z, rfl, hz, h1, h2, hz2⟩
theorem item_info : (Tryz.prog.info? 97).map (fun i => (i.size, i.bytes, i.zero.map fun z => z.cells.size)) = some (3, 32, some 3) := by kernel_rfl
theorem field_info : (Tryz.prog.info? 47).map (fun i => (i.size, i.bytes, i.zero.map fun z => z.cells.size)) = some (11, 136, some 11) := by kernel_rfl
theorem node_info : (Tryz.prog.info? 40).map (fun i => (i.size, i.bytes, i.zero.map fun z => z.cells.size)) = some (16, 144, some 16) := by kernel_rfl
/-- A slice's row lies where it lay, or in new memory. -/
def NewR (w : World) (v v' : Value) : Prop := v'.ownBlock = v.ownBlock ∨ ∃ b, v'.ownBlock = some b ∧ w.heap.size ≤ b
theorem NewR.refl (w : World) (v : Value) : NewR w v v := .inl rfl
theorem NewR.trans {w w2 : World} {v v2 v3 : Value} (h : NewR w v v2) (k : NewR w2 v2 v3) (hs : w.heap.size ≤ w2.heap.size) : NewR w v v3 := by
  rcases k with k | ⟨b, k, hb⟩
  · rcases h with h | ⟨b, h, hb⟩
    · exact .inl (k.trans h)
    · exact .inr ⟨b, k.trans h, hb⟩
  · exact .inr ⟨b, k, by omega⟩
/-- A row of cells that lies in a block of its own. -/
theorem row_new (w : World) (t : TypeId) (l : List Value) (n : Nat) (hn : l.length = n) : Reads (w.alloc (.cells l.toArray t)) (w.heap.size + 1) n (some ⟨w.heap.size, 0, none⟩) 1 l := by
  refine ⟨by omega, fun _ => ⟨_, rfl, by simp, fun j u hu => ?_⟩⟩
  have hb : Blk (w.alloc (.cells l.toArray t)) w.heap.size t l.toArray := Blk.new _ _ _
  have := hb.cell j
  rw [show (l.toArray)[j]? = l[j]? by simp, hu] at this
  by_cases h0 : j = 0
  · subst h0; simpa [Addr.add] using this
  · simpa [Addr.add, h0] using this
theorem row_new2 (w : World) (t : TypeId) (l : List Value) (n : Nat) (hn : l.length = n) {b : Nat} (hb : w.heap.size = b) : Reads (w.alloc (.cells l.toArray t)) (b + 1) n (some ⟨b, 0, none⟩) 1 l := hb ▸ row_new w t l n hn
theorem RowH.far {w : World} {ok : Nat → Prop} {e : TypeId} {size : Nat} {v : Value} {n : Nat} {xs : List Value} (h : RowH w ok e size v n xs) {B : Nat} (hB : ∀ b, v.ownBlock = some b → b < B) (o : Nat) (u : Value) : RowH (w.setCell ⟨B, o, none⟩ u) ok e size v n xs :=
  ⟨own_kept h.1 fun b hb => Below.heap_setCell w ⟨B, o, none⟩ u b (by have := hB b hb; simp; omega), h.2⟩
theorem PE.far {w : World} {g : Nat} {x : Int} {p : Nat} (h : PE w g x p) {V : Nat} (hV : g < V) (o : Nat) (u : Value) : PE (w.setCell ⟨V, o, none⟩ u) g x p := by
  have hk : ∀ q, (w.setCell ⟨V, o, none⟩ u).cell? ⟨g, q, none⟩ = w.cell? ⟨g, q, none⟩ := fun q => World.cell?_of_block (Below.heap_setCell w ⟨V, o, none⟩ u g (by simp; omega))
  exact ⟨(hk 2).trans h.1, (hk 3).trans h.2⟩
theorem itemsC_snoc (l : List ItemV) (x : ItemV) : itemsC (l ++ [x]) = itemsC l ++ itemC x := by simp [itemsC]
theorem itemC_one (x : ItemV) : ∀ u ∈ itemC x, u.oneCell' = true := by
  intro u hu
  simp only [itemC, List.mem_cons, List.not_mem_nil, or_false] at hu
  rcases hu with rfl | rfl | rfl <;> rfl
abbrev SI (g n : Nat) (v : Value) : Nat → Prop := fun b => b = g ∨ b = n ∨ v.ownBlock = some b
def GivesItem (n : Nat) (ok : Nat → Prop) (w : World) (vi vf : Value) (nd : NodeV) (x : ItemV) (w' : World) : Prop :=
  ∃ vi', NB w' n { nd with items := nd.items ++ [x] } vi' vf ∧ ItemsH w' ok vi' (nd.items ++ [x]) ∧ NewR w vi vi'
section
variable {w : World} {g : Nat} {A : Option Addr} {c : Nat} {l : List Tok} {i : Nat} {m0 m1 m2 m3 m4 : Value}
/-- Behind the append of an item, and the store of the slice. -/
theorem item_end {w0 w w5 : World} {n : Nat} {nd : NodeV} {vi vf v' : Value} {ok : Nat → Prop} {x : ItemV} {i' : Nat} (hp : PQ w g A c l i' m0 m1 m2 m3 m4) (hB : NB w n nd vi vf) (hI : ItemsH w ok vi nd.items) (hok : ∀ b, w.heap.size ≤ b → ok b) (hn : g < n) (hgi : ∀ b, vi.ownBlock = some b → g < b) (hF : FS (SI g n vi) w0 w)
    (ho : w5.ownsRow 0 97 3 v' (nd.items.length + 1) (itemsC nd.items ++ itemC x)) (hg : (w.drew.alloc (.cells (itemC x).toArray 97)).grownBy w5 vi.ownBlock) (hat : v'.ownBlock = vi.ownBlock ∨ v'.ownBlock = some (w.drew.alloc (.cells (itemC x).toArray 97)).heap.size) :
    NB w5 n nd vi vf ∧ PQ (w5.setCell ⟨n, 11, none⟩ v') g A c l i' m0 m1 m2 m3 m4 ∧ GivesItem n ok w0 vi vf nd x (w5.setCell ⟨n, 11, none⟩ v') ∧ FS (SI g n vi) w0 (w5.setCell ⟨n, 11, none⟩ v') := by
  have hsz : (w.drew.alloc (.cells (itemC x).toArray 97)).heap.size = w.heap.size + 1 := by simp
  have hni : some n ≠ vi.ownBlock := fun e => own_type hI.1 hB (by decide) e.symm
  have hF1 : FS (SI g n vi) w (w.drew.alloc (.cells (itemC x).toArray 97)) := ((FS.refl _ w).drew).alloc _
  have hF5 : FS (SI g n vi) w w5 := hF1.grown hg fun b hb => .inl (.inr (.inr hb))
  have hB5 : NB w5 n nd vi vf := Blk.grown (Blk.alloc (Blk.drew hB) _) hg hni
  have hp5 : PQ w5 g A c l i' m0 m1 m2 m3 m4 := hp.fs (S := fun b => vi.ownBlock = some b) (((FS.refl _ w).drew.alloc _).grown hg fun b hb => .inl hb) fun b hb e => by have := hgi b e; omega
  have hz0 := hF.size
  refine ⟨hB5, hp5.far hn 11 v', ⟨v', NB.put hB5 11 v' rfl, ⟨?_, fun b hb => ?_⟩, ?_⟩, (hF.trans hF5).set (p := ⟨n, 11, none⟩) (.inl (.inr (.inl rfl))) v'⟩
  · rw [List.length_append, itemsC_snoc]
    refine own_kept ho fun b hb => Below.heap_setCell w5 ⟨n, 11, none⟩ v' b fun e => ?_
    subst e
    exact own_type ho hB5 (by decide) hb
  · rcases hat with hat | hat
    · exact hI.2 b (by rw [← hat]; exact hb)
    · rw [hat] at hb; injection hb with hb; exact hok b (by omega)
  · rcases hat with hat | hat
    · exact .inl hat
    · exact .inr ⟨_, hat, by omega⟩
end
end Go.Proofs.YtckcbgijddglpaaGreatDoor
