/- The parser: a node. -/
import Derived.Test.YtckcbgijddglpaaGreatDoorSyn22
import Derived.BigRegion
namespace Go.Proofs.YtckcbgijddglpaaGreatDoor
open Go.ChangeShapes Go.WideShapes Go.ChangeAt Go.RowKit Go.PlainAid
set_option linter.unusedVariables false
set_option linter.unusedSimpArgs false
abbrev zN : NodeV := {}
section
variable {w wr w2 : World} {g : Nat} {A : Option Addr} {c : Nat} {l : List Tok} {i j : Nat} {m0 m1 m2 m3 m4 : Value} {n : Nat} {ok : Nat → Prop} {m vi vi' vf : Value} {nd nd' : NodeV} {ns ns' : List NodeV}
theorem PQ.nodes (h : PQ w g A c l i m0 m1 m2 m3 m4) (v : Value) : PQ (w.setCell ⟨g, 8, none⟩ v) g A c l i m0 m1 m2 m3 v := by
  obtain ⟨⟨h1, h2⟩, h3, h4⟩ := h
  refine ⟨⟨?_, ?_⟩, h3, h4⟩
  · simpa using h1.set_ 8 v
  · exact ((FS.refl (· = g) w).set (p := ⟨g, 8, none⟩) (.inl rfl) v).held h2 fun b hb e => by have := h3 b hb; omega
theorem own_same_ne {base base' : Nat} {e e' : TypeId} {size size' : Nat} {v v' : Value} {n n' : Nat} {xs xs' : List Value} (h : w.ownsRow base e size v n xs) (h' : w.ownsRow base' e' size' v' n' xs') (hne : e ≠ e') {b : Nat} (hb : v.ownBlock = some b) : v'.ownBlock ≠ some b := by
  intro hb'
  obtain ⟨cs, h1⟩ := own_kind h hb
  obtain ⟨cs', h2⟩ := own_kind h' hb'
  exact kind_ne h1 h2 hne
/-- A node is laid at the end of the parser's nodes, and one in the making beside. -/
theorem node_push {w5 : World} {v' : Value} {qs : List (NodeV × Value × Value)} (hp : PQ w g A c l i m0 m1 m2 m3 m4) (hq : qs.map (·.1) = ns) (hrow : w.ownsRow (g + 1) 40 16 m4 ns.length (nodesC qs)) (hqs : ∀ q ∈ qs, ItemsH w ok q.2.1 q.1.items ∧ FieldsH w ok q.2.2 q.1.fields) (hok : ∀ b, w.heap.size ≤ b → ok b) (hlen : ns.length < 300)
    (ho : w5.ownsRow (g + 1) 40 16 v' (ns.length + 1) (nodesC qs ++ (nodeC zN (.slice none 0 0) (.slice none 0 0)).toList)) (hg : (w.alloc (.cells (nodeC zN (.slice none 0 0) (.slice none 0 0)).toList.toArray 40)).grownBy w5 m4.ownBlock) (hat : v'.ownBlock = m4.ownBlock ∨ v'.ownBlock = some (w.alloc (.cells (nodeC zN (.slice none 0 0) (.slice none 0 0)).toList.toArray 40)).heap.size) :
    PQ w5 g A c l i m0 m1 m2 m3 m4 ∧
    MakeN ((w5.setCell ⟨g, 8, none⟩ v').alloc (.cells (nodeC zN (.slice none 0 0) (.slice none 0 0)) 40)) g A c l m0 m1 m2 m3 w5.heap.size ok i v' (.slice none 0 0) (.slice none 0 0) zN (ns ++ [zN]) ∧ NewR w m4 v' ∧ FS (SN g m4) w ((w5.setCell ⟨g, 8, none⟩ v').alloc (.cells (nodeC zN (.slice none 0 0) (.slice none 0 0)) 40)) ∧ w.heap.size ≤ w5.heap.size := by
  have hsz : (w.alloc (.cells (nodeC zN (.slice none 0 0) (.slice none 0 0)).toList.toArray 40)).heap.size = w.heap.size + 1 := by simp
  have hgm : m4.ownBlock ≠ some g := fun e => by have := hrow.lt g e; omega
  have hF5 : FS (fun b => m4.ownBlock = some b) w w5 := ((FS.refl _ w).alloc _).grown hg fun b hb => .inl hb
  have hlow : ∀ b, m4.ownBlock = some b → g < b ∧ b < w.heap.size := fun b hb => by have := hrow.lt b hb; omega
  have hp5 : PQ w5 g A c l i m0 m1 m2 m3 m4 := hp.fs hF5 fun b hb e => by have := hlow b e; omega
  have hz5 := hF5.size
  have h5s : w.heap.size + 1 ≤ w5.heap.size := by have := hg.size; omega
  have hF6 : FS (SN g m4) w (w5.setCell ⟨g, 8, none⟩ v') := (hF5.weak fun b _ q => .inr q).set (p := ⟨g, 8, none⟩) (.inl (.inl rfl)) v'
  have hF7 := hF6.alloc (.cells (nodeC zN (.slice none 0 0) (.slice none 0 0)) 40)
  have hnew : NewR w m4 v' := by
    rcases hat with hat | hat
    · exact .inl hat
    · exact .inr ⟨_, hat, by omega⟩
  have hc : ∀ (q : Nat → Prop), Clear w (SN g m4) q := fun q => clear_typ fun b _ e => by
    rcases e with e | e
    · subst e; exact hp.typ
    · obtain ⟨cs, h⟩ := own_kind hrow e
      exact ⟨cs, _, _, h, by decide, by decide, by decide⟩
  have hsize : (w5.setCell ⟨g, 8, none⟩ v').heap.size = w5.heap.size := World.size_setCell ..
  have hB : NB ((w5.setCell ⟨g, 8, none⟩ v').alloc (.cells (nodeC zN (.slice none 0 0) (.slice none 0 0)) 40)) w5.heap.size zN (.slice none 0 0) (.slice none 0 0) := by
    have := Blk.new (w5.setCell ⟨g, 8, none⟩ v') 40 (nodeC zN (.slice none 0 0) (.slice none 0 0))
    rw [hsize] at this
    exact this
  have hFl : ∀ {W : World} {q : Nat → Prop}, FieldsH W q (.slice none 0 0) [] := ⟨[], rfl, ⟨World.ownsRow_nil _ _ _ _, fun b hb => by cases hb⟩, fun q hq => by cases hq⟩
  have hIt : ∀ {W : World} {q : Nat → Prop}, ItemsH W q (.slice none 0 0) [] := ⟨World.ownsRow_nil _ _ _ _, fun b hb => by cases hb⟩
  have hNd : NodesH ((w5.setCell ⟨g, 8, none⟩ v').alloc (.cells (nodeC zN (.slice none 0 0) (.slice none 0 0)) 40)) g (okx ok (.slice none 0 0)) v' (ns ++ [zN]) := by
    refine ⟨qs ++ [(zN, .slice none 0 0, .slice none 0 0)], by simp [hq], ?_, ?_⟩
    · have e : nodesC (qs ++ [(zN, .slice none 0 0, .slice none 0 0)]) = nodesC qs ++ (nodeC zN (.slice none 0 0) (.slice none 0 0)).toList := by simp [nodesC]
      rw [List.length_append, e]
      refine World.ownsRow.alloc (own_kept ho fun b hb => Below.heap_setCell w5 ⟨g, 8, none⟩ v' b fun e => ?_) _
      have h1 := (ho.lt _ hb).1
      have e2 : b = g := e
      omega
    · intro q hq'
      rw [List.mem_append] at hq'
      rcases hq' with hq' | hq'
      · obtain ⟨a1, a2⟩ := hqs q hq'
        have k1 := RowH.imp a1 (ok' := okx ok (.slice none 0 0)) fun b _ h => ⟨h, fun e => by cases e⟩
        have k2 := a2.imp (ok' := okx ok (.slice none 0 0)) fun b _ h => ⟨h, fun e => by cases e⟩
        exact ⟨ItemsH.fs k1 hF7 (hc _), k2.fs hF7 (hc _)⟩
      · simp only [List.mem_singleton] at hq'
        subst hq'
        exact ⟨hIt, hFl⟩
  have hok' : ∀ b, ((w5.setCell ⟨g, 8, none⟩ v').alloc (.cells (nodeC zN (.slice none 0 0) (.slice none 0 0)) 40)).heap.size ≤ b → ok b := fun b hb => hok b (by rw [World.size_alloc, hsize] at hb; omega)
  have hgn : g < w5.heap.size := by have := hp.lt; omega
  have hvn : v'.ownBlock ≠ some w5.heap.size := fun e => by have := (ho.lt _ e).2; omega
  exact ⟨hp5, ⟨(hp5.nodes v').keeps ((Keeps.refl _).alloc _), hB, hFl, hNd, hok', hgn, (fun b hb => by cases hb), hvn, by simp; omega⟩, hnew, hF7, hz5⟩
theorem FldS.start (h : MakeN w g A c l m0 m1 m2 m3 n ok i m vi vf nd ns) (h0 : nd.fields = []) : FldS w g A c l m0 m1 m2 m3 n ok m vi vf i nd ns w :=
  ⟨⟨m, vf, h, NewR.refl _ _, NewR.refl _ _⟩, FS.refl _ _, by rw [h0]; simp⟩
/-- .. seen from the world before the node was made. -/
theorem FS.sn {w0 : World} (h : FS (SN g m4) w0 w) (hn : NewR w0 m4 m) (hN : w0.heap.size ≤ n) (k : FS (SF g n m (.slice none 0 0)) w w2) : FS (SN g m4) w0 w2 :=
  h.trans2 k (fun _ _ q => q) fun x hx q => by
    rcases q with q | q | q | q
    · exact .inl q
    · omega
    · rcases hn with e | ⟨b, e, hb⟩
      · exact .inr (e ▸ q)
      · rw [e] at q; injection q with q; omega
    · cases q
theorem GivesNodes.drew {w0 : World} (h : GivesNodes g A c l m0 m1 m2 m3 m4 ok w0 i ns w) : GivesNodes g A c l m0 m1 m2 m3 m4 ok w0 i ns w.drew := by
  obtain ⟨m, h1, h2, h3, h4⟩ := h
  exact ⟨m, h1.keeps (Keeps.refl w).drew, h2.keeps (Keeps.refl w).drew, h3, h4⟩
/-- The node is put to its place. -/
theorem node_end {w0 : World} {R cm k : Nat} (hM : MakeN w g A c l m0 m1 m2 m3 n ok i (.slice (some ⟨R, 0, none⟩) ns.length cm) vi vf nd ns) (hI : ItemsH w ok vi nd.items) (hk : k < ns.length) (hF : FS (SN g m4) w0 w) (hn : NewR w0 m4 (.slice (some ⟨R, 0, none⟩) ns.length cm)) :
    (∀ o, o < 16 → (∃ u, w.cell? ⟨R, k * 16 + o, none⟩ = some u) ∧ w.frozen? ⟨R, k * 16 + o, none⟩ = false) ∧ R ≠ n ∧ R ≠ g ∧
    GivesNodes g A c l m0 m1 m2 m3 m4 ok w0 i (ns.set k nd) (putW w R (k * 16) (nodeC nd vi vf).toList).drew ∧ FS (SN g m4) w0 (putW w R (k * 16) (nodeC nd vi vf).toList).drew := by
  obtain ⟨hp, hB, hFl, ⟨qs, hq, hrow, hqs⟩, hok, hgn, hgf, hmn, hlen⟩ := hM
  have hRn : R ≠ n := fun e => hmn (by rw [e]; rfl)
  have hRg : R ≠ g := fun e => by have := (hrow.lt R rfl).1; omega
  have hql : qs.length = ns.length := by rw [← hq, List.length_map]
  have hP := putW_fs (R := R) (nodeC nd vi vf).toList (k * 16) w
  have hown := putW_own (nodeC nd vi vf).toList (k * 16) w _ hrow
  rw [show (nodeC nd vi vf).toList = (nodeC (nd, vi, vf).1 (nd, vi, vf).2.1 (nd, vi, vf).2.2).toList from rfl, nodesC_put qs k (by omega) (nd, vi, vf)] at hown
  have hc : ∀ (q : Nat → Prop), Clear w (· = R) q := fun q => clear_typ fun b _ e => by
    subst e
    obtain ⟨cs, h⟩ := own_kind hrow rfl
    exact ⟨cs, _, _, h, by decide, by decide, by decide⟩
  refine ⟨fun o ho => ⟨?_, hrow.frozenAt _⟩, hRn, hRg, GivesNodes.drew ⟨.slice (some ⟨R, 0, none⟩) ns.length cm, hp.fs hP fun b hb e => ?_, ⟨qs.set k (nd, vi, vf), by rw [List.map_set, hq], by rw [List.length_set]; exact hown, fun q hq' => ?_⟩, hn, by rw [List.length_set]; exact hlen⟩, ?_⟩
  · rw [hrow.cellAt _ (by omega)]
    exact ⟨_, List.getElem?_eq_getElem (by rw [nodesC_len]; omega)⟩
  · have := (hrow.lt R rfl).1; omega
  · rcases List.mem_or_eq_of_mem_set hq' with h | h
    · obtain ⟨a1, a2⟩ := hqs q h
      exact ⟨ItemsH.fs (RowH.imp a1 fun b _ h => h.1) hP (hc _), (a2.imp fun b _ h => h.1).fs hP (hc _)⟩
    · subst h
      exact ⟨hI.fs hP (hc _), hFl.fs hP (hc _)⟩
  · refine FS.drew (hF.trans2 hP (fun _ _ q => q) fun x hx e => ?_)
    subst e
    rcases hn with e | ⟨b, e, hb⟩
    · exact .inr (e ▸ rfl)
    · have : some x = some b := e
      injection this with this; omega
end
end Go.Proofs.YtckcbgijddglpaaGreatDoor
