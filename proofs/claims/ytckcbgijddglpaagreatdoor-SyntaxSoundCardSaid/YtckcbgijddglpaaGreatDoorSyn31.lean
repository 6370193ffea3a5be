/- What a module's nodes hold; awake; a module of one type. -/
import Derived.Test.YtckcbgijddglpaaGreatDoorSynW
namespace Go.Proofs.YtckcbgijddglpaaGreatDoor
open Go.ChangeShapes Go.WideShapes Go.ChangeAt Go.RowKit Go.PlainAid
set_option linter.unusedVariables false
set_option linter.unusedSimpArgs false
theorem nodesC_get : ∀ (qs : List (NodeV × Value × Value)) (k : Nat) (q : NodeV × Value × Value), qs[k]? = some q → ∀ o, o < 16 → (nodesC qs)[k * 16 + o]? = (nodeC q.1 q.2.1 q.2.2)[o]?
  | [], k, q, h, o, ho => by simp at h
  | p :: qs, 0, q, h, o, ho => by
    simp at h; subst h
    show ((nodeC p.1 p.2.1 p.2.2).toList ++ nodesC qs)[0 * 16 + o]? = _
    rw [Nat.zero_mul, Nat.zero_add, List.getElem?_append_left (by rw [nodeC_len]; exact ho)]
    simp
  | p :: qs, k + 1, q, h, o, ho => by
    simp at h
    show ((nodeC p.1 p.2.1 p.2.2).toList ++ nodesC qs)[(k + 1) * 16 + o]? = _
    rw [List.getElem?_append_right (by rw [nodeC_len]; omega), nodeC_len, show (k + 1) * 16 + o - 16 = k * 16 + o by omega]
    exact nodesC_get qs k q h o ho
theorem NodesH.node {w : World} {g : Nat} {ok : Nat → Prop} {v : Value} {l : List NodeV} (h : NodesH w g ok v l) {k : Nat} {n : NodeV} (hk : l[k]? = some n) : ∃ R c vi vf, v = .slice (some ⟨R, 0, none⟩) l.length c ∧ R < w.heap.size ∧ ∀ o u, o < 16 → (nodeC n vi vf)[o]? = some u → w.cell? ⟨R, k * 16 + o, none⟩ = some u := by
  obtain ⟨qs, hq, hrow, _⟩ := h
  have hkl : k < l.length := (List.getElem?_eq_some_iff.1 hk).1
  obtain ⟨R, c, rfl, _, hR⟩ := hrow.form (by omega)
  have hql : qs.length = l.length := by rw [← hq, List.length_map]
  obtain ⟨q, hqk⟩ : ∃ q, qs[k]? = some q := ⟨_, List.getElem?_eq_getElem (by omega)⟩
  have hq1 : q.1 = n := by
    have h2 : (qs.map (·.1))[k]? = some q.1 := by rw [List.getElem?_map, hqk]; rfl
    rw [hq, hk] at h2
    exact (Option.some.inj h2).symm
  refine ⟨R, c, q.2.1, q.2.2, rfl, hR, fun o u ho hu => ?_⟩
  rw [hrow.cellAt _ (by omega), nodesC_get qs k q hqk o ho, hq1]
  exact hu
set_option maxRecDepth 100000 in
set_option maxHeartbeats 8000000 in
theorem awake05_any {w : World} (hL : LexW w) : Calls Tryz.prog 6 #[] w fun e w' => e = .returned (.bool true) ∧ Keeps w w' := by
  have HT := hide (parseM_any hL awText (by decide))
  rw [awake_mod] at HT
  clear hL
  go_enter Tryz.func6, Tryz.ntmps6
  go_wp2_with fail
  refine (unhide HT).mono ?_
  rintro e w1 ⟨A2, c2, A3, c3, A4, c4, rfl, ⟨g, hgB, h2, h3, h4, h5⟩, hk⟩
  obtain ⟨R, cR, vi0, vf0, hR, hRl, hc0⟩ := h4.node (k := 0) (n := awMod.nodes.getD 0 {}) rfl
  obtain ⟨R', cR', vi1, vf1, hR', _, hc1⟩ := h4.node (k := 1) (n := awMod.nodes.getD 1 {}) rfl
  have h14 : w1.cell? ⟨R, 14, none⟩ = some (.bool true) := hc0 14 _ (by decide) rfl
  have h26' : w1.cell? ⟨R', 26, none⟩ = some (.int .i64 7) := hc1 10 _ (by decide) rfl
  have e1 := hR.symm.trans hR'
  injection e1 with e1 _ e2
  injection e1 with e1; injection e1 with e1
  subst e1
  have e4 : Value.slice A4 awMod.nodes.length c4 = .slice (some ⟨R, 0, none⟩) 2 cR := hR
  have HK := hide hk
  have HE4 := hide e4
  clear h2 h3 h4 h5 hc0 hc1 hk hR hR' e4 HT
  have l2 : awMod.names.length = 1 := rfl
  have l3 : awMod.types.length = 1 := rfl
  have ln : awMod.name = ⟨#[77]⟩ := rfl
  have lt : awMod.tagging = 0 := rfl
  rw [unhide HE4, l2, l3, ln, lt]
  go_wp2
  go_ret
  exact ⟨rfl, (unhide HK).alloc _⟩
end Go.Proofs.YtckcbgijddglpaaGreatDoor
