/- Arguments that are slices of tags, and slices of them. -/
import Derived.Test.YtahnelbadefedaaTagD2
import Derived.Deep.Slices
import Derived.Deep.Fields
import Derived.ChangeSame
namespace Go.Proofs.Ytahnelbadefedaa
open Go.ChangeShapes Go.WideShapes Go.ChangeAt Go.RowKit Go.Deep

theorem add_at (b o i : Nat) : (⟨b, o, none⟩ : Addr).add i = ⟨b, o + i, none⟩ := by unfold Addr.add; split <;> simp_all
section
variable {H : Type} {enc : TypeId × Value → H} {P : Program} {w : World} {base : Nat} {spare : Nat → Bool} {held : Bool}
theorem open_slice_fields {t e : TypeId} {fs : Array Field} {fuel : Nat} {cs : List Value} {x : DataW H × List MemPlace} (ht : P.underlying t = some (.slice e)) (he : P.underlying e = some (.struct fs))
    (hone : oneCellFields P fs = true) (hC : P.cellsOf e = fs.size) (h : DataW.trod enc P w base spare held fuel t cs = some x) :
    (cs = [.slice none 0 0] ∧ x = (.nil, [])) ∨
    ∃ (a : Addr) (len cap m : Nat) (D : Nat → DataW H) (Pl : Nat → List MemPlace), cs = [.slice (some a) len cap] ∧ base ≤ a.block ∧ len ≤ cap ∧ cap ≤ maxLen ∧ m = (if spare a.block then cap else len) ∧
      x = (.slice ((List.range len).map D) ((List.range (m - len)).map fun j => D (len + j)), MemPlace.row a (m * fs.size) ++ (List.range m).flatMap Pl) ∧
      ∀ i, i < m → ∃ (ys : List (DataW H × List MemPlace)) (n : Nat), D i = .agg (ys.map (·.1)) ∧ Pl i = ys.flatMap (·.2) ∧ ys.length = fs.size ∧
        ∀ (j : Nat) (f : Field), fs[j]? = some f → ∃ (v : Value) (y : DataW H × List MemPlace), w.cell? (a.add (i * fs.size + j)) = some v ∧ ys[j]? = some y ∧ DataW.trod enc P w base spare held n f.type [v] = some y := by
  rcases open_slice ht h with h0 | ⟨a, len, cap, m, n, D, Pl, hcs, hb, hl, hm, hmm, hx, hi⟩
  · exact .inl h0
  · refine .inr ⟨a, len, cap, m, D, Pl, hcs, hb, hl, hm, hmm, by rw [hC] at hx; exact hx, fun i him => ?_⟩
    obtain ⟨cs', hc, ht'⟩ := hi i him
    rw [hC] at hc
    obtain ⟨ys, n', hn', hy, hlen, hyl, hf⟩ := DataW.trod_struct he ht'
    obtain ⟨_, hcl, hat⟩ := World.cells?_some hc
    simp only [Prod.mk.injEq] at hy
    refine ⟨ys, n', hy.1, hy.2, hyl, fun j f hj => ?_⟩
    obtain ⟨ho, hk⟩ := hone_of hone j f hj
    have hjl : j < fs.size := (Array.getElem?_eq_some_iff.1 hj).1
    have hcell := hat j hjl
    have hv : cs'[j]? = some (cs'[j]'(by omega)) := List.getElem?_eq_getElem (by omega)
    have h1 := hf j f hj
    rw [ho, hk] at h1
    have hone' : (cs'.drop j).take 1 = [cs'[j]'(by omega)] := by
      rw [List.drop_eq_getElem_cons (by omega)]
      rfl
    rw [hone'] at h1
    have hys : ys[j]? = some (ys[j]'(by omega)) := List.getElem?_eq_getElem (by omega)
    refine ⟨_, _, ?_, hys, h1.trans hys⟩
    rw [← Go.Deep.add_add, hcell, hv]
end

theorem tagL_get : ∀ (us : List (Int × Int)) (j : Nat) (u : Value), (TagL us)[j]? = some u → ∃ i, i < us.length ∧ ((j = i * 2 ∧ u = .int .i64 (us.getD i (0, 0)).1) ∨ (j = i * 2 + 1 ∧ u = .int .i64 (us.getD i (0, 0)).2))
  | [], j, u, h => by simp [TagL] at h
  | t :: us, 0, u, h => by
    simp [TagL, tagCells] at h
    exact ⟨0, by simp, .inl ⟨rfl, by simp [h]⟩⟩
  | t :: us, 1, u, h => by
    simp [TagL, tagCells] at h
    exact ⟨0, by simp, .inr ⟨rfl, by simp [h]⟩⟩
  | t :: us, j + 2, u, h => by
    have h' : (TagL us)[j]? = some u := by simpa [TagL, tagCells] using h
    obtain ⟨i, hi, hh⟩ := tagL_get us j u h'
    refine ⟨i + 1, by simp; omega, ?_⟩
    rcases hh with ⟨rfl, e⟩ | ⟨rfl, e⟩
    · exact .inl ⟨by omega, by simpa using e⟩
    · exact .inr ⟨by omega, by simpa using e⟩

theorem cell_lt {w : World} {a : Addr} {v : Value} (h : w.cell? a = some v) : a.block < w.heap.size := by
  rcases Nat.lt_or_ge a.block w.heap.size with h1 | h1
  · exact h1
  · have hn : w.heap[a.block]? = none := Array.getElem?_eq_none h1
    simp [World.cell?, hn] at h

theorem open_tags_cells {H : Type} {enc : TypeId × Value → H} {W : World} {fuel : Nat} {cs : List Value} {x : DataW H × List MemPlace}
    (h : DataW.trod enc Try.prog W 0 (fun _ => true) true fuel 26 cs = some x) :
    ∃ q : PartT, cs = [.slice q.1 q.2.2.length q.2.1] ∧ HoldsT W q.1 q.2.2 ∧ (∀ t ∈ q.2.2, InT t) ∧ q.2.2.length ≤ maxLen := by
  rcases open_slice_fields Try.underlying26 Try.underlying23 (by kernel_rfl) (by kernel_rfl) h with ⟨hcs, _⟩ | ⟨x, n, c, m, D, Pl, hcs, _, hl, hm, hmm, _, hi⟩
  · exact ⟨(none, 0, []), hcs, HoldsT.nil _, (fun _ h => absurd h (by simp)), by simp⟩
  · have hmc : m = c := by simpa using hmm
    subst hmc
    have hcell : ∀ i, ∃ t : Int × Int, i < m → W.cell? (x.add (i * 2)) = some (.int .i64 t.1) ∧ W.cell? (x.add (i * 2 + 1)) = some (.int .i64 t.2) ∧ InT t := by
      intro i
      by_cases him : i < m
      · obtain ⟨ys, nf, _, _, _, hff⟩ := hi i him
        obtain ⟨v0, y0, hc0, _, ht0⟩ := hff 0 _ rfl
        obtain ⟨v1, y1, hc1, _, ht1⟩ := hff 1 _ rfl
        obtain ⟨n0, e0, _, w0⟩ := DataW.trod_int Try.underlying3 ht0
        obtain ⟨n1, e1, _, w1⟩ := DataW.trod_int Try.underlying3 ht1
        simp only [List.cons.injEq, and_true] at e0 e1
        subst e0 e1
        exact ⟨(n0, n1), fun _ => ⟨hc0, hc1, w0, w1⟩⟩
      · exact ⟨(0, 0), fun h => absurd h him⟩
    obtain ⟨f, hfc⟩ := Classical.axiomOfChoice hcell
    have hlen : ((List.range n).map f).length = n := by simp
    refine ⟨(some x, m, (List.range n).map f), by rw [hcs, hlen], ⟨by rw [tagL_length], fun hn => ⟨x, rfl, ?_, fun j u hu => ?_⟩⟩, ?_, (by show ((List.range n).map f).length ≤ maxLen; omega)⟩
    · rw [hlen] at hn
      have := cell_lt (hfc 0 (by omega)).1
      rwa [block_of_add] at this
    · obtain ⟨i, hin, hh⟩ := tagL_get _ j u hu
      rw [hlen] at hin
      have hg : ((List.range n).map f).getD i (0, 0) = f i := by simp [hin]
      rw [hg] at hh
      rcases hh with ⟨rfl, rfl⟩ | ⟨rfl, rfl⟩
      · exact (hfc i (by omega)).1
      · exact (hfc i (by omega)).2.1
    · intro t ht
      obtain ⟨i, hi2, rfl⟩ := List.mem_map.1 ht
      exact (hfc i (by have := List.mem_range.1 hi2; omega)).2.2
/-- An argument that is a slice of tags, opened. -/
theorem open_tagsR {H : Type} {enc : TypeId × Value → H} {W : World} {b0 : Nat} {v : Value} {d : DataW H} {p : List MemPlace}
    (hv : Value.okWide Try.prog W .any b0 26 v) (h : DataW.Trod enc Try.prog W 0 (fun _ => true) true 26 v d p) :
    ∃ (A : Option Addr) (ts : List (Int × Int)) (c : Nat), v = .slice A ts.length c ∧ HoldsT W A ts ∧ (∀ t ∈ ts, InT t) ∧ ts.length ≤ maxLen := by
  obtain ⟨a, n, c, rfl⟩ := okWide_slice Try.underlying26 hv
  obtain ⟨fuel, hf⟩ := h
  obtain ⟨q, e, h1, h2, h3⟩ := open_tags_cells hf
  simp [Value.cells] at e
  obtain ⟨rfl, rfl, rfl⟩ := e
  exact ⟨q.1, q.2.2, q.2.1, rfl, h1, h2, h3⟩
theorem open_tparts {H : Type} {enc : TypeId × Value → H} {W : World} {b0 : Nat} {v : Value} {d : DataW H} {p : List MemPlace}
    (hv : Value.okWide Try.prog W .any b0 24 v) (h : DataW.Trod enc Try.prog W 0 (fun _ => true) true 24 v d p) :
    ∃ (A : Option Addr) (ps : List PartT) (c : Nat), v = .slice A ps.length c ∧ PartsT W A ps ∧ ps.length ≤ maxLen ∧ ps.length ≤ c ∧ ∀ q ∈ ps, q.2.2.length ≤ maxLen := by
  obtain ⟨a, n, c, rfl⟩ := okWide_slice Try.underlying24 hv
  obtain ⟨fuel, hf⟩ := h
  rcases open_slice1 Try.underlying24 (by kernel_rfl) hf with ⟨hcs, _⟩ | ⟨x, l, cc, m, nf, V, D, Pl, hcs, _, hl, hm, hmm, _, hi⟩
  · simp [Value.cells] at hcs
    obtain ⟨rfl, rfl, rfl⟩ := hcs
    exact ⟨none, [], 0, rfl, .inl rfl, by simp, by simp, fun q hq => absurd hq (by simp)⟩
  · simp [Value.cells] at hcs
    obtain ⟨rfl, rfl, rfl⟩ := hcs
    have hmc : m = c := by simpa using hmm
    subst hmc
    have hcell : ∀ i, ∃ q : PartT, i < m → W.cell? (x.add i) = some (.slice q.1 q.2.2.length q.2.1) ∧ HoldsT W q.1 q.2.2 ∧ (∀ t ∈ q.2.2, InT t) ∧ q.2.2.length ≤ maxLen := by
      intro i
      by_cases him : i < m
      · obtain ⟨h1, h2⟩ := hi i him
        obtain ⟨q, e, h3⟩ := open_tags_cells h2
        simp only [List.cons.injEq, and_true] at e
        rw [e] at h1
        exact ⟨q, fun _ => ⟨h1, h3⟩⟩
      · exact ⟨(none, 0, []), fun h => absurd h him⟩
    obtain ⟨f, hfc⟩ := Classical.axiomOfChoice hcell
    have hlen : ((List.range n).map f).length = n := by simp
    have hget : ∀ i q, ((List.range n).map f)[i]? = some q → i < n ∧ q = f i := by
      intro i q hq
      have hin : i < n := by
        have := (List.getElem?_eq_some_iff.1 hq).1
        rwa [hlen] at this
      refine ⟨hin, ?_⟩
      rw [List.getElem?_map, List.getElem?_range hin] at hq
      simpa using hq.symm
    refine ⟨some x, (List.range n).map f, m, by rw [hlen], ?_, by omega, by omega, ?_⟩
    · rcases Nat.eq_zero_or_pos n with h0 | h0
      · subst h0; exact .inl rfl
      · obtain ⟨b, o, spot⟩ := x
        have hc0 := (hfc 0 (by omega)).1
        rw [show (⟨b, o, spot⟩ : Addr).add 0 = ⟨b, o, spot⟩ from by simp [Addr.add]] at hc0
        have hs := World.cell?_spot hc0
        simp only at hs
        subst hs
        refine .inr ⟨b, o, rfl, cell_lt hc0, fun i q hq => ?_⟩
        obtain ⟨hin, rfl⟩ := hget i q hq
        obtain ⟨h1, h2, h3, _⟩ := hfc i (by omega)
        rw [add_at] at h1
        exact ⟨h1, h2, h3⟩
    · intro q hq
      obtain ⟨i, hi2, rfl⟩ := List.getElem_of_mem hq
      obtain ⟨hin, e⟩ := hget i _ (List.getElem?_eq_getElem hi2)
      rw [e]
      exact (hfc i (by omega)).2.2.2

theorem open_tag {H : Type} {enc : TypeId × Value → H} {W : World} {b0 : Nat} {v : Value} {d : DataW H} {p : List MemPlace}
    (hv : Value.okWide Try.prog W .any b0 23 v) (h : DataW.Trod enc Try.prog W 0 (fun _ => true) true 23 v d p) :
    ∃ a1 a2 : Int, v = .agg #[.int .i64 a1, .int .i64 a2] := by
  obtain ⟨v0, v1, y0, y1, n, rfl, _, _, t0, t1⟩ := Joins.open_agg2 Try.underlying23 (by kernel_rfl) (by kernel_rfl) hv h
  obtain ⟨n0, e0, _⟩ := DataW.trod_int Try.underlying3 t0
  obtain ⟨n1, e1, _⟩ := DataW.trod_int Try.underlying3 t1
  simp only [List.cons.injEq, and_true] at e0 e1
  subst e0 e1
  exact ⟨n0, n1, rfl⟩
end Go.Proofs.Ytahnelbadefedaa
