/- Slices of slices of bytes that come in (as in the texts Join and Parts, without the shelf's Join). -/
import Derived.Test.YtgaapigagglgbaaSpoil
import Derived.Deep.Slices
namespace Go.Proofs.Ytgaapigagglgbaa
open Go.ChangeShapes Go.WideShapes Go.ChangeAt Go.RowKit Go.Deep

/-- The part q: its address, its capacity, its bytes. -/
abbrev Part := Option Addr × Nat × List Int
def PartsH (w : World) (b o : Nat) (ps : List Part) : Prop := ∀ i q, ps[i]? = some q → w.cell? ⟨b, o + i, none⟩ = some (.slice q.1 q.2.2.length q.2.1) ∧ Holds w q.1 q.2.2 ∧ B8 q.2.2
def PartsAny (w : World) (A : Option Addr) (ps : List Part) : Prop := ps = [] ∨ ∃ b o, A = some ⟨b, o, none⟩ ∧ b < w.heap.size ∧ PartsH w b o ps
def flat (ps : List Part) : List Int := ps.flatMap (·.2.2)
theorem flat_bytes {w : World} {b o : Nat} {ps : List Part} (h : PartsH w b o ps) : B8 (flat ps) := by
  intro x hx
  simp only [flat, List.mem_flatMap] at hx
  obtain ⟨q, hq, hx⟩ := hx
  obtain ⟨i, hi, rfl⟩ := List.getElem_of_mem hq
  exact (h i _ (List.getElem?_eq_getElem hi)).2.2 x hx
theorem PartsH.keeps {w w' : World} {b o : Nat} {ps : List Part} (h : PartsH w b o ps) (hk : Keeps w w') (hb : b < w.heap.size) : PartsH w' b o ps := fun i q hq => by
  obtain ⟨h1, h2, h3⟩ := h i q hq
  exact ⟨(Below.cell (p := ⟨b, _, none⟩) hk hb).trans h1, h2.keeps hk, h3⟩
theorem PartsAny.keeps {w w' : World} {A : Option Addr} {ps : List Part} (h : PartsAny w A ps) (hk : Keeps w w') : PartsAny w' A ps := by
  rcases h with h | ⟨b, o, e, hb, hp⟩
  · exact .inl h
  · exact .inr ⟨b, o, e, Nat.lt_of_lt_of_le hb hk.size, hp.keeps hk hb⟩

theorem cell_lt1 {w : World} {a : Addr} {v : Value} (h : w.cell? a = some v) : a.block < w.heap.size := by
  rcases Nat.lt_or_ge a.block w.heap.size with h1 | h1
  · exact h1
  · have hn : w.heap[a.block]? = none := Array.getElem?_eq_none h1
    simp [World.cell?, hn] at h
theorem add_at (b o i : Nat) : (⟨b, o, none⟩ : Addr).add i = ⟨b, o + i, none⟩ := by unfold Addr.add; split <;> simp_all
theorem open_bytes_cells {H : Type} {enc : TypeId × Value → H} {W : World} {fuel : Nat} {cs : List Value} {x : DataW H × List MemPlace}
    (h : DataW.trod enc Try.prog W 0 (fun _ => true) true fuel 28 cs = some x) :
    ∃ q : Part, cs = [.slice q.1 q.2.2.length q.2.1] ∧ Holds W q.1 q.2.2 ∧ B8 q.2.2 ∧ q.2.2.length ≤ maxLen := by
  rcases open_ints Try.underlying28 Try.underlying5 (by kernel_rfl) h with ⟨hcs, _⟩ | ⟨x, n, c, zs, hcs, _, hl, hm, hz, hx, hcell, hwz⟩
  · exact ⟨(none, 0, []), hcs, Holds.nil _, (fun _ h => absurd h (by simp)), by simp⟩
  · have hzl : zs.length = c := by simpa using hz
    have hlen : (zs.take n).length = n := by simp; omega
    refine ⟨(some x, c, zs.take n), by rw [hcs, hlen], ?_, ?_, (by show (zs.take n).length ≤ maxLen; omega)⟩
    · refine ⟨by simp, fun hn => ⟨x, rfl, ?_, fun j u hu => ?_⟩⟩
      · rw [hlen] at hn
        have hc0 := hcell 0 (by omega)
        have hlt := cell_lt1 hc0
        rwa [block_of_add] at hlt
      · have hj : j < n := by
          rcases Nat.lt_or_ge j n with h1 | h1
          · exact h1
          · rw [List.getElem?_eq_none (by rw [List.length_map, hlen]; exact h1)] at hu; cases hu
        rw [hcell j (by omega)]
        rw [List.getElem?_map, List.getElem?_take_of_lt hj] at hu
        rw [List.getElem?_eq_getElem (by omega)] at hu
        simp at hu
        have hjl : j < zs.length := by omega
        simp [← hu, hjl]
    · intro y hy
      exact bounds_u8 (hwz y (List.mem_of_mem_take hy))

theorem open_parts {H : Type} {enc : TypeId × Value → H} {W : World} {b0 : Nat} {v : Value} {d : DataW H} {p : List MemPlace}
    (hv : Value.okWide Try.prog W .any b0 27 v) (h : DataW.Trod enc Try.prog W 0 (fun _ => true) true 27 v d p) :
    ∃ (A : Option Addr) (ps : List Part) (c : Nat), v = .slice A ps.length c ∧ PartsAny W A ps ∧ ps.length ≤ maxLen ∧ ps.length ≤ c ∧ ∀ q ∈ ps, q.2.2.length ≤ maxLen := by
  obtain ⟨a, n, c, rfl⟩ := okWide_slice Try.underlying27 hv
  obtain ⟨fuel, hf⟩ := h
  rcases open_slice1 Try.underlying27 (by kernel_rfl) hf with ⟨hcs, _⟩ | ⟨x, l, cc, m, nf, V, D, Pl, hcs, _, hl, hm, hmm, _, hi⟩
  · simp [Value.cells] at hcs
    obtain ⟨rfl, rfl, rfl⟩ := hcs
    exact ⟨none, [], 0, rfl, .inl rfl, by simp, by simp, fun q hq => absurd hq (by simp)⟩
  · simp [Value.cells] at hcs
    obtain ⟨rfl, rfl, rfl⟩ := hcs
    have hmc : m = c := by simpa using hmm
    subst hmc
    have hcell : ∀ i, ∃ q : Part, i < m → W.cell? (x.add i) = some (.slice q.1 q.2.2.length q.2.1) ∧ Holds W q.1 q.2.2 ∧ B8 q.2.2 ∧ q.2.2.length ≤ maxLen := by
      intro i
      by_cases him : i < m
      · obtain ⟨h1, h2⟩ := hi i him
        obtain ⟨q, e, h3⟩ := open_bytes_cells h2
        simp only [List.cons.injEq, and_true] at e
        rw [e] at h1
        exact ⟨q, fun _ => ⟨h1, h3⟩⟩
      · exact ⟨(none, 0, []), fun h => absurd h him⟩
    obtain ⟨f, hfc⟩ := Classical.axiomOfChoice hcell
    have hlen : ((List.range n).map f).length = n := by simp
    have hget : ∀ i q, ((List.range n).map f)[i]? = some q → i < n ∧ q = f i := by
      intro i q hq
      have hin : i < n := by
        have := (List.getElem?_eq_some_iff.1 hq).1
        rwa [hlen] at this
      refine ⟨hin, ?_⟩
      rw [List.getElem?_map, List.getElem?_range hin] at hq
      simpa using hq.symm
    refine ⟨some x, (List.range n).map f, m, by rw [hlen], ?_, by omega, by omega, ?_⟩
    · rcases Nat.eq_zero_or_pos n with h0 | h0
      · subst h0; exact .inl rfl
      · obtain ⟨b, o, spot⟩ := x
        have hc0 := (hfc 0 (by omega)).1
        rw [show (⟨b, o, spot⟩ : Addr).add 0 = ⟨b, o, spot⟩ from by simp [Addr.add]] at hc0
        have hs := World.cell?_spot hc0
        simp only at hs
        subst hs
        refine .inr ⟨b, o, rfl, cell_lt1 hc0, fun i q hq => ?_⟩
        obtain ⟨hin, rfl⟩ := hget i q hq
        obtain ⟨h1, h2, h3, _⟩ := hfc i (by omega)
        rw [add_at] at h1
        exact ⟨h1, h2, h3⟩
    · intro q hq
      obtain ⟨i, hi2, rfl⟩ := List.getElem_of_mem hq
      obtain ⟨hin, e⟩ := hget i _ (List.getElem?_eq_getElem hi2)
      rw [e]
      exact (hfc i (by omega)).2.2.2

/-- Part k of the parts. -/
theorem PartsAny.at_ {w : World} {A : Option Addr} {ps : List Part} (h : PartsAny w A ps) {k : Nat} (hk : k < ps.length) :
    ∃ b o, A = some ⟨b, o, none⟩ ∧ ∃ q, ps[k]? = some q ∧ w.cell? ⟨b, o + k, none⟩ = some (.slice q.1 q.2.2.length q.2.1) ∧ Holds w q.1 q.2.2 ∧ B8 q.2.2 := by
  rcases h with rfl | ⟨b, o, e, _, hp⟩
  · simp at hk
  · exact ⟨b, o, e, ps[k], List.getElem?_eq_getElem hk, hp k _ (List.getElem?_eq_getElem hk)⟩
theorem flat_take (ps : List Part) (k : Nat) (q : Part) (h : ps[k]? = some q) : flat (ps.take (k + 1)) = flat (ps.take k) ++ q.2.2 := by
  rw [List.take_add_one, h]
  simp [flat]
end Go.Proofs.Ytgaapigagglgbaa
