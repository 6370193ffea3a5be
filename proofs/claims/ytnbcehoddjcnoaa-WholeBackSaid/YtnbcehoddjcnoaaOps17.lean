/- An argument that is a slice of layer 17's Ops. -/
import Derived.Test.YtnbcehoddjcnoaaPartsB
namespace Go.Proofs.Ytnbcehoddjcnoaa
open Go.ChangeShapes Go.WideShapes Go.ChangeAt Go.RowKit Go.Deep

/-- One Op: its kind, its number, its value, its span, its octets. -/
abbrev OpV := Int × Int × Int × Int × Part
def OpCells (c0 c1 c2 c3 c4 : Option Value) (w : World) (q : OpV) : Prop :=
  c0 = some (.int .i64 q.1) ∧ c1 = some (.int .i64 q.2.1) ∧ c2 = some (.int .u64 q.2.2.1) ∧ c3 = some (.int .u64 q.2.2.2.1) ∧
  c4 = some (.slice q.2.2.2.2.1 q.2.2.2.2.2.2.length q.2.2.2.2.2.1) ∧ Holds w q.2.2.2.2.1 q.2.2.2.2.2.2 ∧ B8 q.2.2.2.2.2.2 ∧ q.2.2.2.2.2.2.length ≤ maxLen ∧
  0 ≤ q.2.2.1 ∧ q.2.2.1 ≤ 18446744073709551615 ∧ 0 ≤ q.2.2.2.1 ∧ q.2.2.2.1 ≤ 18446744073709551615 ∧ -9223372036854775808 ≤ q.2.1 ∧ q.2.1 ≤ 9223372036854775807
def OpsH (w : World) (b o : Nat) (ps : List OpV) : Prop := ∀ i q, ps[i]? = some q →
  OpCells (w.cell? ⟨b, o + i * 5, none⟩) (w.cell? ⟨b, o + i * 5 + 1, none⟩) (w.cell? ⟨b, o + i * 5 + 2, none⟩) (w.cell? ⟨b, o + i * 5 + 3, none⟩) (w.cell? ⟨b, o + i * 5 + 4, none⟩) w q
def OpsAny (w : World) (A : Option Addr) (ps : List OpV) : Prop := ps = [] ∨ ∃ b o, A = some ⟨b, o, none⟩ ∧ b < w.heap.size ∧ OpsH w b o ps
theorem OpsAny.keeps {w w' : World} {A : Option Addr} {ps : List OpV} (h : OpsAny w A ps) (hk : Keeps w w') : OpsAny w' A ps := by
  rcases h with h | ⟨b, o, e, hb, hp⟩
  · exact .inl h
  · refine .inr ⟨b, o, e, Nat.lt_of_lt_of_le hb hk.size, fun i q hq => ?_⟩
    obtain ⟨h1, h2, h3, h4, h5, h6, h7⟩ := hp i q hq
    exact ⟨(Below.cell (p := ⟨b, _, none⟩) hk hb).trans h1, (Below.cell (p := ⟨b, _, none⟩) hk hb).trans h2, (Below.cell (p := ⟨b, _, none⟩) hk hb).trans h3, (Below.cell (p := ⟨b, _, none⟩) hk hb).trans h4, (Below.cell (p := ⟨b, _, none⟩) hk hb).trans h5, h6.keeps hk, h7⟩

set_option maxRecDepth 100000 in
theorem open_ops {H : Type} {enc : TypeId × Value → H} {W : World} {b0 : Nat} {v : Value} {d : DataW H} {p : List MemPlace}
    (hv : Value.okWide Try.prog W .any b0 22 v) (h : DataW.Trod enc Try.prog W 0 (fun _ => true) true 22 v d p) :
    ∃ (A : Option Addr) (ps : List OpV) (c : Nat), v = .slice A ps.length c ∧ OpsAny W A ps ∧ ps.length ≤ maxLen := by
  obtain ⟨a, n, c, rfl⟩ := okWide_slice Try.underlying22 hv
  obtain ⟨fuel, hf⟩ := h
  rcases open_slice Try.underlying22 hf with ⟨hcs, _⟩ | ⟨x, l, cc, m, nf, D, Pl, hcs, _, hl, hm, hmm, _, hi⟩
  · simp [Value.cells] at hcs
    obtain ⟨rfl, rfl, rfl⟩ := hcs
    exact ⟨none, [], 0, rfl, .inl rfl, by simp⟩
  · simp [Value.cells] at hcs
    obtain ⟨rfl, rfl, rfl⟩ := hcs
    have hmc : m = c := by simpa using hmm
    subst hmc
    have hce : Try.prog.cellsOf 38 = 5 := by kernel_rfl
    rw [hce] at hi
    have hcell : ∀ i, ∃ q : OpV, i < m → OpCells (W.cell? (x.add (i * 5))) (W.cell? (x.add (i * 5 + 1))) (W.cell? (x.add (i * 5 + 2))) (W.cell? (x.add (i * 5 + 3))) (W.cell? (x.add (i * 5 + 4))) W q := by
      intro i
      by_cases him : i < m
      · obtain ⟨cs', h1, h2⟩ := hi i him
        obtain ⟨_, hlen, hcl⟩ := World.cells?_some h1
        obtain ⟨xs, k, hk, hxy, _, hxl, hf⟩ := DataW.trod_struct Try.underlying38 h2
        have e0 := hcl 0 (by omega)
        have e1 := hcl 1 (by omega)
        have e2 := hcl 2 (by omega)
        have e3 := hcl 3 (by omega)
        have e4 := hcl 4 (by omega)
        rw [add_add] at e0 e1 e2 e3 e4
        match xs, hxl, cs', hlen with
        | [y0, y1, y2, y3, y4], _, [v0, v1, v2, v3, v4], _ =>
          have c0 : Try.prog.cellsOf 3 = 1 := by kernel_rfl
          have c2 : Try.prog.cellsOf 36 = 1 := by kernel_rfl
          have c3 : Try.prog.cellsOf 23 = 1 := by kernel_rfl
          have g0 : DataW.trod enc Try.prog W 0 (fun _ => true) true k 3 (([v0, v1, v2, v3, v4].drop 0).take (Try.prog.cellsOf 3)) = some y0 := hf 0 _ rfl
          have g1 : DataW.trod enc Try.prog W 0 (fun _ => true) true k 3 (([v0, v1, v2, v3, v4].drop 1).take (Try.prog.cellsOf 3)) = some y1 := hf 1 _ rfl
          have g2 : DataW.trod enc Try.prog W 0 (fun _ => true) true k 36 (([v0, v1, v2, v3, v4].drop 2).take (Try.prog.cellsOf 36)) = some y2 := hf 2 _ rfl
          have g3 : DataW.trod enc Try.prog W 0 (fun _ => true) true k 36 (([v0, v1, v2, v3, v4].drop 3).take (Try.prog.cellsOf 36)) = some y3 := hf 3 _ rfl
          have g4 : DataW.trod enc Try.prog W 0 (fun _ => true) true k 23 (([v0, v1, v2, v3, v4].drop 4).take (Try.prog.cellsOf 23)) = some y4 := hf 4 _ rfl
          rw [c0] at g0 g1
          rw [c2] at g2 g3
          rw [c3] at g4
          obtain ⟨n0, s0, _, w0⟩ := DataW.trod_int Try.underlying3 g0
          obtain ⟨n1, s1, _, w1⟩ := DataW.trod_int Try.underlying3 g1
          obtain ⟨n2, s2, _, w2⟩ := DataW.trod_int Try.underlying36 g2
          obtain ⟨n3, s3, _, w3⟩ := DataW.trod_int Try.underlying36 g3
          obtain ⟨q, s4, hq1, hq2, hq3⟩ := open_bytes_cells g4
          simp only [List.drop_zero, List.drop_succ_cons, List.take_succ_cons, List.take_zero, List.cons.injEq, and_true] at s0 s1 s2 s3 s4
          subst s0 s1 s2 s3 s4
          exact ⟨(n0, n1, n2, n3, q), fun _ => ⟨e0, e1, e2, e3, e4, hq1, hq2, hq3, (bounds_u64 w2).1, (bounds_u64 w2).2, (bounds_u64 w3).1, (bounds_u64 w3).2, (bounds_i64 w1).1, (bounds_i64 w1).2⟩⟩
      · exact ⟨(0, 0, 0, 0, none, 0, []), fun h => absurd h him⟩
    obtain ⟨f, hfc⟩ := Classical.axiomOfChoice hcell
    have hlen : ((List.range n).map f).length = n := by simp
    have hget : ∀ i q, ((List.range n).map f)[i]? = some q → i < n ∧ q = f i := by
      intro i q hq
      have hin : i < n := by
        have := (List.getElem?_eq_some_iff.1 hq).1
        rwa [hlen] at this
      refine ⟨hin, ?_⟩
      rw [List.getElem?_map, List.getElem?_range hin] at hq
      simpa using hq.symm
    refine ⟨some x, (List.range n).map f, m, by rw [hlen], ?_, by omega⟩
    rcases Nat.eq_zero_or_pos n with h0 | h0
    · subst h0; exact .inl rfl
    · obtain ⟨b, o, spot⟩ := x
      have hc0 := (hfc 0 (by omega)).1
      rw [show (⟨b, o, spot⟩ : Addr).add (0 * 5) = ⟨b, o, spot⟩ from by simp [Addr.add]] at hc0
      have hs := World.cell?_spot hc0
      simp only at hs
      subst hs
      refine .inr ⟨b, o, rfl, cell_lt1 hc0, fun i q hq => ?_⟩
      obtain ⟨hin, rfl⟩ := hget i q hq
      have h1 := hfc i (by omega)
      rw [add_at, add_at, add_at, add_at, add_at] at h1
      rw [← Nat.add_assoc, ← Nat.add_assoc, ← Nat.add_assoc, ← Nat.add_assoc] at h1
      exact h1
theorem OpsAny.at_ {w : World} {A : Option Addr} {ps : List OpV} (h : OpsAny w A ps) {k : Nat} (hk : k < ps.length) :
    ∃ b o kind n v s qa qc xs, A = some ⟨b, o, none⟩ ∧ ps[k]? = some (kind, n, v, s, qa, qc, xs) ∧ w.cell? ⟨b, o + k * 5, none⟩ = some (.int .i64 kind) ∧ w.cell? ⟨b, o + k * 5 + 1, none⟩ = some (.int .i64 n) ∧ w.cell? ⟨b, o + k * 5 + 2, none⟩ = some (.int .u64 v) ∧
      w.cell? ⟨b, o + k * 5 + 3, none⟩ = some (.int .u64 s) ∧ w.cell? ⟨b, o + k * 5 + 4, none⟩ = some (.slice qa xs.length qc) ∧ Holds w qa xs ∧ B8 xs ∧ xs.length ≤ maxLen ∧ 0 ≤ v ∧ v ≤ 18446744073709551615 ∧ 0 ≤ s ∧ s ≤ 18446744073709551615 ∧ -9223372036854775808 ≤ n ∧ n ≤ 9223372036854775807 := by
  rcases h with rfl | ⟨b, o, e, _, hp⟩
  · simp at hk
  · have hq := List.getElem?_eq_getElem hk
    generalize ps[k] = q at hq
    have h2 := hp k q hq
    obtain ⟨kind, n, v, s, qa, qc, xs⟩ := q
    exact ⟨b, o, kind, n, v, s, qa, qc, xs, e, hq, h2⟩
end Go.Proofs.Ytnbcehoddjcnoaa
