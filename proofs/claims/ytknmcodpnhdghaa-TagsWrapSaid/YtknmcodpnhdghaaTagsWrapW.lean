/- The walk of TagsWrap, and an argument that is a slice of tags. -/
import Derived.Test.YtknmcodpnhdghaaTagWrapLaw
import Derived.Deep.Slices
import Derived.Deep.Fields
import Derived.ChangeSame
namespace Go.Proofs.Ytknmcodpnhdghaa
open Go.ChangeShapes Go.WideShapes Go.ChangeAt Go.RowKit Go.Deep

section
variable {H : Type} {enc : TypeId × Value → H} {P : Program} {w : World} {base : Nat} {spare : Nat → Bool} {held : Bool}
theorem open_slice_fields {t e : TypeId} {fs : Array Field} {fuel : Nat} {cs : List Value} {x : DataW H × List MemPlace} (ht : P.underlying t = some (.slice e)) (he : P.underlying e = some (.struct fs))
    (hone : oneCellFields P fs = true) (hC : P.cellsOf e = fs.size) (h : DataW.trod enc P w base spare held fuel t cs = some x) :
    (cs = [.slice none 0 0] ∧ x = (.nil, [])) ∨
    ∃ (a : Addr) (len cap m : Nat) (D : Nat → DataW H) (Pl : Nat → List MemPlace), cs = [.slice (some a) len cap] ∧ base ≤ a.block ∧ len ≤ cap ∧ cap ≤ maxLen ∧ m = (if spare a.block then cap else len) ∧
      x = (.slice ((List.range len).map D) ((List.range (m - len)).map fun j => D (len + j)), MemPlace.row a (m * fs.size) ++ (List.range m).flatMap Pl) ∧
      ∀ i, i < m → ∃ (ys : List (DataW H × List MemPlace)) (n : Nat), D i = .agg (ys.map (·.1)) ∧ Pl i = ys.flatMap (·.2) ∧ ys.length = fs.size ∧
        ∀ (j : Nat) (f : Field), fs[j]? = some f → ∃ (v : Value) (y : DataW H × List MemPlace), w.cell? (a.add (i * fs.size + j)) = some v ∧ ys[j]? = some y ∧ DataW.trod enc P w base spare held n f.type [v] = some y := by
  rcases open_slice ht h with h0 | ⟨a, len, cap, m, n, D, Pl, hcs, hb, hl, hm, hmm, hx, hi⟩
  · exact .inl h0
  · refine .inr ⟨a, len, cap, m, D, Pl, hcs, hb, hl, hm, hmm, by rw [hC] at hx; exact hx, fun i him => ?_⟩
    obtain ⟨cs', hc, ht'⟩ := hi i him
    rw [hC] at hc
    obtain ⟨ys, n', hn', hy, hlen, hyl, hf⟩ := DataW.trod_struct he ht'
    obtain ⟨_, hcl, hat⟩ := World.cells?_some hc
    simp only [Prod.mk.injEq] at hy
    refine ⟨ys, n', hy.1, hy.2, hyl, fun j f hj => ?_⟩
    obtain ⟨ho, hk⟩ := hone_of hone j f hj
    have hjl : j < fs.size := (Array.getElem?_eq_some_iff.1 hj).1
    have hcell := hat j hjl
    have hv : cs'[j]? = some (cs'[j]'(by omega)) := List.getElem?_eq_getElem (by omega)
    have h1 := hf j f hj
    rw [ho, hk] at h1
    have hone' : (cs'.drop j).take 1 = [cs'[j]'(by omega)] := by
      rw [List.drop_eq_getElem_cons (by omega)]
      rfl
    rw [hone'] at h1
    have hys : ys[j]? = some (ys[j]'(by omega)) := List.getElem?_eq_getElem (by omega)
    refine ⟨_, _, ?_, hys, h1.trans hys⟩
    rw [← Go.Deep.add_add, hcell, hv]
end

theorem tagL_get : ∀ (us : List (Int × Int)) (j : Nat) (u : Value), (TagL us)[j]? = some u → ∃ i, i < us.length ∧ ((j = i * 2 ∧ u = .int .i64 (us.getD i (0, 0)).1) ∨ (j = i * 2 + 1 ∧ u = .int .i64 (us.getD i (0, 0)).2))
  | [], j, u, h => by simp [TagL] at h
  | t :: us, 0, u, h => by
    simp [TagL, tagCells] at h
    exact ⟨0, by simp, .inl ⟨rfl, by simp [h]⟩⟩
  | t :: us, 1, u, h => by
    simp [TagL, tagCells] at h
    exact ⟨0, by simp, .inr ⟨rfl, by simp [h]⟩⟩
  | t :: us, j + 2, u, h => by
    have h' : (TagL us)[j]? = some u := by simpa [TagL, tagCells] using h
    obtain ⟨i, hi, hh⟩ := tagL_get us j u h'
    refine ⟨i + 1, by simp; omega, ?_⟩
    rcases hh with ⟨rfl, e⟩ | ⟨rfl, e⟩
    · exact .inl ⟨by omega, by simpa using e⟩
    · exact .inr ⟨by omega, by simpa using e⟩

theorem cell_lt {w : World} {a : Addr} {v : Value} (h : w.cell? a = some v) : a.block < w.heap.size := by
  rcases Nat.lt_or_ge a.block w.heap.size with h1 | h1
  · exact h1
  · have hn : w.heap[a.block]? = none := Array.getElem?_eq_none h1
    simp [World.cell?, hn] at h
/-- An argument that is a slice of tags, opened. -/
theorem open_tags {H : Type} {enc : TypeId × Value → H} {W : World} {b0 : Nat} {v : Value} {d : DataW H} {p : List MemPlace}
    (hv : Value.okWide Try.prog W .any b0 73 v) (h : DataW.Trod enc Try.prog W 0 (fun _ => true) true 73 v d p) :
    ∃ (A : Option Addr) (ts : List (Int × Int)) (c : Nat), v = .slice A ts.length c ∧ HoldsT W A ts ∧ ts.length ≤ maxLen ∧ ts.length ≤ c := by
  obtain ⟨a, n, c, rfl⟩ := okWide_slice Try.underlying73 hv
  obtain ⟨fuel, hf⟩ := h
  rcases open_slice_fields Try.underlying73 Try.underlying71 (by kernel_rfl) (by kernel_rfl) hf with ⟨hcs, _⟩ | ⟨x, l, cc, m, D, Pl, hcs, _, hl, hm, hmm, _, hi⟩
  · simp [Value.cells] at hcs
    obtain ⟨rfl, rfl, rfl⟩ := hcs
    exact ⟨none, [], 0, rfl, HoldsT.empty _ _, by simp, by simp⟩
  · simp [Value.cells] at hcs
    obtain ⟨rfl, rfl, rfl⟩ := hcs
    have hmc : m = c := by simpa using hmm
    subst hmc
    have hcell : ∀ i, ∃ t : Int × Int, i < m → W.cell? (x.add (i * 2)) = some (.int .i64 t.1) ∧ W.cell? (x.add (i * 2 + 1)) = some (.int .i64 t.2) := by
      intro i
      by_cases him : i < m
      · obtain ⟨ys, nf, _, _, _, hff⟩ := hi i him
        obtain ⟨v0, y0, hc0, _, ht0⟩ := hff 0 _ rfl
        obtain ⟨v1, y1, hc1, _, ht1⟩ := hff 1 _ rfl
        obtain ⟨n0, e0, _⟩ := DataW.trod_int Try.underlying3 ht0
        obtain ⟨n1, e1, _⟩ := DataW.trod_int Try.underlying3 ht1
        simp only [List.cons.injEq, and_true] at e0 e1
        subst e0 e1
        exact ⟨(n0, n1), fun _ => ⟨hc0, hc1⟩⟩
      · exact ⟨(0, 0), fun h => absurd h him⟩
    obtain ⟨f, hfc⟩ := Classical.axiomOfChoice hcell
    have hlen : ((List.range n).map f).length = n := by simp
    refine ⟨some x, (List.range n).map f, m, by rw [hlen], ⟨by rw [tagL_length], fun hn => ⟨x, rfl, ?_, fun j u hu => ?_⟩⟩, by omega, by omega⟩
    · rw [hlen] at hn
      have := cell_lt (hfc 0 (by omega)).1
      rwa [block_of_add] at this
    · obtain ⟨i, hin, hh⟩ := tagL_get _ j u hu
      rw [hlen] at hin
      have hg : ((List.range n).map f).getD i (0, 0) = f i := by simp [hin]
      rw [hg] at hh
      rcases hh with ⟨rfl, rfl⟩ | ⟨rfl, rfl⟩
      · exact (hfc i (by omega)).1
      · exact (hfc i (by omega)).2

set_option maxRecDepth 100000 in
set_option maxHeartbeats 4000000 in
theorem wrapLaw_any (A : Option Addr) (ts : List (Int × Int)) (c : Nat) (number mode : Int) (w : World) (hh : HoldsT w A ts) (hl : ts.length ≤ maxLen) (hc : ts.length ≤ c) :
    Calls Try.prog 13 #[.slice A ts.length c, .int .i64 number, .int .i64 mode] w fun e w' => e = .returned (.bool true) ∧ Keeps w w' := by
  have hm : ts.length ≤ 9223372036854775807 := by unfold maxLen at hl; exact hl
  clear hl
  by_cases hb : 100 < ts.length
  · go_enter Try.func13, Try.ntmps13
    go_wp2_with (go_at_call 50; refine (awake09_any _).mono ?_; rintro e w1 ⟨rfl, hk⟩)
    all_goals
      go_ret
      exact ⟨rfl, hk⟩
  · have hn : ts.length ≤ 100 := by omega
    clear hb hm
    have hr : (wrapT ts number mode).1.length ≤ 1000 := by
      unfold wrapT
      split
      · simp
      · split
        · split
          · simp
          · simp at *; omega
        · simp; omega
    have HR := hide hr
    clear hr
    go_enter Try.func13, Try.ntmps13
    go_wp2_with fail
    refine (ownT_any A ts c 3 71 (by omega) _ hh).mono ?_
    rintro e w1 ⟨g, rfl, hb, hg, hk⟩
    replace hh := hh.keeps hk
    go_wp2_with fail
    refine (wrap_any _ ts _ number mode (by omega) (by omega) _ (ownCellsT_holds hb)).mono ?_
    rintro e w2 ⟨A2, c2, rfl, hc2, hown2, hk2⟩
    have h2 := holdsT_of_own hown2
    replace hh := hh.keeps hk2
    replace hb := hb.keeps hk2
    replace hk := hk.trans hk2
    clear hown2 hk2
    go_wp2_with fail
    refine (refWrap_any _ ts _ number mode (by omega) hc _ hh).mono ?_
    rintro e w3 ⟨A3, c3, rfl, hc3, hown3, hk3⟩
    have h3 := holdsT_of_own hown3
    replace h2 := h2.keeps hk3
    replace hh := hh.keeps hk3
    replace hb := hb.keeps hk3
    replace hk := hk.trans hk3
    clear hown3 hk3
    generalize wrapT ts number mode = r at *
    obtain ⟨rs, code⟩ := r
    simp only at *
    go_wp2_with fail
    refine (awake09_any _).mono ?_
    rintro e w4 ⟨rfl, hk4⟩
    replace h2 := h2.keeps hk4
    replace h3 := h3.keeps hk4
    replace hh := hh.keeps hk4
    replace hb := hb.keeps hk4
    replace hk := hk.trans hk4
    clear hk4
    go_wp2_with fail
    refine (plainT_any A2 A3 rs c2 c3 _ h2 h3 (by have : rs.length ≤ 1000 := unhide HR; omega)).mono ?_
    rintro e w5 ⟨rfl, hk5⟩
    replace hh := hh.keeps hk5
    replace hb := hb.keeps hk5
    replace hk := hk.trans hk5
    clear hk5
    go_wp2_with fail
    refine (keptT_any g A ts c 3 71 (by omega) _ hb hh).mono ?_
    rintro e w6 ⟨rfl, hk6⟩
    go_wp2
    go_ret
    exact ⟨rfl, hk.trans hk6⟩

end Go.Proofs.Ytknmcodpnhdghaa
