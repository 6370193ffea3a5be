/- Words of layer 8's laws: a constraint as an argument, and a block that is held while calls make memory. -/
import Derived.Test.YtknmcodpnhdghaaSpan
import Derived.Test.YtknmcodpnhdghaaBndRef
import Derived.Lib.SmallJoins
import Derived.ChangeOld
import Derived.Carry
import Derived.Deep.RegionHeld3
namespace Go.Proofs.Ytknmcodpnhdghaa
open Go.Joins Go.ChangeShapes Go.WideShapes Go.RowKit Go.Deep

section
variable {H : Type} {enc : TypeId × Value → H} {P : Program} {w : World} {base : Nat} {spare : Nat → Bool} {held : Bool}
theorem open_agg6 {r : Reach} {b0 : Nat} {t : TypeId} {f0 f1 f2 f3 f4 f5 : Field} {v : Value} {d : DataW H} {p : List MemPlace} (hs : P.underlying t = some (.struct #[f0, f1, f2, f3, f4, f5])) (hone : oneCellFields P #[f0, f1, f2, f3, f4, f5] = true) (hC : P.cellsOf t = 6)
    (hv : Value.okWide P w r b0 t v) (h : DataW.Trod enc P w base spare held t v d p) :
    ∃ (v0 v1 v2 v3 v4 v5 : Value) (y0 y1 y2 y3 y4 y5 : DataW H × List MemPlace) (n : Nat), v = .agg #[v0, v1, v2, v3, v4, v5] ∧ d = .agg [y0.1, y1.1, y2.1, y3.1, y4.1, y5.1] ∧ p = y0.2 ++ (y1.2 ++ (y2.2 ++ (y3.2 ++ (y4.2 ++ y5.2)))) ∧
      DataW.trod enc P w base spare held n f0.type [v0] = some y0 ∧ DataW.trod enc P w base spare held n f1.type [v1] = some y1 ∧ DataW.trod enc P w base spare held n f2.type [v2] = some y2 ∧ DataW.trod enc P w base spare held n f3.type [v3] = some y3 ∧ DataW.trod enc P w base spare held n f4.type [v4] = some y4 ∧ DataW.trod enc P w base spare held n f5.type [v5] = some y5 := by
  obtain ⟨cs, rfl, hsz⟩ := okWide_struct hs hv
  obtain ⟨l⟩ := cs
  match l, hsz.trans hC with
  | [c0, c1, c2, c3, c4, c5], _ =>
    obtain ⟨fuel, hf⟩ := h
    obtain ⟨xs, n, _, hx, _, hlen, hg⟩ := DataW.trod_struct hs hf
    obtain ⟨o0, k0⟩ := hone_of hone 0 f0 rfl
    obtain ⟨o1, k1⟩ := hone_of hone 1 f1 rfl
    obtain ⟨o2, k2⟩ := hone_of hone 2 f2 rfl
    obtain ⟨o3, k3⟩ := hone_of hone 3 f3 rfl
    obtain ⟨o4, k4⟩ := hone_of hone 4 f4 rfl
    obtain ⟨o5, k5⟩ := hone_of hone 5 f5 rfl
    match xs, hlen with
    | [y0, y1, y2, y3, y4, y5], _ =>
      simp only [Prod.mk.injEq] at hx
      exact ⟨c0, c1, c2, c3, c4, c5, y0, y1, y2, y3, y4, y5, n, rfl, by simpa using hx.1, by simpa using hx.2, by simpa [Value.cells, o0, k0] using hg 0 f0 rfl, by simpa [Value.cells, o1, k1] using hg 1 f1 rfl, by simpa [Value.cells, o2, k2] using hg 2 f2 rfl, by simpa [Value.cells, o3, k3] using hg 3 f3 rfl, by simpa [Value.cells, o4, k4] using hg 4 f4 rfl, by simpa [Value.cells, o5, k5] using hg 5 f5 rfl⟩
end

/-- One block is held whole, and nothing that was there has turned. -/
theorem held_start {w0 w : World} {g : Nat} {t : TypeId} {cs : Array Value} (hb : Blk w g t cs) (hk : Keeps w0 w) :
    (∀ i, w.drew.cell? ⟨g, i, none⟩ = cs[i]?) ∧ Blk w.drew g t cs ∧ Keeps w0 w.drew := ⟨hb.drew.cell, hb.drew, hk.drew⟩
theorem held_step {w0 w w' : World} {g : Nat} {t : TypeId} {cs : Array Value} (h : (∀ i, w.cell? ⟨g, i, none⟩ = cs[i]?) ∧ Blk w g t cs ∧ Keeps w0 w) (hb : Keeps w w') :
    (∀ i, w'.cell? ⟨g, i, none⟩ = cs[i]?) ∧ Blk w' g t cs ∧ Keeps w0 w' := ⟨(h.2.1.keeps hb).cell, h.2.1.keeps hb, h.2.2.trans hb⟩

theorem open_con {H : Type} {enc : TypeId × Value → H} {W : World} {b0 : Nat} {v : Value} {d : DataW H} {p : List MemPlace}
    (hv : Value.okWide Try.prog W .any b0 61 v) (h : DataW.Trod enc Try.prog W 0 (fun _ => true) true 61 v d p) :
    ∃ (h hl hh m : Bool) (l u : Int), v = Con h hl hh m l u ∧ (Lit.int .i64 l).wf = true ∧ (Lit.int .i64 u).wf = true := by
  obtain ⟨v0, v1, v2, v3, v4, v5, y0, y1, y2, y3, y4, y5, n, rfl, _, _, t0, t1, t2, t3, t4, t5⟩ := open_agg6 Try.underlying61 (by kernel_rfl) (by kernel_rfl) hv h
  obtain ⟨b0, e0, _⟩ := DataW.trod_bool Try.underlying4 t0
  obtain ⟨b1, e1, _⟩ := DataW.trod_bool Try.underlying4 t1
  obtain ⟨b2, e2, _⟩ := DataW.trod_bool Try.underlying4 t2
  obtain ⟨b3, e3, _⟩ := DataW.trod_bool Try.underlying4 t3
  obtain ⟨n4, e4, _, w4⟩ := DataW.trod_int Try.underlying2 t4
  obtain ⟨n5, e5, _, w5⟩ := DataW.trod_int Try.underlying2 t5
  simp only [List.cons.injEq, and_true] at e0 e1 e2 e3 e4 e5
  subst e0 e1 e2 e3 e4 e5
  exact ⟨b0, b1, b2, b3, n4, n5, rfl, w4, w5⟩

theorem width_k (n : Int) (w : World) (h0 : 0 ≤ n) (h1 : n ≤ 18446744073709551615) :
    Calls Try.prog 48 #[.int .u64 n] w fun e w' => e = .returned (.int .i64 (Lib.bitLen n.toNat)) ∧ Keeps w w' :=
  (width_any n w h0 h1).mono fun _ _ ⟨a, b⟩ => ⟨a, b ▸ Keeps.refl _⟩
theorem refWidth_k (n : Int) (w : World) (h0 : 0 ≤ n) (h1 : n ≤ 18446744073709551615) :
    Calls Try.prog 49 #[.int .u64 n] w fun e w' => e = .returned (.int .i64 (Lib.bitLen n.toNat)) ∧ Keeps w w' :=
  (refWidth_any n w h0 h1).mono fun _ _ ⟨a, b⟩ => ⟨a, b ▸ Keeps.refl _⟩

end Go.Proofs.Ytknmcodpnhdghaa
