/- Tags as keys of a map. -/
import Derived.Test.YtahnelbadefedaaTagAwake
import Derived.Lib.SmallJoins
import Derived.MapViews
import Derived.DeepKeys4
import Derived.Maps.Own
import Derived.Maps.OwnOps
import Derived.Maps.OwnSet
import Derived.Maps.Views
namespace Go.Proofs.Ytahnelbadefedaa
open Go.ChangeShapes Go.WideShapes Go.ChangeAt Go.RowKit Go.Maps

/-- A tag whose numbers are ints. -/
def InT (t : Int × Int) : Prop := (Lit.int .i64 t.1).wf = true ∧ (Lit.int .i64 t.2).wf = true
abbrev tagVal (t : Int × Int) : Value := .agg #[.int .i64 t.1, .int .i64 t.2]
/-- The key that a tag is. -/
def kl (t : Int × Int) : Lit := (DataW.agg [.lit (.int .i64 t.1), .lit (.int .i64 t.2)] : DataW Unit).asKey
theorem laidD : laidOutB Try.prog = true := by kernel_rfl
theorem tagTrod (t : Int × Int) (h : InT t) (w : World) : DataW.Trod (H := Unit) (fun _ => ()) Try.prog w 0 (fun _ => true) true 23 (tagVal t) (.agg [.lit (.int .i64 t.1), .lit (.int .i64 t.2)]) [] := by
  have h0 : DataW.trod (H := Unit) (fun _ => ()) Try.prog w 0 (fun _ => true) true 1 3 [.int .i64 t.1] = some (.lit (.int .i64 t.1), []) := trod_int_mk 0 Try.underlying3 h.1
  have h1 : DataW.trod (H := Unit) (fun _ => ()) Try.prog w 0 (fun _ => true) true 1 3 [.int .i64 t.2] = some (.lit (.int .i64 t.2), []) := trod_int_mk 0 Try.underlying3 h.2
  have := Joins.shut_agg2 (v0 := .int .i64 t.1) (v1 := .int .i64 t.2) (y0 := (.lit (.int .i64 t.1), [])) (y1 := (.lit (.int .i64 t.2), [])) (enc := fun _ => ()) (w := w) (base := 0) (spare := fun _ => true) (held := true) Try.underlying23 (by kernel_rfl) (by kernel_rfl) ⟨1, h0⟩ ⟨1, h1⟩
  exact this
theorem tag_key (t : Int × Int) (h : InT t) : keyOf Try.prog 23 (tagVal t) = some (kl t) := by
  have hf : (tagVal t).formed Try.prog 23 = true := by
    have hu : Try.prog.underlying 23 = _ := Try.underlying23
    have hc : Try.prog.cellsOf 23 = 2 := by kernel_rfl
    unfold Value.formed tagVal
    rw [hu, hc]
    rfl
  exact (keyOf_asKey (by kernel_rfl) (by kernel_rfl) hf (tagTrod t h default)).1
theorem tagKeyed : Keyed Try.prog 23 := Keyed.of_law (deep_law_laid laidD (m := 100) (by omega) (by decide +kernel) (by kernel_rfl) (by kernel_rfl))
theorem kl_inj {a b : Int × Int} (ha : InT a) (hb : InT b) (h : kl a = kl b) : a = b := by
  have h1 := tag_key a ha
  rw [h] at h1
  have := tagKeyed.inj h1 (tag_key b hb)
  injection this with this
  obtain ⟨a1, a2⟩ := a
  obtain ⟨b1, b2⟩ := b
  have e1 : (#[Value.int .i64 a1, .int .i64 a2] : Array Value)[0]? = (#[Value.int .i64 b1, .int .i64 b2] : Array Value)[0]? := by rw [this]
  have e2 : (#[Value.int .i64 a1, .int .i64 a2] : Array Value)[1]? = (#[Value.int .i64 b1, .int .i64 b2] : Array Value)[1]? := by rw [this]
  simp at e1 e2
  rw [e1, e2]
theorem kl_key {a : Int × Int} (ha : InT a) : WideAt.IsKeyLit (kl a) := tagKeyed.key (tag_key a ha)

/-- How many tags there are, each counted once. -/
def nd : List (Int × Int) → Nat
  | [] => 0
  | t :: l => if t ∈ l then nd l else nd l + 1
theorem nd_le : ∀ l, nd l ≤ l.length
  | [] => Nat.le_refl _
  | t :: l => by have := nd_le l; simp only [nd, List.length_cons]; split <;> omega
theorem nd_iff : ∀ l, nd l = l.length ↔ l.Nodup
  | [] => by simp [nd]
  | t :: l => by
    have h1 := nd_le l
    have h2 := nd_iff l
    simp only [nd, List.length_cons, List.nodup_cons]
    split
    · constructor
      · intro h; omega
      · intro h; exact absurd (by assumption) h.1
    · constructor
      · intro h; exact ⟨by assumption, h2.1 (by omega)⟩
      · intro h; have := h2.2 h.2; omega
/-- The map that has the tags of l (the last one first). -/
def MapD (D : DataW Unit) (l : List (Int × Int)) : Prop := Tidy D ∧ (∀ t, InT t → (has D (kl t) = true ↔ t ∈ l)) ∧ Maps.size D = nd l
theorem MapD.start : MapD (.map []) [] := ⟨tidy_empty, fun t _ => by simp [has], rfl⟩
theorem MapD.put {D : DataW Unit} {l : List (Int × Int)} (h : MapD D l) (t : Int × Int) (ht : InT t) (d : DataW Unit) : MapD (D.put (kl t) d) (t :: l) := by
  obtain ⟨h1, h2, h3⟩ := h
  refine ⟨h1.put (kl_key ht) d, fun u hu => ?_, ?_⟩
  · by_cases e : u = t
    · subst e
      rw [has_put_same h1.isMap (kl_key ht)]
      simp
    · rw [has_put_other (fun h => e (kl_inj hu ht h)), h2 u hu]
      simp [e]
  · rw [size_put h1, h3]
    simp only [nd]
    by_cases hm : t ∈ l
    · rw [if_pos hm, if_pos ((h2 t ht).2 hm)]
    · rw [if_neg hm, if_neg (fun h => hm ((h2 t ht).1 h))]
end Go.Proofs.Ytahnelbadefedaa
