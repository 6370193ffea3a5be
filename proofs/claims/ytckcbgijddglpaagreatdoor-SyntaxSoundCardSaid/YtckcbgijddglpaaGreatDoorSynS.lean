/- What is parsed is sound: places are there, nodes are numbered in order, names are there. -/
import Derived.Test.YtckcbgijddglpaaGreatDoorSyn29
namespace Go.Proofs.YtckcbgijddglpaaGreatDoor
open Go.PlainAid
set_option linter.unusedVariables false
set_option linter.unnecessarySimpa false
/-! ### Names of tokens are not empty -/
def NameT (t : Tok) : Prop := (t.1 = 1 ∨ t.1 = 2) → 0 < t.2.1.size
theorem tok_name {s : ByteArray} {a : Nat} (ha : a < s.size) {k : Int} {t : ByteArray} {e : Nat} (h : tokAt s a = some (k, t, e)) (p : Nat) : NameT (k, t, p) := by
  have he := tokAt_end ha h
  intro hk
  unfold tokAt at h
  split at h
  · unfold nameAt at h
    split at h
    · simp only [Option.some.injEq, Prod.mk.injEq] at h
      obtain ⟨h1, h2, h3⟩ := h
      show 0 < t.size
      rw [← h2, sub_size _ _ _ (by omega)]; omega
    · cases h
  · exfalso
    simp only at hk
    split at h
    · unfold numAt at h
      split at h
      · cases h; revert hk; decide
      · cases h
    · split at h
      · unfold hexAt at h
        split at h
        · cases h; revert hk; decide
        · cases h
      · split at h
        · unfold quoAt at h
          split at h
          · cases h
          · split at h
            · cases h; revert hk; decide
            · cases h
        · have h1 := (sign_small h).1
          rcases hk with hk | hk <;> (rw [hk] at h1; revert h1; decide)
theorem tks_name (s : ByteArray) : ∀ f i l, i ≤ s.size → tks s f i = .ok l → ∀ t ∈ l, NameT t
  | 0, i, l, hi, h => by cases h
  | f + 1, i, l, hi, h => by
    obtain ⟨h1, h2, h3, h4⟩ := skipAt_is hi
    simp only [tks] at h
    split at h
    · cases h
      intro t ht
      simp only [List.mem_singleton] at ht
      subst ht
      intro hk
      revert hk
      simp
    · split at h
      · cases h
      · rename_i k t e ht
        have he := tokAt_end (by omega) ht
        split at h
        · cases h
        · rename_i l' hl
          cases h
          have ih := tks_name s f e l' he.2 hl
          intro u hu
          simp only [List.mem_cons] at hu
          rcases hu with rfl | hu
          · exact tok_name (by omega) ht _
          · exact ih u hu
def NamesL (l : List Tok) : Prop := ∀ i, NameT (tk l i)
theorem toks_names {s : ByteArray} {l : List Tok} (h : toks s = .ok l) : NamesL l := by
  intro i
  have h0 : ∀ t ∈ l, NameT t := by
    unfold toks at h
    split at h
    · cases h
    · cases ht : toksAt s 0 with
      | error p => rw [ht] at h; cases h
      | ok m => rw [ht] at h; cases h; exact tks_name s _ 0 _ (Nat.zero_le _) ht
  rcases Nat.lt_or_ge i l.length with q | q
  · exact h0 _ (List.mem_of_getElem? (tk_get q))
  · rw [tk_past q]; intro hk; revert hk; simp
/-! ### What fields and nodes keep to -/
/-- Fields of the node at b, of N nodes; those of groups stand behind R. -/
def FO (N b R : Nat) (fs : List FieldV) : Prop := ∀ k f, fs[k]? = some f → b < f.type ∧ f.type < N ∧ 0 < f.name.size ∧ (∀ k' f', k = k' + 1 → fs[k']? = some f' → f'.type < f.type) ∧ (0 < f.group → R ≤ k)
theorem FO.nil (N b R : Nat) : FO N b R [] := by intro k f h; simp at h
theorem FO.mono {N N' b R : Nat} {fs : List FieldV} (h : FO N b R fs) (hN : N ≤ N') : FO N' b R fs := by
  intro k f hk
  obtain ⟨h1, h2, h3, h4, h5⟩ := h k f hk
  exact ⟨h1, by omega, h3, h4, h5⟩
theorem FO.snoc {N N' b R : Nat} {fs : List FieldV} (h : FO N b R fs) (hN : N ≤ N') {f : FieldV} (h1 : b < f.type) (h2 : N ≤ f.type) (h3 : f.type < N') (h4 : 0 < f.name.size) (h5 : 0 < f.group → R ≤ fs.length) : FO N' b R (fs ++ [f]) := by
  intro k g hk
  rcases Nat.lt_trichotomy k fs.length with q | q | q
  · rw [List.getElem?_append_left q] at hk
    obtain ⟨a1, a2, a3, a4, a5⟩ := h k g hk
    refine ⟨a1, by omega, a3, fun k' f' e hf' => ?_, a5⟩
    rw [List.getElem?_append_left (by omega)] at hf'
    exact a4 k' f' e hf'
  · subst q
    simp at hk
    subst hk
    refine ⟨h1, h3, h4, fun k' f' e hf' => ?_, h5⟩
    rw [List.getElem?_append_left (by omega)] at hf'
    have := (h k' f' hf').2.1
    omega
  · rw [List.getElem?_eq_none (by simp; omega)] at hk
    cases hk
/-- A node at b, of N. -/
structure NodeOk (N b : Nat) (n : NodeV) : Prop where
  kind : 1 ≤ n.kind ∧ n.kind ≤ 11
  root : n.root ≤ n.fields.length ∨ n.root ≤ n.items.length
  name : n.kind = 11 ↔ 0 < n.name.size
  flds : FO N b n.root n.fields
  of_ : n.kind = 10 → b < n.of ∧ n.of < N
theorem NodeOk.mono {N N' b : Nat} {n : NodeV} (h : NodeOk N b n) (hN : N ≤ N') : NodeOk N' b n :=
  ⟨h.kind, h.root, h.name, h.flds.mono hN, fun q => ⟨(h.of_ q).1, by have := (h.of_ q).2; omega⟩⟩
/-- More nodes behind, each of which is so. -/
def Ext (ns ms : List NodeV) : Prop := ns.length ≤ ms.length ∧ (∀ x, x < ns.length → ms[x]? = ns[x]?) ∧ (∀ x n, ns.length ≤ x → ms[x]? = some n → NodeOk ms.length x n) ∧ (ns.length ≤ 300 → ms.length ≤ 300)
theorem Ext.refl (ns : List NodeV) : Ext ns ns := ⟨Nat.le_refl _, fun _ _ => rfl, fun x n h1 h2 => (by rw [List.getElem?_eq_none h1] at h2; cases h2), fun h => h⟩
theorem Ext.trans {a b c : List NodeV} (h : Ext a b) (k : Ext b c) : Ext a c := by
  obtain ⟨h1, h2, h3, h4⟩ := h
  obtain ⟨k1, k2, k3, k4⟩ := k
  refine ⟨by omega, fun x hx => (k2 x (by omega)).trans (h2 x hx), fun x n hx hn => ?_, fun q => k4 (h4 q)⟩
  rcases Nat.lt_or_ge x b.length with q | q
  · rw [k2 x q] at hn
    exact (h3 x n hx hn).mono k1
  · exact k3 x n q hn
/-- A way to read a type is sound. -/
def NdOk (nd : NodeP) : Prop := ∀ i ns r, nd i ns = .ok r → r.1 = ns.length ∧ ns.length < r.2.2.length ∧ Ext ns r.2.2
section
variable {l : List Tok} (hl : NamesL l) {nd : NodeP} (hnd : NdOk nd)
include hl
theorem tokT_name {i : Nat} {r : ByteArray × Nat} {k : Int} (hk : k = 1 ∨ k = 2) (h : tokT l i k = .ok r) : 0 < r.1.size := by
  have h0 : k ≠ 0 := by omega
  obtain ⟨h1, h2, _⟩ := tokT_ok h0 h
  rw [h2]
  exact hl i (by rw [h1]; exact hk)
include hnd
theorem fieldT_ok {i : Nat} {ns : List NodeV} {k : Int} {g : Nat} {r : FieldV × Nat × List NodeV} (h : fieldT l nd k g i ns = .ok r) : r.1.type = ns.length ∧ 0 < r.1.name.size ∧ r.1.group = g ∧ ns.length < r.2.2.length ∧ Ext ns r.2.2 := by
  simp only [fieldT, ex_bind] at h
  obtain ⟨⟨s, j1⟩, h1, ⟨a, j2, ms⟩, h2, h3⟩ := h
  have hs := tokT_name hl (.inr rfl) h1
  obtain ⟨h4, h5, h6⟩ := hnd _ _ _ h2
  simp only at *
  split at h3
  · simp only [ex_pure] at h3; subst h3; exact ⟨h4, hs, rfl, h5, h6⟩
  · split at h3
    · simp only [ex_pure] at h3; subst h3; exact ⟨h4, hs, rfl, h5, h6⟩
    · split at h3
      · simp only [ex_bind, ex_pure] at h3
        obtain ⟨⟨v, j3⟩, h3, h7⟩ := h3
        subst h7; exact ⟨h4, hs, rfl, h5, h6⟩
      · simp only [ex_pure] at h3; subst h3; exact ⟨h4, hs, rfl, h5, h6⟩
theorem rootT_ok (b R : Nat) : ∀ (f : Nat) (n : NodeV) (i : Nat) (ns : List NodeV) (r), rootT l nd f n i ns = .ok r → b < ns.length → FO ns.length b R n.fields → Ext ns r.2.2 ∧ FO r.2.2.length b R r.1.1.fields ∧ r.1.1 = { n with fields := r.1.1.fields } := by
  intro f
  induction f with
  | zero => intro n i ns r h; simp [rootT, errT] at h
  | succ f ih =>
    intro n i ns r h hb hf
    unfold rootT at h
    split at h
    · injection h with h; subst h; exact ⟨Ext.refl _, hf, rfl⟩
    · simp only [ex_bind] at h
      obtain ⟨⟨x, j, ms⟩, h1, h2⟩ := h
      obtain ⟨a1, a2, a3, a4, a5⟩ := fieldT_ok hl hnd h1
      simp only at *
      have hf2 : FO ms.length b R (n.fields ++ [x]) := hf.snoc a5.1 (by omega) (by omega) (by omega) a2 (fun q => by omega)
      split at h2
      · obtain ⟨b1, b2, b3⟩ := ih _ _ _ _ h2 (by omega) hf2
        exact ⟨a5.trans b1, b2, by rw [b3]⟩
      · simp only [ex_pure] at h2; subst h2; exact ⟨a5, hf2, rfl⟩
theorem groupT_ok (b R g : Nat) : ∀ (f : Nat) (n : NodeV) (i : Nat) (ns : List NodeV) (r), groupT l nd g f n i ns = .ok r → b < ns.length → R ≤ n.fields.length → FO ns.length b R n.fields → Ext ns r.2.2 ∧ FO r.2.2.length b R r.1.fields ∧ R ≤ r.1.fields.length ∧ r.1 = { n with fields := r.1.fields } := by
  intro f
  induction f with
  | zero => intro n i ns r h; simp [groupT, errT] at h
  | succ f ih =>
    intro n i ns r h hb hR hf
    simp only [groupT, ex_bind] at h
    obtain ⟨⟨x, j, ms⟩, h1, h2⟩ := h
    obtain ⟨a1, a2, a3, a4, a5⟩ := fieldT_ok hl hnd h1
    simp only at *
    have hf2 : FO ms.length b R (n.fields ++ [x]) := hf.snoc a5.1 (by omega) (by omega) (by omega) a2 (fun q => hR)
    have hR2 : R ≤ (n.fields ++ [x]).length := by simp; omega
    split at h2
    · obtain ⟨b1, b2, b3, b4⟩ := ih _ _ _ _ h2 (by omega) hR2 hf2
      exact ⟨a5.trans b1, b2, b3, by rw [b4]⟩
    · simp only [ex_bind, ex_pure] at h2
      obtain ⟨k, h2, h3⟩ := h2
      subst h3; exact ⟨a5, hf2, hR2, rfl⟩
theorem addT_ok (b R : Nat) : ∀ (f g : Nat) (n : NodeV) (i : Nat) (ns : List NodeV) (r), addT l nd f g n i ns = .ok r → b < ns.length → R ≤ n.fields.length → FO ns.length b R n.fields → Ext ns r.2.2 ∧ FO r.2.2.length b R r.1.fields ∧ R ≤ r.1.fields.length ∧ r.1 = { n with fields := r.1.fields } := by
  intro f
  induction f with
  | zero => intro g n i ns r h; simp [addT, errT] at h
  | succ f ih =>
    intro g n i ns r h hb hR hf
    unfold addT at h
    split at h
    · split at h
      · simp only [ex_bind] at h
        obtain ⟨⟨x, j, ms⟩, h1, h2⟩ := h
        obtain ⟨a1, a2, a3, a4⟩ := groupT_ok hl hnd b R _ _ _ _ _ _ h1 hb hR hf
        simp only at *
        obtain ⟨b1, b2, b3, b4⟩ := ih _ _ _ _ _ h2 (by have := a1.1; omega) a3 a2
        exact ⟨a1.trans b1, b2, b3, by rw [b4, a4]⟩
      · simp only [ex_bind] at h
        obtain ⟨⟨x, j, ms⟩, h1, h2⟩ := h
        obtain ⟨a1, a2, a3, a4, a5⟩ := fieldT_ok hl hnd h1
        simp only at *
        have hf2 : FO ms.length b R (n.fields ++ [x]) := hf.snoc a5.1 (by omega) (by omega) (by omega) a2 (fun q => hR)
        have hR2 : R ≤ (n.fields ++ [x]).length := by simp; omega
        obtain ⟨b1, b2, b3, b4⟩ := ih _ _ _ _ _ h2 (by omega) hR2 hf2
        exact ⟨a5.trans b1, b2, b3, by rw [b4]⟩
    · injection h with h; subst h; exact ⟨Ext.refl _, hf, hR, rfl⟩
theorem bracedT_ok {b : Nat} {n : NodeV} {i : Nat} {ns : List NodeV} {r : NodeV × Nat × List NodeV} (h : bracedT l nd n i ns = .ok r) (hb : b < ns.length) (hk : 1 ≤ n.kind ∧ n.kind ≤ 9) (h0 : n.fields = []) (h1 : n.root = 0) (h2 : n.name.size = 0) : Ext ns r.2.2 ∧ NodeOk r.2.2.length b r.1 := by
  have hend : ∀ (N : Nat) (m : NodeV), m.kind = n.kind → m.name = n.name → m.root ≤ m.fields.length → FO N b m.root m.fields → NodeOk N b m := fun N m e1 e2 e3 e4 =>
    ⟨by rw [e1]; omega, .inl e3, by rw [e1, e2, h2]; omega, e4, fun q => by rw [e1] at q; omega⟩
  simp only [bracedT, ex_bind] at h
  obtain ⟨j, _, h⟩ := h
  split at h
  · simp only [ex_pure] at h; subst h
    exact ⟨Ext.refl _, hend _ _ rfl rfl (by rw [h1]; omega) (by rw [h0]; exact FO.nil _ _ _)⟩
  · simp only [ex_bind] at h
    obtain ⟨⟨⟨n1, more⟩, j1, ms⟩, h3, ⟨n2, j2, ms2⟩, h4, j4, _, h5⟩ := h
    simp only [ex_pure] at h5
    simp only at *
    subst h5
    obtain ⟨a1, a2, a3⟩ := rootT_ok hl hnd b n1.fields.length _ _ _ _ _ h3 hb (by rw [h0]; exact FO.nil _ _ _)
    simp only at a1 a2 a3
    have hk1 : n1.kind = n.kind := by rw [a3]
    have hn1 : n1.name = n.name := by rw [a3]
    split at h4
    · obtain ⟨b1, b2, b3, b4⟩ := addT_ok hl hnd b n1.fields.length _ _ _ _ _ _ h4 (by have := a1.1; omega) (Nat.le_refl _) a2
      simp only at b1 b2 b3 b4
      refine ⟨a1.trans b1, hend _ _ ?_ ?_ ?_ ?_⟩
      · rw [b4]; exact hk1
      · rw [b4]; exact hn1
      · show n2.root ≤ n2.fields.length
        have hr : n2.root = n1.fields.length := by rw [b4]
        rw [hr]; exact b3
      · show FO _ b n2.root n2.fields
        have hr : n2.root = n1.fields.length := by rw [b4]
        rw [hr]; exact b2
    · simp only [ex_pure] at h4
      injection h4 with e1 h4; injection h4 with e2 e3
      subst e1 e3
      exact ⟨a1, hend _ _ hk1 hn1 (Nat.le_refl _) a2⟩
omit hnd hl in
theorem markT_ok {n : NodeV} {i : Nat} {r : NodeV × Nat} (h : markT l n i = .ok r) : r.1.fields = n.fields ∧ r.1.items = n.items ∧ r.1.root = n.root ∧ r.1.name = n.name ∧ r.1.kind = n.kind := by
  unfold markT at h
  split at h
  · simp only [ex_bind] at h
    obtain ⟨⟨v, k⟩, h1, h2⟩ := h
    simp only at h2
    split at h2
    · cases h2
    · simp only [ex_bind] at h2
      obtain ⟨j, h2, h3⟩ := h2
      split at h3
      · simp only [ex_pure] at h3; subst h3; exact ⟨rfl, rfl, rfl, rfl, rfl⟩
      · split at h3
        · simp only [ex_pure] at h3; subst h3; exact ⟨rfl, rfl, rfl, rfl, rfl⟩
        · simp only [ex_pure] at h3; subst h3; exact ⟨rfl, rfl, rfl, rfl, rfl⟩
  · injection h with h; subst h; exact ⟨rfl, rfl, rfl, rfl, rfl⟩
omit hnd hl in
theorem itemsT_ok : ∀ (f : Nat) (n : NodeV) (i : Nat) (r : NodeV × Nat), itemsT l f n i = .ok r → n.root ≤ n.items.length → r.1.kind = n.kind ∧ r.1.name = n.name ∧ r.1.fields = n.fields ∧ r.1.root ≤ r.1.items.length := by
  intro f
  induction f with
  | zero => intro n i r h; simp [itemsT, errT] at h
  | succ f ih =>
    intro n i r h hr
    unfold itemsT at h
    split at h
    · split at h
      · obtain ⟨a1, a2, a3, a4⟩ := ih _ _ _ h hr
        exact ⟨a1, a2, a3, a4⟩
      · simp only [ex_bind] at h
        obtain ⟨⟨x, j⟩, h1, h2⟩ := h
        obtain ⟨a1, a2, a3, a4⟩ := ih _ _ _ h2 (by simp only [List.length_append, List.length_singleton]; split <;> omega)
        exact ⟨a1, a2, a3, a4⟩
    · injection h with h; subst h; exact ⟨rfl, rfl, rfl, hr⟩
theorem baseT_ok {b : Nat} {n : NodeV} {i : Nat} {ns : List NodeV} {r : NodeV × Nat × List NodeV} (h : baseT l nd n i ns = .ok r) (hb : b < ns.length) (h0 : n.fields = []) (h1 : n.root = 0) (h2 : n.name.size = 0) : Ext ns r.2.2 ∧ NodeOk r.2.2.length b r.1 := by
  have hend : ∀ (N : Nat) (m : NodeV) (k : Int), m.kind = k → 1 ≤ k ∧ k ≤ 9 → m.name = n.name → m.root = n.root → m.fields = n.fields → NodeOk N b m := fun N m k e1 e2 e3 e4 e5 =>
    ⟨by rw [e1]; omega, .inl (by rw [e4, h1]; omega), by rw [e1, e3, h2]; omega, by rw [e5, h0]; exact FO.nil _ _ _, fun q => by rw [e1] at q; omega⟩
  unfold baseT at h
  rcases ite_or h with ⟨hc, h⟩ | ⟨hc, h⟩
  · injection h with h; subst h
    have hnm := hl i (.inl hc)
    exact ⟨Ext.refl _, ⟨by simp, .inl (by show n.root ≤ _; rw [h1]; omega), ⟨fun _ => hnm, fun _ => rfl⟩, by show FO _ _ _ n.fields; rw [h0]; exact FO.nil _ _ _, fun q => by simp at q⟩⟩
  rcases ite_or h with ⟨hc, h⟩ | ⟨hc, h⟩
  · injection h with h; subst h; exact ⟨Ext.refl _, hend _ _ 1 rfl (by decide) rfl rfl rfl⟩
  rcases ite_or h with ⟨hc, h⟩ | ⟨hc, h⟩
  · injection h with h; subst h; exact ⟨Ext.refl _, hend _ _ 4 rfl (by decide) rfl rfl rfl⟩
  rcases ite_or h with ⟨hc, h⟩ | ⟨hc, h⟩
  · simp only [ex_bind, ex_pure] at h
    obtain ⟨⟨c, j⟩, h3, h4⟩ := h
    subst h4; exact ⟨Ext.refl _, hend _ _ 2 rfl (by decide) rfl rfl rfl⟩
  rcases ite_or h with ⟨hc, h⟩ | ⟨hc, h⟩
  · simp only [ex_bind, ex_pure] at h
    obtain ⟨⟨c, j⟩, h3, h4⟩ := h
    subst h4; exact ⟨Ext.refl _, hend _ _ 6 rfl (by decide) rfl rfl rfl⟩
  rcases ite_or h with ⟨hc, h⟩ | ⟨hc, h⟩
  · simp only [ex_bind, ex_pure] at h
    obtain ⟨j0, _, ⟨c, j⟩, h3, h4⟩ := h
    subst h4; exact ⟨Ext.refl _, hend _ _ 5 rfl (by decide) rfl rfl rfl⟩
  rcases ite_or h with ⟨hc, h⟩ | ⟨hc, h⟩
  · simp only [ex_bind, ex_pure] at h
    obtain ⟨j0, _, ⟨x, j1⟩, _, ⟨n2, j2⟩, h3, j3, _, h4⟩ := h
    simp only at *
    obtain ⟨a1, a2, a3, a4⟩ := itemsT_ok _ _ _ _ h3 (Nat.le_refl 1)
    simp only at a1 a2 a3 a4
    subst h4
    refine ⟨Ext.refl _, ⟨by simp only; rw [a1]; simp, .inr a4, by simp only; rw [a1, a2, h2]; simp, by simp only; rw [a3, h0]; exact FO.nil _ _ _, fun q => by simp only at q; rw [a1] at q; simp at q⟩⟩
  rcases ite_or h with ⟨hc, h⟩ | ⟨hc, h⟩
  · rcases ite_or h with ⟨hc, h⟩ | ⟨hc, h⟩
    · exact bracedT_ok hl hnd h hb (by simp) h0 h1 h2
    · simp only [ex_bind, ex_pure] at h
      obtain ⟨⟨c, j⟩, _, j2, _, ⟨k, j3, ms⟩, h3, h4⟩ := h
      obtain ⟨a1, a2, a3⟩ := hnd _ _ _ h3
      simp only at *
      subst h4
      refine ⟨a3, ⟨by simp, .inl (by show n.root ≤ _; rw [h1]; omega), ⟨fun q => by simp at q, fun q => by exfalso; revert q; show 0 < n.name.size → _; omega⟩, by show FO _ _ _ n.fields; rw [h0]; exact FO.nil _ _ _, fun _ => by show b < k ∧ k < ms.length; omega⟩⟩
  rcases ite_or h with ⟨hc, h⟩ | ⟨hc, h⟩
  · exact bracedT_ok hl hnd h hb (by simp) h0 h1 h2
  rcases ite_or h with ⟨hc, h⟩ | ⟨hc, h⟩
  · exact bracedT_ok hl hnd h hb (by simp) h0 h1 h2
  · simp [errT] at h
end
theorem nodeT_ok {l : List Tok} (hl : NamesL l) : ∀ d, NdOk (nodeT l d) := by
  intro d
  induction d with
  | zero => intro i ns r h; simp only [nodeT] at h; split at h <;> simp [errT] at h
  | succ d ih =>
    intro i ns r h
    simp only [nodeT] at h
    split at h
    · simp [errT] at h
    split at h
    · simp [errT] at h
    rename_i h300
    simp only [ex_bind, ex_pure] at h
    obtain ⟨⟨n, j⟩, h1, ⟨n2, j2, ms⟩, h2, h3⟩ := h
    obtain ⟨m1, m2, m3, m4, m5⟩ := markT_ok h1
    simp only at *
    obtain ⟨a1, a2⟩ := baseT_ok hl ih (b := ns.length) h2 (by simp) (by rw [m1]) (by rw [m3]) (by rw [m4]; rfl)
    simp only at a1 a2
    obtain ⟨e1, e2, e3, e4⟩ := a1
    simp only [List.length_append, List.length_singleton] at e1 e2 e3 e4
    subst h3
    refine ⟨rfl, by simp only [List.length_set]; omega, ⟨by simp only [List.length_set]; omega, fun x hx => ?_, fun x m hx hm => ?_, fun q => ?_⟩⟩
    · rw [List.getElem?_set_ne (by omega), e2 x (by omega), List.getElem?_append_left hx]
    · simp only [List.length_set]
      rcases Nat.lt_or_ge ns.length x with q | q
      · rw [List.getElem?_set_ne (by omega)] at hm
        exact e3 x m (by omega) hm
      · obtain rfl : x = ns.length := by omega
        rw [List.getElem?_set_self (by omega)] at hm
        cases hm
        exact a2
    · simp only [List.length_set]
      exact e4 (by omega)
/-- What a module keeps to. -/
structure ModOk (m : ModV) : Prop where
  len : m.names.length = m.types.length
  names : ∀ (k : Nat) (s : ByteArray), m.names[k]? = some s → 0 < s.size
  types : ∀ (k t : Nat), m.types[k]? = some t → t < m.nodes.length ∧ ∀ (k' t' : Nat), k = k' + 1 → m.types[k']? = some t' → t' < t
  nodes : ∀ (k : Nat) (n : NodeV), m.nodes[k]? = some n → NodeOk m.nodes.length k n
theorem assignsT_ok {l : List Tok} (hl : NamesL l) : ∀ (f : Nat) (m : ModV) (i : Nat) (r : ModV × Nat), assignsT l f m i = .ok r → ModOk m → ModOk r.1 := by
  intro f
  induction f with
  | zero => intro m i r h; simp [assignsT, errT] at h
  | succ f ih =>
    intro m i r h hm
    unfold assignsT at h
    split at h
    · rename_i h1
      split at h
      · simp [errT] at h
      · simp only [ex_bind] at h
        obtain ⟨j, _, ⟨k, j2, ns⟩, h2, h3⟩ := h
        obtain ⟨a1, a2, a3⟩ := nodeT_ok hl _ _ _ _ h2
        obtain ⟨e1, e2, e3, e4⟩ := a3
        simp only at *
        refine ih _ _ _ h3 ⟨by simp [hm.len], fun k' s hs => ?_, fun k' t ht => ?_, fun k' n hn => ?_⟩
        · simp only at hs
          rcases Nat.lt_or_ge k' m.names.length with q | q
          · rw [List.getElem?_append_left q] at hs; exact hm.names _ _ hs
          · rw [List.getElem?_append_right q] at hs
            rcases hq : k' - m.names.length with _ | y
            · rw [hq] at hs; simp at hs; subst hs; exact hl i (.inl h1)
            · rw [hq] at hs; simp at hs
        · simp only at ht ⊢
          rcases Nat.lt_trichotomy k' m.types.length with q | q | q
          · rw [List.getElem?_append_left q] at ht
            obtain ⟨b1, b2⟩ := hm.types _ _ ht
            refine ⟨by omega, fun y t' hy ht' => ?_⟩
            rw [List.getElem?_append_left (by omega)] at ht'
            exact b2 y t' hy ht'
          · subst q
            simp at ht
            subst ht
            refine ⟨by omega, fun y t' hy ht' => ?_⟩
            rw [List.getElem?_append_left (by omega)] at ht'
            have := (hm.types _ _ ht').1
            omega
          · rw [List.getElem?_eq_none (by simp; omega)] at ht
            cases ht
        · simp only at hn ⊢
          rcases Nat.lt_or_ge k' m.nodes.length with q | q
          · rw [e2 _ q] at hn
            exact (hm.nodes _ _ hn).mono e1
          · exact e3 _ _ q hn
    · injection h with h; subst h; exact hm
theorem moduleT_ok {l : List Tok} (hl : NamesL l) {m : ModV} (h : moduleT l = .ok m) : ModOk m ∧ 0 < m.name.size := by
  simp only [moduleT, ex_bind] at h
  obtain ⟨⟨nm, i⟩, h1, i2, _, ⟨t, i3⟩, _, i4, _, i5, _, ⟨m2, i6⟩, h2, i7, _, h3⟩ := h
  split at h3
  · simp only [ex_pure] at h3
    simp only at *
    have hs := assignsT_same _ _ _ _ _ h2
    have hn := tokT_name hl (.inl rfl) h1
    subst h3
    refine ⟨assignsT_ok hl _ _ _ _ h2 ⟨rfl, fun k s q => by simp at q, fun k s q => by simp at q, fun k s q => by simp at q⟩, ?_⟩
    rw [show m2.name = nm from hs.1]
    exact hn
  · simp [errT] at h3
theorem parseT_ok {s : ByteArray} {m : ModV} (h : parseT (toks s) = .ok m) : ModOk m ∧ 0 < m.name.size := by
  rcases ht : toks s with e | l
  · rw [ht] at h; cases h
  · rw [ht] at h
    exact moduleT_ok (toks_names ht) h
end Go.Proofs.YtckcbgijddglpaaGreatDoor
