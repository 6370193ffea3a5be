/- No error has the number 0: what is bounded in the parser as a function is never used up. -/
import Derived.Test.YtckcbgijddglpaaGreatDoorSynS
namespace Go.Proofs.YtckcbgijddglpaaGreatDoor
open Go.PlainAid
set_option linter.unusedVariables false
set_option linter.unnecessarySimpa false
/-- An error has a number, and a result's place is within the list. -/
def Ok2 {α : Type} (l : List Tok) (ix : α → Nat) (r : Except SErr α) : Prop := (∀ p x, r = .error (p, x) → x ≠ 0) ∧ ∀ a, r = .ok a → ix a ≤ l.length
section
variable {l : List Tok} {α β : Type} {ix : α → Nat} {iy : β → Nat}
theorem Ok2.bind {r : Except SErr α} {f : α → Except SErr β} (h : Ok2 l ix r) (k : ∀ a, r = .ok a → ix a ≤ l.length → Ok2 l iy (f a)) : Ok2 l iy (r >>= f) := by
  cases r with
  | error e => exact ⟨fun p x q => h.1 p x (by simpa [Bind.bind, Except.bind] using q), fun a q => by simp [Bind.bind, Except.bind] at q⟩
  | ok a => exact k a rfl (h.2 a rfl)
theorem Ok2.err (i : Nat) {x : Int} (hx : x ≠ 0) : Ok2 l ix (errT l i x : Except SErr α) := ⟨fun p y q => by injection q with q; injection q with _ q; rw [← q]; exact hx, fun a q => by simp [errT] at q⟩
theorem Ok2.pure {a : α} (h : ix a ≤ l.length) : Ok2 l ix (.ok a) := ⟨fun p y q => (by cases q), fun b q => (by cases q; exact h)⟩
theorem Ok2.ite {c : Prop} [Decidable c] {a b : Except SErr α} (h1 : c → Ok2 l ix a) (h2 : ¬ c → Ok2 l ix b) : Ok2 l ix (if c then a else b) := by
  by_cases q : c
  · rw [if_pos q]; exact h1 q
  · rw [if_neg q]; exact h2 q
theorem kind_lt {i : Nat} (h : (tk l i).1 ≠ 0) : i < l.length := by
  rcases Nat.lt_or_ge i l.length with q | q
  · exact q
  · rw [tk_past q] at h; exact absurd rfl h
theorem isT_lt {i : Nat} {s : ByteArray} (h : isT l i s = true) : i < l.length := by
  refine kind_lt fun q => ?_
  rw [isT, q] at h
  simp at h
theorem wantT_2 (i : Nat) (s : ByteArray) : Ok2 l id (wantT l i s) := Ok2.ite (fun h => Ok2.pure (isT_lt h)) (fun _ => Ok2.err _ (by decide))
theorem tokT_2 (i : Nat) {k : Int} (hk : k ≠ 0) : Ok2 l (fun r => r.2) (tokT l i k) :=
  Ok2.ite (fun h => Ok2.pure (by have := kind_lt (l := l) (i := i) (by rw [h]; exact hk); show skT l i ≤ _; rw [skT, if_neg (by rw [h]; exact hk)]; omega)) (fun _ => Ok2.err _ (by decide))
theorem numberT_2 (i : Nat) : Ok2 l (fun r => r.2) (numberT l i) := Ok2.bind (tokT_2 i (by decide)) fun a _ h => Ok2.pure h
theorem boundsT_2 (i : Nat) : Ok2 l (fun r => r.2) (boundsT l i) := by
  unfold boundsT
  refine Ok2.bind (ix := fun r => r.2) (Ok2.ite (fun h => Ok2.pure (isT_lt h)) fun _ => Ok2.bind (numberT_2 i) fun a _ h => Ok2.pure h) fun a _ ha => ?_
  refine Ok2.bind (ix := fun r => r.2) (Ok2.ite (fun h => Ok2.ite (fun h2 => Ok2.pure (by have := isT_lt h2; show a.2 + 2 ≤ _; omega)) fun _ => Ok2.bind (numberT_2 _) fun a _ h => Ok2.pure h) fun _ => Ok2.pure ha) fun b _ hb => ?_
  exact Ok2.ite (fun h => Ok2.bind (wantT_2 _ _) fun c _ hc => Ok2.pure hc) fun _ => Ok2.pure hb
theorem rangeT_2 {i : Nat} (hi : i ≤ l.length) : Ok2 l (fun r => r.2) (rangeT l i) :=
  Ok2.ite (fun h => Ok2.bind (boundsT_2 _) fun a _ ha => Ok2.bind (wantT_2 _ _) fun c _ hc => Ok2.pure hc) fun _ => Ok2.pure hi
theorem sizeT_2 {i : Nat} (hi : i ≤ l.length) : Ok2 l (fun r => r.2) (sizeT l i) :=
  Ok2.ite (fun h => Ok2.bind (wantT_2 _ _) fun _ _ _ => Ok2.bind (wantT_2 _ _) fun _ _ _ => Ok2.bind (boundsT_2 _) fun a _ ha => Ok2.bind (wantT_2 _ _) fun _ _ _ => Ok2.bind (wantT_2 _ _) fun c _ hc => Ok2.pure hc) fun _ => Ok2.pure hi
theorem itemT_2 (i : Nat) : Ok2 l (fun r => r.2) (itemT l i) :=
  Ok2.bind (tokT_2 i (by decide)) fun a _ ha => Ok2.ite (fun h => Ok2.bind (numberT_2 _) fun b _ hb => Ok2.bind (wantT_2 _ _) fun c _ hc => Ok2.pure hc) fun _ => Ok2.pure ha
theorem itemsT_2 : ∀ (f : Nat) (n : NodeV) (i : Nat), i ≤ l.length → l.length < f + i → Ok2 l (fun r => r.2) (itemsT l f n i) := by
  intro f
  induction f with
  | zero => intro n i h1 h2; omega
  | succ f ih =>
    intro n i h1 h2
    unfold itemsT
    refine Ok2.ite (fun h => Ok2.ite (fun h3 => ih _ _ (by have := isT_lt h3.2; omega) (by omega)) fun _ => Ok2.bind (itemT_2 _) fun a e ha => ih _ _ ha ?_) fun _ => Ok2.pure h1
    have := itemT_lt e
    omega
theorem valueT_2 {i : Nat} : Ok2 l (fun r => r.2) (valueT l i) := by
  unfold valueT
  have hp : ∀ {k : Int} {v : ValV}, (tk l i).1 = k → k ≠ 0 → Ok2 l (fun r => r.2) (.ok (v, i + 1)) := fun h hk => Ok2.pure (kind_lt (by rw [h]; exact hk))
  exact Ok2.ite (fun h => hp h (by decide)) fun _ => Ok2.ite (fun h => hp h (by decide)) fun _ => Ok2.ite (fun h => hp h (by decide)) fun _ => Ok2.ite (fun h => hp h (by decide)) fun _ =>
    Ok2.ite (fun h => Ok2.pure (isT_lt h)) fun _ => Ok2.ite (fun h => Ok2.pure (isT_lt h)) fun _ => Ok2.ite (fun h => Ok2.pure (isT_lt h)) fun _ => Ok2.err _ (by decide)
theorem markT_2 {n : NodeV} {i : Nat} (hi : i ≤ l.length) : Ok2 l (fun r => r.2) (markT l n i) := by
  unfold markT
  refine Ok2.ite (fun h => Ok2.bind (numberT_2 _) fun a _ ha => Ok2.ite (fun _ => ⟨fun p x q => by injection q with q; injection q with _ q; rw [← q]; decide, fun b q => by cases q⟩) fun _ => Ok2.bind (wantT_2 _ _) fun c _ hc => ?_) fun _ => Ok2.pure hi
  exact Ok2.ite (fun h => Ok2.pure (isT_lt h)) fun _ => Ok2.ite (fun h => Ok2.pure (isT_lt h)) fun _ => Ok2.pure hc
end
/-- A way to read a type. -/
def Nd2 (l : List Tok) (nd : NodeP) : Prop := ∀ i ns, i ≤ l.length → Ok2 l (fun r => r.2.1) (nd i ns)
section
variable {l : List Tok} {nd : NodeP} (h2 : Nd2 l nd) (hnd : NdLe nd)
include h2
theorem fieldT_2 {k : Int} {g i : Nat} {ns : List NodeV} : Ok2 l (fun r => r.2.1) (fieldT l nd k g i ns) := by
  unfold fieldT
  refine Ok2.bind (tokT_2 i (by decide)) fun a _ ha => Ok2.bind (h2 _ _ ha) fun b _ hb => ?_
  exact Ok2.ite (fun _ => Ok2.pure hb) fun _ => Ok2.ite (fun h => Ok2.pure (isT_lt h)) fun _ => Ok2.ite (fun h => Ok2.bind (valueT_2) fun c _ hc => Ok2.pure hc) fun _ => Ok2.pure hb
include hnd
theorem rootT_2 : ∀ (f : Nat) (n : NodeV) (i : Nat) (ns : List NodeV), i ≤ l.length → l.length < f + i → Ok2 l (fun r => r.2.1) (rootT l nd f n i ns) := by
  intro f
  induction f with
  | zero => intro n i ns h1 h3; omega
  | succ f ih =>
    intro n i ns h1 h3
    unfold rootT
    refine Ok2.ite (fun h => Ok2.pure h1) fun _ => Ok2.bind (fieldT_2 h2) fun a e ha => Ok2.ite (fun h => ih _ _ _ (isT_lt h) ?_) fun _ => Ok2.pure ha
    have := fieldT_lt hnd e
    obtain ⟨x, j, ms⟩ := a
    simp only at *
    omega
omit h2 hnd in
theorem rootT_dots : ∀ (f : Nat) (n : NodeV) (i : Nat) (ns : List NodeV) (r), rootT l nd f n i ns = .ok r → r.1.2 = true → isT l r.2.1 s_dots = true := by
  intro f
  induction f with
  | zero => intro n i ns r h; simp [rootT, errT] at h
  | succ f ih =>
    intro n i ns r h hr
    unfold rootT at h
    split at h
    · rename_i hd
      injection h with h; subst h; exact hd
    · simp only [ex_bind] at h
      obtain ⟨⟨x, j, ms⟩, h1, h2⟩ := h
      simp only at h2
      split at h2
      · exact ih _ _ _ _ h2 hr
      · simp only [ex_pure] at h2; subst h2; cases hr
theorem groupT_2 (g : Nat) : ∀ (f : Nat) (n : NodeV) (i : Nat) (ns : List NodeV), i ≤ l.length → l.length < f + i → Ok2 l (fun r => r.2.1) (groupT l nd g f n i ns) := by
  intro f
  induction f with
  | zero => intro n i ns h1 h3; omega
  | succ f ih =>
    intro n i ns h1 h3
    unfold groupT
    refine Ok2.bind (fieldT_2 h2) fun a e ha => Ok2.ite (fun h => ih _ _ _ (isT_lt h) ?_) fun _ => Ok2.bind (wantT_2 _ _) fun c _ hc => Ok2.pure hc
    have := fieldT_lt hnd e
    obtain ⟨x, j, ms⟩ := a
    simp only at *
    omega
theorem addT_2 : ∀ (f g : Nat) (n : NodeV) (i : Nat) (ns : List NodeV), i ≤ l.length → l.length < f + i → Ok2 l (fun r => r.2.1) (addT l nd f g n i ns) := by
  intro f
  induction f with
  | zero => intro g n i ns h1 h3; omega
  | succ f ih =>
    intro g n i ns h1 h3
    unfold addT
    refine Ok2.ite (fun h => Ok2.ite (fun h4 => Ok2.bind (groupT_2 h2 hnd _ _ _ _ _ (by have := isT_lt h4; omega) (by omega)) fun a e ha => ih _ _ _ _ ha ?_) fun _ => Ok2.bind (fieldT_2 h2) fun a e ha => ih _ _ _ _ ha ?_) fun _ => Ok2.pure h1
    · have := groupT_le hnd _ _ _ _ _ _ e
      obtain ⟨x, j, ms⟩ := a
      simp only at *
      omega
    · have := fieldT_lt hnd e
      obtain ⟨x, j, ms⟩ := a
      simp only at *
      omega
theorem bracedT_2 {n : NodeV} {i : Nat} {ns : List NodeV} : Ok2 l (fun r => r.2.1) (bracedT l nd n i ns) := by
  unfold bracedT
  refine Ok2.bind (wantT_2 _ _) fun a _ ha => Ok2.ite (fun h => Ok2.pure (isT_lt h)) fun _ => Ok2.bind (rootT_2 h2 hnd _ _ _ _ ha (by omega)) fun b e hb => ?_
  refine Ok2.bind (ix := fun r => r.2.1) (Ok2.ite (fun h => addT_2 h2 hnd _ _ _ _ _ (isT_lt (rootT_dots _ _ _ _ _ e h)) (by omega)) fun _ => Ok2.pure hb) fun c _ hc => ?_
  exact Ok2.bind (wantT_2 _ _) fun d _ hd => Ok2.pure hd
theorem baseT_2 {n : NodeV} {i : Nat} {ns : List NodeV} (hi : i ≤ l.length) : Ok2 l (fun r => r.2.1) (baseT l nd n i ns) := by
  unfold baseT
  refine Ok2.ite (fun h => Ok2.pure (kind_lt (by rw [h]; decide))) fun _ => Ok2.ite (fun h => Ok2.pure (isT_lt h)) fun _ => Ok2.ite (fun h => Ok2.pure (isT_lt h)) fun _ => ?_
  refine Ok2.ite (fun h => Ok2.bind (rangeT_2 (isT_lt h)) fun a _ ha => Ok2.pure ha) fun _ => Ok2.ite (fun h => Ok2.bind (sizeT_2 (isT_lt h)) fun a _ ha => Ok2.pure ha) fun _ => ?_
  refine Ok2.ite (fun h => Ok2.bind (wantT_2 _ _) fun c _ hc => Ok2.bind (sizeT_2 hc) fun a _ ha => Ok2.pure ha) fun _ => ?_
  refine Ok2.ite (fun h => Ok2.bind (wantT_2 _ _) fun c _ hc => Ok2.bind (itemT_2 _) fun a _ ha => Ok2.bind (itemsT_2 _ _ _ ha (by omega)) fun b _ hb => Ok2.bind (wantT_2 _ _) fun d _ hd => Ok2.pure hd) fun _ => ?_
  refine Ok2.ite (fun h => Ok2.ite (fun _ => bracedT_2 h2 hnd) fun _ => Ok2.bind (sizeT_2 (isT_lt h)) fun a _ ha => Ok2.bind (wantT_2 _ _) fun c _ hc => Ok2.bind (h2 _ _ hc) fun d _ hd => Ok2.pure hd) fun _ => ?_
  exact Ok2.ite (fun _ => bracedT_2 h2 hnd) fun _ => Ok2.ite (fun _ => bracedT_2 h2 hnd) fun _ => Ok2.err _ (by decide)
end
theorem nodeT_2 (l : List Tok) : ∀ d, Nd2 l (nodeT l d) := by
  intro d
  induction d with
  | zero => intro i ns hi; exact Ok2.ite (fun _ => Ok2.err _ (by decide)) fun _ => Ok2.err _ (by decide)
  | succ d ih =>
    intro i ns hi
    exact Ok2.ite (fun _ => Ok2.err _ (by decide)) fun _ => Ok2.ite (fun _ => Ok2.err _ (by decide)) fun _ => Ok2.bind (markT_2 hi) fun a _ ha => Ok2.bind (baseT_2 ih (nodeT_le l d) ha) fun b _ hb => Ok2.pure hb
theorem taggingT_2 {l : List Tok} {i : Nat} (hi : i ≤ l.length) : Ok2 l (fun r => r.2) (taggingT l i) := by
  have hp : ∀ k : Int, Ok2 l (fun r => r.2) (do return (k, ← wantT l (i + 1) wTAGS)) := fun k => Ok2.bind (wantT_2 _ _) fun c _ hc => Ok2.pure hc
  exact Ok2.ite (fun _ => hp 0) fun _ => Ok2.ite (fun _ => hp 1) fun _ => Ok2.ite (fun _ => hp 2) fun _ => Ok2.pure hi
theorem assignsT_2 {l : List Tok} : ∀ (f : Nat) (m : ModV) (i : Nat), i ≤ l.length → l.length < f + i → Ok2 l (fun r => r.2) (assignsT l f m i) := by
  intro f
  induction f with
  | zero => intro m i h1 h2; omega
  | succ f ih =>
    intro m i h1 h2
    unfold assignsT
    refine Ok2.ite (fun h => Ok2.ite (fun _ => Ok2.err _ (by decide)) fun _ => Ok2.bind (wantT_2 _ _) fun a e ha => Ok2.bind (nodeT_2 l 17 _ _ ha) fun b e2 hb => ih _ _ hb ?_) fun _ => Ok2.pure h1
    have := (wantT_ok e).2
    have := nodeT_le l 17 _ _ _ e2
    obtain ⟨k, j, ns⟩ := b
    simp only [id] at *
    omega
theorem moduleT_2 (l : List Tok) : Ok2 l (fun _ => 0) (moduleT l) := by
  unfold moduleT
  refine Ok2.bind (tokT_2 0 (by decide)) fun a _ ha => Ok2.bind (wantT_2 _ _) fun b _ hb => Ok2.bind (taggingT_2 hb) fun c _ hc => Ok2.bind (wantT_2 _ _) fun d _ hd => Ok2.bind (wantT_2 _ _) fun e _ he => ?_
  refine Ok2.bind (assignsT_2 _ _ _ he (by omega)) fun f _ hf => Ok2.bind (wantT_2 _ _) fun g _ hg => Ok2.ite (fun _ => Ok2.pure (Nat.zero_le _)) fun _ => Ok2.err _ (by decide)
theorem parseT_ne {s : ByteArray} {p : Nat} {x : Int} (h : parseT (toks s) = .error (p, x)) : (x != 0) = true := by
  rw [bne_iff_ne]
  rcases ht : toks s with ⟨q, y⟩ | l
  · rw [ht] at h
    injection h with h
    injection h with _ h
    rw [← h]
    exact toks_ne ht
  · rw [ht] at h
    exact (moduleT_2 l).1 p x h
end Go.Proofs.YtckcbgijddglpaaGreatDoor
