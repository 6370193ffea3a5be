/- The parser: sequences, and what a type is. -/
import Derived.Test.YtckcbgijddglpaaGreatDoorSyn20
namespace Go.Proofs.YtckcbgijddglpaaGreatDoor
open Go.ChangeShapes Go.WideShapes Go.ChangeAt Go.RowKit Go.PlainAid
set_option linter.unusedVariables false
set_option linter.unusedSimpArgs false
theorem field1 (k a : Int) (x : ByteArray) (w : World) : (Instr.field 53 (.agg #[.int .i64 k, .string x, .int .i64 a]) 1).run Tryz.prog w = .ok (.string x) w := by kernel_rfl
theorem itemsT_same (l : List Tok) : ∀ (f : Nat) (n : NodeV) (i : Nat) (r : NodeV × Nat), itemsT l f n i = .ok r → r.1.fields = n.fields := by
  intro f
  induction f with
  | zero => intro n i r h; simp [itemsT, errT] at h
  | succ f ih =>
    intro n i r h
    unfold itemsT at h
    split at h
    · split at h
      · have := ih _ _ _ h; exact this
      · simp only [ex_bind] at h
        obtain ⟨⟨x, j⟩, h1, h2⟩ := h
        have := ih _ _ _ h2; exact this
    · injection h with h; subst h; rfl
theorem itemsA_same {l : List Tok} {n : NodeV} {i : Nat} {r : NodeV × Nat} (h : itemsA l n i = .ok r) : r.1.fields = n.fields ∧ i < r.2 := by
  simp only [itemsA, ex_bind] at h
  obtain ⟨⟨x, j⟩, h1, h2⟩ := h
  have := itemT_lt h1
  have h3 := itemsT_le _ _ _ _ h2
  have h4 := itemsT_same l _ _ _ _ h2
  exact ⟨h4, by simp only at *; omega⟩
def seqT (l : List Tok) (nd : NodeP) (n : NodeV) (i : Nat) (ns : List NodeV) : Except SErr (NodeV × Nat × List NodeV) :=
  if isT l i s_lb = true then bracedT l nd { n with kind := 7 } i ns
  else do
    let (c, j) ← sizeT l i
    let j ← wantT l j wOF
    let (k, j, ns) ← nd j ns
    return ({ n with kind := 10, con := c, of := k }, j, ns)
/-- A node that is made, its items among it. -/
def GivesBase (w : World) (g : Nat) (A : Option Addr) (c : Nat) (l : List Tok) (m0 m1 m2 m3 : Value) (n : Nat) (ok : Nat → Prop) (m4 vf : Value) (i : Nat) (nd : NodeV) (ns : List NodeV) (wr : World) : Prop :=
  ∃ vi, FldS w g A c l m0 m1 m2 m3 n ok m4 vi vf i nd ns wr ∧ ItemsH wr ok vi nd.items
theorem baseT_enum {l : List Tok} {nd : NodeP} {n : NodeV} {i : Nat} {ns : List NodeV} (h1 : ¬ (tk l i).1 = 1) (h2 : isT l i wBOOLEAN = false) (h3 : isT l i wNULL = false) (h4 : isT l i wINTEGER = false) (h5 : isT l i wUTF8String = false) (h6 : isT l i wOCTET = false) (h7 : isT l i wENUMERATED = true) :
    baseT l nd n i ns = (wantT l (i + 1) s_lb >>= fun j => itemsA l { n with kind := 3 } j >>= fun r => wantT l r.2 s_rb >>= fun k => pure (r.1, k, ns)) := by
  rw [baseT, if_neg h1, if_neg (by simp [h2]), if_neg (by simp [h3]), if_neg (by simp [h4]), if_neg (by simp [h5]), if_neg (by simp [h6]), if_pos h7]
  rcases wantT l (i + 1) s_lb with e | j
  · rfl
  · simp only [itemsA, bind, Except.bind]
    rcases itemT l j with e | ⟨x, k⟩ <;> rfl
theorem baseT_seq {l : List Tok} {nd : NodeP} {n : NodeV} {i : Nat} {ns : List NodeV} (h1 : ¬ (tk l i).1 = 1) (h2 : isT l i wBOOLEAN = false) (h3 : isT l i wNULL = false) (h4 : isT l i wINTEGER = false) (h5 : isT l i wUTF8String = false) (h6 : isT l i wOCTET = false) (h7 : isT l i wENUMERATED = false) (h8 : isT l i wSEQUENCE = true) :
    baseT l nd n i ns = seqT l nd n (i + 1) ns := by
  rw [baseT, if_neg h1, if_neg (by simp [h2]), if_neg (by simp [h3]), if_neg (by simp [h4]), if_neg (by simp [h5]), if_neg (by simp [h6]), if_neg (by simp [h7]), if_pos h8]
  rfl
section
variable {l : List Tok} {nd : NodeP}
theorem rootT_items : ∀ (f : Nat) (n : NodeV) (i : Nat) (ns : List NodeV) (r), rootT l nd f n i ns = .ok r → r.1.1.items = n.items := by
  intro f
  induction f with
  | zero => intro n i ns r h; simp [rootT, errT] at h
  | succ f ih =>
    intro n i ns r h
    unfold rootT at h
    split at h
    · injection h with h; subst h; rfl
    · simp only [ex_bind] at h
      obtain ⟨⟨x, j, ms⟩, h1, h2⟩ := h
      simp only at h2
      split at h2
      · have := ih _ _ _ _ h2; exact this
      · simp only [ex_pure] at h2; subst h2; rfl
theorem groupT_items (g : Nat) : ∀ (f : Nat) (n : NodeV) (i : Nat) (ns : List NodeV) (r), groupT l nd g f n i ns = .ok r → r.1.items = n.items := by
  intro f
  induction f with
  | zero => intro n i ns r h; simp [groupT, errT] at h
  | succ f ih =>
    intro n i ns r h
    simp only [groupT, ex_bind] at h
    obtain ⟨⟨x, j, ms⟩, h1, h2⟩ := h
    simp only at h2
    split at h2
    · have := ih _ _ _ _ h2; exact this
    · simp only [ex_bind, ex_pure] at h2
      obtain ⟨k, h2, h3⟩ := h2
      subst h3; rfl
theorem addT_items : ∀ (f g : Nat) (n : NodeV) (i : Nat) (ns : List NodeV) (r), addT l nd f g n i ns = .ok r → r.1.items = n.items := by
  intro f
  induction f with
  | zero => intro g n i ns r h; simp [addT, errT] at h
  | succ f ih =>
    intro g n i ns r h
    unfold addT at h
    split at h
    · split at h
      · simp only [ex_bind] at h
        obtain ⟨⟨x, j, ms⟩, h1, h2⟩ := h
        have := groupT_items _ _ _ _ _ _ h1
        have h3 := ih _ _ _ _ _ h2
        exact h3.trans this
      · simp only [ex_bind] at h
        obtain ⟨⟨x, j, ms⟩, h1, h2⟩ := h
        have := ih _ _ _ _ _ h2; exact this
    · injection h with h; subst h; rfl
theorem bracedT_items {n : NodeV} {i : Nat} {ns : List NodeV} {r : NodeV × Nat × List NodeV} (h : bracedT l nd n i ns = .ok r) : r.1.items = n.items := by
  simp only [bracedT, ex_bind] at h
  obtain ⟨j, h1, h2⟩ := h
  split at h2
  · simp only [ex_pure] at h2; subst h2; rfl
  · simp only [ex_bind] at h2
    obtain ⟨⟨⟨n1, more⟩, j1, ms⟩, h2, ⟨n2, j2, ms2⟩, h3, j4, h4, h5⟩ := h2
    have e1 := rootT_items _ _ _ _ _ h2
    simp only [ex_pure] at h5
    simp only at e1 h3
    subst h5
    split at h3
    · exact (addT_items _ _ _ _ _ _ h3).trans e1
    · simp only [ex_pure] at h3
      injection h3 with h3 _; subst h3; exact e1
theorem seqT_items {n : NodeV} {i : Nat} {ns : List NodeV} {r : NodeV × Nat × List NodeV} (h : seqT l nd n i ns = .ok r) : r.1.items = n.items := by
  unfold seqT at h
  rcases ite_or h with ⟨hc, h⟩ | ⟨hc, h⟩
  · have := bracedT_items h; exact this
  · simp only [ex_bind, ex_pure] at h
    obtain ⟨⟨c, j⟩, h1, j2, h2, ⟨k, j3, ms⟩, h3, h4⟩ := h
    subst h4; rfl
end
section
variable {w wr w2 : World} {g : Nat} {A : Option Addr} {c : Nat} {l : List Tok} {i j : Nat} {m0 m1 m2 m3 m4 : Value} {n : Nat} {ok : Nat → Prop} {m vi vi' vf : Value} {nd nd' : NodeV} {ns ns' : List NodeV}
/-- The parser's block and the node's are turned. -/
theorem MakeN.s2 (h : MakeN w g A c l m0 m1 m2 m3 n ok i m vi vf nd ns) (k : FS (S2 g n) w w2) (hp : PQ w2 g A c l j m0 m1 m2 m3 m) (hB : NB w2 n nd' vi' vf) (hf : nd'.fields = nd.fields) : MakeN w2 g A c l m0 m1 m2 m3 n ok j m vi' vf nd' ns := by
  obtain ⟨p1, p2, p3, p4, p5, p6, p7, p8, p9⟩ := h
  have hc : ∀ (q : Nat → Prop), Clear w (S2 g n) q := fun q => clear_typ fun b _ e => by
    rcases e with e | e
    · subst e; exact p1.typ
    · subst e; exact p2.typ
  refine ⟨hp, hB, by rw [hf]; exact p3.fs k (hc _), p4.fs k (hc _) (fun b hb e => ?_), fun b hb => p5 b (Nat.le_trans k.size hb), p6, p7, p8, p9⟩
  rcases e with e | e
  · have := p4.own_lt b hb; omega
  · exact p8 (e ▸ hb)
theorem FldS.s2 (h : FldS w g A c l m0 m1 m2 m3 n ok m4 vi vf i nd ns wr) (k : FS (S2 g n) wr w2) (hp : ∀ m, PQ wr g A c l i m0 m1 m2 m3 m → PQ w2 g A c l j m0 m1 m2 m3 m) (hB : ∀ v, NB wr n nd vi v → NB w2 n nd' vi' v) (hf : nd'.fields = nd.fields) (hij : i ≤ j) : FldS w g A c l m0 m1 m2 m3 n ok m4 vi' vf j nd' ns w2 := by
  obtain ⟨⟨m, v, hM, h1, h2⟩, h3, h4⟩ := h
  exact ⟨⟨m, v, hM.s2 k (hp m hM.1) (hB v hM.2.1) hf, h1, h2⟩, h3.trans (k.weak fun x _ e => e.elim .inl fun q => .inr (.inl q)), by rw [hf]; omega⟩
theorem GivesBase.of (h : FldS w g A c l m0 m1 m2 m3 n ok m4 (.slice none 0 0) vf i nd ns wr) (h0 : nd.items = []) : GivesBase w g A c l m0 m1 m2 m3 n ok m4 vf i nd ns wr :=
  ⟨_, h, by rw [h0]; exact ⟨World.ownsRow_nil _ _ _ _, fun b hb => by cases hb⟩⟩
theorem sizeS (h : FldS w g A c l m0 m1 m2 m3 n ok m4 vi vf i nd ns wr) (hN : NumsL l) (hcon : nd.con = {}) :
    Calls Tryz.prog 108 #[.pointer (some ⟨g, 0, none⟩), .pointer (some ⟨n, 5, none⟩)] wr (PostT (sizeT l i) g (SF g n m4 vf) w (fun r e w' => Yes e ∧ FldS w g A c l m0 m1 m2 m3 n ok m4 vi vf r.2 { nd with con := r.1 } ns w') No) := by
  obtain ⟨⟨m, v, hM, h1, h2⟩, h3, h4⟩ := h
  obtain ⟨kind, name, mHas, mNum, mMode, con, items, fields, root, more, of⟩ := nd
  simp only at hcon
  subst hcon
  have hB : Blk wr n 40 #[.int .i64 kind, .string name, .bool mHas, .int .i64 mNum, .int .i64 mMode, .bool false, .bool false, .bool false, .bool false, .int .i64 0, .int .i64 0, vi, v, .int .i64 (root : Nat), .bool more, .int .i64 (of : Nat)] := hM.2.1
  refine (size_q hM.1 hN hB hM.2.2.2.2.2.1).mono ?_
  rintro e w' ⟨hr, hf⟩
  have hF := h3.trans (hf.weak (S' := SF g n m4 vf) fun x _ e => e.elim .inl fun q => .inr (.inl q))
  refine ⟨?_, hF⟩
  rcases hw : sizeT l i with ⟨p, x⟩ | ⟨cc, k⟩
  · rw [hw] at hr; exact hr
  · rw [hw] at hr
    have := sizeT_le hw
    exact ⟨hr.1, ⟨m, v, hM.s2 hf hr.2.1 hr.2.2 rfl, h1, h2⟩, hF, by simp at this ⊢; simp at h4; omega⟩
theorem rangeS (h : FldS w g A c l m0 m1 m2 m3 n ok m4 vi vf i nd ns wr) (hN : NumsL l) (hcon : nd.con = {}) :
    Calls Tryz.prog 107 #[.pointer (some ⟨g, 0, none⟩), .pointer (some ⟨n, 5, none⟩)] wr (PostT (rangeT l i) g (SF g n m4 vf) w (fun r e w' => Yes e ∧ FldS w g A c l m0 m1 m2 m3 n ok m4 vi vf r.2 { nd with con := r.1 } ns w') No) := by
  obtain ⟨⟨m, v, hM, h1, h2⟩, h3, h4⟩ := h
  obtain ⟨kind, name, mHas, mNum, mMode, con, items, fields, root, more, of⟩ := nd
  simp only at hcon
  subst hcon
  have hB : Blk wr n 40 #[.int .i64 kind, .string name, .bool mHas, .int .i64 mNum, .int .i64 mMode, .bool false, .bool false, .bool false, .bool false, .int .i64 0, .int .i64 0, vi, v, .int .i64 (root : Nat), .bool more, .int .i64 (of : Nat)] := hM.2.1
  refine (range_q hM.1 hN hB hM.2.2.2.2.2.1).mono ?_
  rintro e w' ⟨hr, hf⟩
  have hF := h3.trans (hf.weak (S' := SF g n m4 vf) fun x _ e => e.elim .inl fun q => .inr (.inl q))
  refine ⟨?_, hF⟩
  rcases hw : rangeT l i with ⟨p, x⟩ | ⟨cc, k⟩
  · rw [hw] at hr; exact hr
  · rw [hw] at hr
    have := rangeT_le hw
    exact ⟨hr.1, ⟨m, v, hM.s2 hf hr.2.1 hr.2.2 rfl, h1, h2⟩, hF, by simp at this ⊢; simp at h4; omega⟩
theorem markS {m0 m1 m2 m3 : Value} {vf : Value} (h : FldS w g A c l m0 m1 m2 m3 n ok m4 vi vf i {} ns wr) (hN : NumsL l) :
    Calls Tryz.prog 92 #[.pointer (some ⟨g, 0, none⟩), .pointer (some ⟨n, 2, none⟩)] wr (PostT (markT l {} i) g (SF g n m4 vf) w (fun r e w' => Yes e ∧ FldS w g A c l m0 m1 m2 m3 n ok m4 vi vf r.2 { mHas := r.1.mHas, mNum := r.1.mNum, mMode := r.1.mMode } ns w') No) := by
  obtain ⟨⟨m, v, hM, h1, h2⟩, h3, h4⟩ := h
  have hB : Blk wr n 40 #[.int .i64 0, .string ⟨#[]⟩, .bool false, .int .i64 0, .int .i64 0, .bool false, .bool false, .bool false, .bool false, .int .i64 0, .int .i64 0, vi, v, .int .i64 0, .bool false, .int .i64 0] := hM.2.1
  refine (mark_q hM.1 hN hB hM.2.2.2.2.2.1).mono ?_
  rintro e w' ⟨hr, hf⟩
  have hF := h3.trans (hf.weak (S' := SF g n m4 vf) fun x _ e => e.elim .inl fun q => .inr (.inl q))
  refine ⟨?_, hF⟩
  rcases hw : markT l {} i with ⟨p, x⟩ | ⟨cc, k⟩
  · rw [hw] at hr; exact hr
  · rw [hw] at hr
    exact ⟨hr.1, ⟨m, v, hM.s2 hf hr.2.1 hr.2.2 rfl, h1, h2⟩, hF, by simp⟩
theorem nodeS (h : FldS w g A c l m0 m1 m2 m3 n ok m4 vi vf i nd ns wr) {ndp : NodeP} {D : Int} (hNd : NodeC l ndp D) (hle : NdLe ndp) :
    Calls Tryz.prog 69 #[.pointer (some ⟨g, 0, none⟩), .int .i64 D] wr
      (PostT (ndp i ns) g (SF g n m4 vf) w (fun r e w' => e = .returned (.tuple #[.int .i64 (r.1 : Nat), .bool true]) ∧ FldS w g A c l m0 m1 m2 m3 n ok m4 vi vf r.2.1 nd r.2.2 w') (fun e => e = .returned (.tuple #[.int .i64 0, .bool false]))) := by
  obtain ⟨⟨m, v, hM, h1, h2⟩, h3, h4⟩ := h
  refine (hM.call hNd).mono ?_
  rintro e w' ⟨hr, hf⟩
  have hF : FS (SF g n m4 vf) w w' := h3.sf (hf.weak (S' := SF g n m v) fun x _ e => e.elim .inl fun q => .inr (.inr (.inl q))) h1 h2
  refine ⟨?_, hF⟩
  rcases hw : ndp i ns with ⟨p, x⟩ | ⟨k, j, ns2⟩
  · rw [hw] at hr; exact hr
  · rw [hw] at hr
    obtain ⟨m', hM', hn'⟩ := hM.node hr.2 hf
    have := hle _ _ _ hw
    exact ⟨hr.1, ⟨m', v, hM', h1.trans hn' h3.size, h2⟩, hF, by simp at this ⊢; omega⟩
/-- .. if it fails the node is still there. -/
theorem nodeS_no (h : FldS w g A c l m0 m1 m2 m3 n ok m4 vi vf i nd ns wr) {ndp : NodeP} {D : Int} (hNd : NodeC l ndp D) {p : Nat} {x : Int} (hw : ndp i ns = .error (p, x)) :
    Calls Tryz.prog 69 #[.pointer (some ⟨g, 0, none⟩), .int .i64 D] wr
      (fun e w' => e = .returned (.tuple #[.int .i64 0, .bool false]) ∧ PE w' g x p ∧ FS (SF g n m4 vf) w w' ∧ g < n ∧ ∃ v, NB w' n nd vi v) := by
  obtain ⟨⟨m, v, hM, h1, h2⟩, h3, h4⟩ := h
  refine (hM.call hNd).mono ?_
  rintro e w' ⟨hr, hf⟩
  have hF : FS (SF g n m4 vf) w w' := h3.sf (hf.weak (S' := SF g n m v) fun x _ e => e.elim .inl fun q => .inr (.inr (.inl q))) h1 h2
  rw [hw] at hr
  refine ⟨hr.1, hr.2, hF, hM.2.2.2.2.2.1, v, hf.blk hM.2.1 ?_⟩
  rintro (e | e)
  · have := hM.2.2.2.2.2.1; omega
  · exact hM.2.2.2.2.2.2.2.1 e
/-- The items of an enumerated type. -/
theorem itemsS (h : FldS w g A c l m0 m1 m2 m3 n ok m4 (.slice none 0 0) vf i nd ns wr) (hN : NumsL l) (h0 : nd.items = []) :
    Calls Tryz.prog 109 #[.pointer (some ⟨g, 0, none⟩), .pointer (some ⟨n, 0, none⟩)] wr
      (PostT (itemsA l nd i) g (SF g n m4 vf) w (fun r e w' => Yes e ∧ ∃ vi', FldS w g A c l m0 m1 m2 m3 n ok m4 vi' vf r.2 r.1 ns w' ∧ ItemsH w' ok vi' r.1.items) No) := by
  obtain ⟨⟨m, v, hM, h1, h2⟩, h3, h4⟩ := h
  have hI : ItemsH wr ok (.slice none 0 0) nd.items := by rw [h0]; exact ⟨World.ownsRow_nil _ _ _ _, fun b hb => by cases hb⟩
  refine (items_q hM.1 hN hM.2.1 hI hM.2.2.2.2.1 hM.2.2.2.2.2.1 (fun b hb => by cases hb) h0).mono ?_
  rintro e w' ⟨hr, hf⟩
  have hf2 : FS (S2 g n) wr w' := hf.weak fun x _ e => by
    rcases e with e | e | e
    · exact .inl e
    · exact .inr e
    · cases e
  have hF := h3.trans (hf2.weak (S' := SF g n m4 vf) fun x _ e => e.elim .inl fun q => .inr (.inl q))
  refine ⟨?_, hF⟩
  rcases hw : itemsA l nd i with ⟨p, x⟩ | ⟨nd2, k⟩
  · rw [hw] at hr; exact hr
  · rw [hw] at hr
    obtain ⟨he, hp, vi', hB', hI', _⟩ := hr
    obtain ⟨e1, e2⟩ := itemsA_same hw
    simp only at e1 e2
    exact ⟨he, vi', ⟨⟨m, v, hM.s2 hf2 hp hB' e1, h1, h2⟩, hF, by simp only; rw [e1]; omega⟩, hI'⟩
theorem wantI (h : FldS w g A c l m0 m1 m2 m3 n ok m4 vi vf i nd ns wr) (hI : ItemsH wr ok vi nd.items) (s : ByteArray) :
    Calls Tryz.prog 30 #[.pointer (some ⟨g, 0, none⟩), .string s] wr (PostT (wantT l i s) g (SF g n m4 vf) w (fun j e w' => Yes e ∧ FldS w g A c l m0 m1 m2 m3 n ok m4 vi vf j nd ns w' ∧ ItemsH w' ok vi nd.items) No) := by
  obtain ⟨⟨m, v, hM, h1, h2⟩, h3, h4⟩ := h
  refine (want_q hM.1 s).mono ?_
  rintro e w' ⟨hr, hf⟩
  refine ⟨?_, h3.trans (hf.weak fun x _ e => .inl e)⟩
  rcases hw : wantT l i s with ⟨p, x⟩ | j
  · rw [hw] at hr; exact hr
  · rw [hw] at hr
    have := (wantT_ok hw).2
    exact ⟨hr.1, ⟨⟨m, v, hM.step hr.2 hf, h1, h2⟩, h3.trans (hf.weak fun x _ e => .inl e), by omega⟩, hI.fs hf (clear_typ fun b _ e => by subst e; exact hM.1.typ)⟩
set_option maxRecDepth 100000 in
set_option maxHeartbeats 16000000 in
theorem sequence_q (h : FldS w g A c l m0 m1 m2 m3 n ok m4 vi vf i nd ns wr) (hN : NumsL l) (hXs : SmallL l) {ndp : NodeP} {D : Int} (hNd : NodeC l ndp (D + 1)) (hle : NdLe ndp) (hD0 : 0 ≤ D) (hD1 : D ≤ 16) (hcon : nd.con = {}) :
    Calls Tryz.prog 110 #[.pointer (some ⟨g, 0, none⟩), .pointer (some ⟨n, 0, none⟩), .int .i64 D] wr
      (PostT (seqT l ndp nd i ns) g (SF g n m4 vf) w (fun r e w' => Yes e ∧ FldS w g A c l m0 m1 m2 m3 n ok m4 vi vf r.2.1 r.1 r.2.2 w') No) := by
  obtain ⟨rS, hrS⟩ : ∃ r, r = seqT l ndp nd i ns := ⟨_, rfl⟩
  rw [← hrS]
  have HR := hide hrS
  have HS1 := hide h
  clear h hrS
  go_enter Tryz.func110, Tryz.ntmps110
  rcases Bool.eq_false_or_eq_true (isT l i s_lb) with hb41 | hb41
  · have E41 := hide hb41
    clear hb41
    go_wp2_with fail
    refine (isS (unhide HS1) (b := true) (unhide E41)).mono ?_
    rintro e w42 ⟨rfl, hS⟩
    have HS42 := hide hS
    clear hS
    obtain ⟨Af43, cf43, hB43⟩ := (unhide HS42).nb
    obtain ⟨hc43, hg43, -⟩ := hB43.facts
    simp only [nodeC] at hc43
    clear hB43
    have HS43 := hide ((unhide HS42).set (nd' := { nd with kind := 7 }) 0 (.int .i64 7) (fun v => rfl) rfl)
    rcases hr45 : bracedT l ndp { nd with kind := 7 } i ns with ⟨p45, x45⟩ | ⟨ndB, jB, nsB⟩
    · have E45 := hide hr45
      clear hr45
      have HQ44 := hide (braced_q (unhide HS43) hN hXs hNd hle hD0 hD1)
      rw [unhide E45] at HQ44
      go_wp2_with fail
      clear hc43 hg43
      refine (unhide HQ44).mono ?_
      rintro e w44 ⟨⟨rfl, hp⟩, hf⟩
      have HP44 := hide hp
      have HF44 := hide hf
      clear hp hf HQ44
      go_wp2
      go_ret
      have hE : rS = .error (p45, x45) := by rw [unhide HR]; simp [seqT, unhide E41, unhide E45, bind, Except.bind, pure, Except.pure]
      rw [hE]
      exact ⟨⟨rfl, unhide HP44⟩, unhide HF44⟩
    · have E45 := hide hr45
      clear hr45
      have HQ44 := hide (braced_q (unhide HS43) hN hXs hNd hle hD0 hD1)
      rw [unhide E45] at HQ44
      go_wp2_with fail
      clear hc43 hg43
      refine (unhide HQ44).mono ?_
      rintro e w44 ⟨⟨rfl, hS⟩, hf⟩
      have HS44 := hide hS
      clear hS hf HQ44
      go_wp2
      go_ret
      have hE : rS = .ok (ndB, jB, nsB) := by rw [unhide HR]; simp [seqT, unhide E41, unhide E45, bind, Except.bind, pure, Except.pure]
      rw [hE]
      exact ⟨⟨rfl, unhide HS44⟩, (unhide HS44).2.1⟩
  · have E41 := hide hb41
    clear hb41
    go_wp2_with fail
    refine (isS (unhide HS1) (b := false) (unhide E41)).mono ?_
    rintro e w46 ⟨rfl, hS⟩
    have HS46 := hide hS
    clear hS
    obtain ⟨Af47, cf47, hB47⟩ := (unhide HS46).nb
    obtain ⟨hc47, hg47, -⟩ := hB47.facts
    simp only [nodeC] at hc47
    clear hB47
    have HS47 := hide ((unhide HS46).set (nd' := { nd with kind := 10 }) 0 (.int .i64 10) (fun v => rfl) rfl)
    rcases hr49 : sizeT l i with ⟨p49, x49⟩ | ⟨cz, jz⟩
    · have E49 := hide hr49
      clear hr49
      have HQ48 := hide (sizeS (unhide HS47) hN hcon)
      rw [unhide E49] at HQ48
      go_wp2_with fail
      clear hc47 hg47
      refine (unhide HQ48).mono ?_
      rintro e w48 ⟨⟨rfl, hp⟩, hf⟩
      have HP48 := hide hp
      have HF48 := hide hf
      clear hp hf HQ48
      go_wp2
      go_ret
      have hE : rS = .error (p49, x49) := by rw [unhide HR]; simp [seqT, unhide E41, unhide E49, bind, Except.bind, pure, Except.pure]
      rw [hE]
      exact ⟨⟨rfl, unhide HP48⟩, unhide HF48⟩
    · have E49 := hide hr49
      clear hr49
      have HQ48 := hide (sizeS (unhide HS47) hN hcon)
      rw [unhide E49] at HQ48
      go_wp2_with fail
      clear hc47 hg47
      refine (unhide HQ48).mono ?_
      rintro e w48 ⟨⟨rfl, hS⟩, hf⟩
      have HS48 := hide hS
      clear hS hf HQ48
      rcases hr51 : wantT l jz wOF with ⟨p51, x51⟩ | k50
      · have E51 := hide hr51
        clear hr51
        have HQ50 := hide (wantS (unhide HS48) wOF)
        rw [unhide E51] at HQ50
        go_wp2_with fail
        refine (unhide HQ50).mono ?_
        rintro e w50 ⟨⟨rfl, hp⟩, hf⟩
        have HP50 := hide hp
        have HF50 := hide hf
        clear hp hf HQ50
        go_wp2
        go_ret
        have hE : rS = .error (p51, x51) := by rw [unhide HR]; simp [seqT, unhide E41, unhide E49, unhide E51, bind, Except.bind, pure, Except.pure]
        rw [hE]
        exact ⟨⟨rfl, unhide HP50⟩, unhide HF50⟩
      · have E51 := hide hr51
        clear hr51
        have HQ50 := hide (wantS (unhide HS48) wOF)
        rw [unhide E51] at HQ50
        go_wp2_with fail
        refine (unhide HQ50).mono ?_
        rintro e w50 ⟨⟨rfl, hS⟩, hf⟩
        have HS50 := hide hS
        clear hS hf HQ50
        rcases hr53 : ndp k50 ns with ⟨p53, x53⟩ | ⟨kN, jN, nsN⟩
        · have E53 := hide hr53
          clear hr53
          go_wp2_with fail
          refine (nodeS_no (unhide HS50) hNd (unhide E53)).mono ?_
          rintro e w52 ⟨rfl, hp, hf, hgn, vq, hBq⟩
          have HP52 := hide (hp.far hgn 15 (.int .i64 0))
          have HF52 := hide (hf.set (p := ⟨n, 15, none⟩) (.inl (.inr (.inl rfl))) (.int .i64 0))
          obtain ⟨hcq, hgq, -⟩ := hBq.facts
          simp only [nodeC] at hcq
          clear hp hf hBq
          go_wp2
          go_ret
          have hE : rS = .error (p53, x53) := by rw [unhide HR]; simp [seqT, unhide E41, unhide E49, unhide E51, unhide E53, bind, Except.bind, pure, Except.pure]
          rw [hE]
          exact ⟨⟨rfl, unhide HP52⟩, unhide HF52⟩
        · have E53 := hide hr53
          clear hr53
          have HQ52 := hide (nodeS (unhide HS50) hNd hle)
          rw [unhide E53] at HQ52
          go_wp2_with fail
          refine (unhide HQ52).mono ?_
          rintro e w52 ⟨⟨rfl, hS⟩, hf⟩
          have HS52 := hide hS
          clear hS hf HQ52
          obtain ⟨Af54, cf54, hB54⟩ := (unhide HS52).nb
          obtain ⟨hc54, hg54, -⟩ := hB54.facts
          simp only [nodeC] at hc54
          clear hB54
          have HS54 := hide ((unhide HS52).set (nd' := { nd with kind := 10, con := cz, of := kN }) 15 (.int .i64 (kN : Nat)) (fun v => rfl) rfl)
          go_wp2
          go_ret
          have hE : rS = .ok ({ nd with kind := 10, con := cz, of := kN }, jN, nsN) := by rw [unhide HR]; simp [seqT, unhide E41, unhide E49, unhide E51, unhide E53, bind, Except.bind, pure, Except.pure]
          rw [hE]
          exact ⟨⟨rfl, unhide HS54⟩, (unhide HS54).2.1⟩
set_option maxRecDepth 100000 in
set_option maxHeartbeats 32000000 in
theorem base_q (h : FldS w g A c l m0 m1 m2 m3 n ok m4 (.slice none 0 0) vf i nd ns wr) (hN : NumsL l) (hXs : SmallL l) {ndp : NodeP} {D : Int} (hNd : NodeC l ndp (D + 1)) (hle : NdLe ndp) (hD0 : 0 ≤ D) (hD1 : D ≤ 16) (hcon : nd.con = {}) (hitems : nd.items = []) :
    Calls Tryz.prog 93 #[.pointer (some ⟨g, 0, none⟩), .pointer (some ⟨n, 0, none⟩), .int .i64 D] wr
      (PostT (baseT l ndp nd i ns) g (SF g n m4 vf) w (fun r e w' => Yes e ∧ GivesBase w g A c l m0 m1 m2 m3 n ok m4 vf r.2.1 r.1 r.2.2 w') No) := by
  obtain ⟨rB, hrB⟩ : ∃ r, r = baseT l ndp nd i ns := ⟨_, rfl⟩
  rw [← hrB]
  have HR := hide hrB
  have HS1 := hide h
  have HIT := hide hitems
  have HCN := hide hcon
  clear h hrB hitems hcon
  go_enter Tryz.func93, Tryz.ntmps93
  have hf0 := fun w => field0 (tk l i).1 ((tk l i).2.2 : Nat) (tk l i).2.1 w
  have hf1 := fun w => field1 (tk l i).1 ((tk l i).2.2 : Nat) (tk l i).2.1 w
  by_cases hk1 : (tk l i).1 = 1
  · have E1 := hide hk1
    have HK0 := hide (show (tk l i).1 ≠ 0 by rw [hk1]; decide)
    have e1 : ((tk l i).1 == 1) = true := by simp [hk1]
    clear hk1
    go_wp2_with fail
    refine (nowS (unhide HS1)).mono ?_
    rintro e w55 ⟨rfl, hS⟩
    have HS55 := hide hS
    clear hS
    go_wp2_with fail
    refine (nowS (unhide HS55)).mono ?_
    rintro e w56 ⟨rfl, hS⟩
    have HS56 := hide hS
    clear hS
    obtain ⟨Af57, cf57, hB57⟩ := (unhide HS56).nb
    obtain ⟨hc57, hg57, -⟩ := hB57.facts
    simp only [nodeC] at hc57
    clear hB57
    have HS57 := hide ((unhide HS56).set (nd' := { nd with kind := 11 }) 0 (.int .i64 11) (fun v => rfl) rfl)
    have HS58 := hide ((unhide HS57).set (nd' := { nd with kind := 11, name := (tk l i).2.1 }) 1 (.string (tk l i).2.1) (fun v => rfl) rfl)
    have HSK := hide (skipS (unhide HS58) (unhide HK0))
    go_wp2_with fail
    clear hc57 hg57
    refine (unhide HSK).mono ?_
    rintro e w59 ⟨rfl, hS⟩
    have HS59 := hide hS
    clear hS
    go_wp2
    go_ret
    have hE : rB = .ok ({ nd with kind := 11, name := (tk l i).2.1 }, i + 1, ns) := by rw [unhide HR]; simp [baseT, unhide E1, bind, Except.bind, pure, Except.pure]
    rw [hE]
    exact ⟨⟨rfl, GivesBase.of (unhide HS59) (unhide HIT)⟩, (unhide HS59).2.1⟩
  · have E1 := hide hk1
    have e1 : ((tk l i).1 == 1) = false := by simp [hk1]
    clear hk1
    go_wp2_with fail
    refine (nowS (unhide HS1)).mono ?_
    rintro e w60 ⟨rfl, hS⟩
    have HS60 := hide hS
    clear hS
    rcases Bool.eq_false_or_eq_true (isT l i wBOOLEAN) with hb61 | hb61
    · have E61 := hide hb61
      clear hb61
      go_wp2_with fail
      refine (takeS_y (unhide HS60) (unhide E61)).mono ?_
      rintro e w62 ⟨rfl, hS⟩
      have HS62 := hide hS
      clear hS
      obtain ⟨Af63, cf63, hB63⟩ := (unhide HS62).nb
      obtain ⟨hc63, hg63, -⟩ := hB63.facts
      simp only [nodeC] at hc63
      clear hB63
      have HS63 := hide ((unhide HS62).set (nd' := { nd with kind := 1 }) 0 (.int .i64 1) (fun v => rfl) rfl)
      go_wp2
      go_ret
      have hE : rB = .ok ({ nd with kind := 1 }, (i + 1), ns) := by rw [unhide HR]; simp [baseT, unhide E1, unhide E61, bind, Except.bind, pure, Except.pure]
      rw [hE]
      exact ⟨⟨rfl, GivesBase.of (unhide HS63) (unhide HIT)⟩, (unhide HS63).2.1⟩
    · have E61 := hide hb61
      clear hb61
      go_wp2_with fail
      refine (takeS_n (unhide HS60) (unhide E61)).mono ?_
      rintro e w64 ⟨rfl, hS⟩
      have HS64 := hide hS
      clear hS
      rcases Bool.eq_false_or_eq_true (isT l i wNULL) with hb65 | hb65
      · have E65 := hide hb65
        clear hb65
        go_wp2_with fail
        refine (takeS_y (unhide HS64) (unhide E65)).mono ?_
        rintro e w66 ⟨rfl, hS⟩
        have HS66 := hide hS
        clear hS
        obtain ⟨Af67, cf67, hB67⟩ := (unhide HS66).nb
        obtain ⟨hc67, hg67, -⟩ := hB67.facts
        simp only [nodeC] at hc67
        clear hB67
        have HS67 := hide ((unhide HS66).set (nd' := { nd with kind := 4 }) 0 (.int .i64 4) (fun v => rfl) rfl)
        go_wp2
        go_ret
        have hE : rB = .ok ({ nd with kind := 4 }, (i + 1), ns) := by rw [unhide HR]; simp [baseT, unhide E1, unhide E61, unhide E65, bind, Except.bind, pure, Except.pure]
        rw [hE]
        exact ⟨⟨rfl, GivesBase.of (unhide HS67) (unhide HIT)⟩, (unhide HS67).2.1⟩
      · have E65 := hide hb65
        clear hb65
        go_wp2_with fail
        refine (takeS_n (unhide HS64) (unhide E65)).mono ?_
        rintro e w68 ⟨rfl, hS⟩
        have HS68 := hide hS
        clear hS
        rcases Bool.eq_false_or_eq_true (isT l i wINTEGER) with hb69 | hb69
        · have E69 := hide hb69
          clear hb69
          go_wp2_with fail
          refine (takeS_y (unhide HS68) (unhide E69)).mono ?_
          rintro e w70 ⟨rfl, hS⟩
          have HS70 := hide hS
          clear hS
          obtain ⟨Af71, cf71, hB71⟩ := (unhide HS70).nb
          obtain ⟨hc71, hg71, -⟩ := hB71.facts
          simp only [nodeC] at hc71
          clear hB71
          have HS71 := hide ((unhide HS70).set (nd' := { nd with kind := 2 }) 0 (.int .i64 2) (fun v => rfl) rfl)
          rcases hr73 : rangeT l (i + 1) with ⟨p73, x73⟩ | ⟨cz, jz⟩
          · have E73 := hide hr73
            clear hr73
            have HQ72 := hide (rangeS (unhide HS71) hN (unhide HCN))
            rw [unhide E73] at HQ72
            go_wp2_with fail
            clear hc71 hg71
            refine (unhide HQ72).mono ?_
            rintro e w72 ⟨⟨rfl, hp⟩, hf⟩
            have HP72 := hide hp
            have HF72 := hide hf
            clear hp hf HQ72
            go_wp2
            go_ret
            have hE : rB = .error (p73, x73) := by rw [unhide HR]; simp [baseT, unhide E1, unhide E61, unhide E65, unhide E69, unhide E73, bind, Except.bind, pure, Except.pure]
            rw [hE]
            exact ⟨⟨rfl, unhide HP72⟩, unhide HF72⟩
          · have E73 := hide hr73
            clear hr73
            have HQ72 := hide (rangeS (unhide HS71) hN (unhide HCN))
            rw [unhide E73] at HQ72
            go_wp2_with fail
            clear hc71 hg71
            refine (unhide HQ72).mono ?_
            rintro e w72 ⟨⟨rfl, hS⟩, hf⟩
            have HS72 := hide hS
            clear hS hf HQ72
            go_wp2
            go_ret
            have hE : rB = .ok ({ nd with kind := 2, con := cz }, jz, ns) := by rw [unhide HR]; simp [baseT, unhide E1, unhide E61, unhide E65, unhide E69, unhide E73, bind, Except.bind, pure, Except.pure]
            rw [hE]
            exact ⟨⟨rfl, GivesBase.of (unhide HS72) (unhide HIT)⟩, (unhide HS72).2.1⟩
        · have E69 := hide hb69
          clear hb69
          go_wp2_with fail
          refine (takeS_n (unhide HS68) (unhide E69)).mono ?_
          rintro e w74 ⟨rfl, hS⟩
          have HS74 := hide hS
          clear hS
          rcases Bool.eq_false_or_eq_true (isT l i wUTF8String) with hb75 | hb75
          · have E75 := hide hb75
            clear hb75
            go_wp2_with fail
            refine (takeS_y (unhide HS74) (unhide E75)).mono ?_
            rintro e w76 ⟨rfl, hS⟩
            have HS76 := hide hS
            clear hS
            obtain ⟨Af77, cf77, hB77⟩ := (unhide HS76).nb
            obtain ⟨hc77, hg77, -⟩ := hB77.facts
            simp only [nodeC] at hc77
            clear hB77
            have HS77 := hide ((unhide HS76).set (nd' := { nd with kind := 6 }) 0 (.int .i64 6) (fun v => rfl) rfl)
            rcases hr79 : sizeT l (i + 1) with ⟨p79, x79⟩ | ⟨cz, jz⟩
            · have E79 := hide hr79
              clear hr79
              have HQ78 := hide (sizeS (unhide HS77) hN (unhide HCN))
              rw [unhide E79] at HQ78
              go_wp2_with fail
              clear hc77 hg77
              refine (unhide HQ78).mono ?_
              rintro e w78 ⟨⟨rfl, hp⟩, hf⟩
              have HP78 := hide hp
              have HF78 := hide hf
              clear hp hf HQ78
              go_wp2
              go_ret
              have hE : rB = .error (p79, x79) := by rw [unhide HR]; simp [baseT, unhide E1, unhide E61, unhide E65, unhide E69, unhide E75, unhide E79, bind, Except.bind, pure, Except.pure]
              rw [hE]
              exact ⟨⟨rfl, unhide HP78⟩, unhide HF78⟩
            · have E79 := hide hr79
              clear hr79
              have HQ78 := hide (sizeS (unhide HS77) hN (unhide HCN))
              rw [unhide E79] at HQ78
              go_wp2_with fail
              clear hc77 hg77
              refine (unhide HQ78).mono ?_
              rintro e w78 ⟨⟨rfl, hS⟩, hf⟩
              have HS78 := hide hS
              clear hS hf HQ78
              go_wp2
              go_ret
              have hE : rB = .ok ({ nd with kind := 6, con := cz }, jz, ns) := by rw [unhide HR]; simp [baseT, unhide E1, unhide E61, unhide E65, unhide E69, unhide E75, unhide E79, bind, Except.bind, pure, Except.pure]
              rw [hE]
              exact ⟨⟨rfl, GivesBase.of (unhide HS78) (unhide HIT)⟩, (unhide HS78).2.1⟩
          · have E75 := hide hb75
            clear hb75
            go_wp2_with fail
            refine (takeS_n (unhide HS74) (unhide E75)).mono ?_
            rintro e w80 ⟨rfl, hS⟩
            have HS80 := hide hS
            clear hS
            rcases Bool.eq_false_or_eq_true (isT l i wOCTET) with hb81 | hb81
            · have E81 := hide hb81
              clear hb81
              go_wp2_with fail
              refine (takeS_y (unhide HS80) (unhide E81)).mono ?_
              rintro e w82 ⟨rfl, hS⟩
              have HS82 := hide hS
              clear hS
              obtain ⟨Af83, cf83, hB83⟩ := (unhide HS82).nb
              obtain ⟨hc83, hg83, -⟩ := hB83.facts
              simp only [nodeC] at hc83
              clear hB83
              have HS83 := hide ((unhide HS82).set (nd' := { nd with kind := 5 }) 0 (.int .i64 5) (fun v => rfl) rfl)
              rcases hr85 : wantT l (i + 1) wSTRING with ⟨p85, x85⟩ | k84
              · have E85 := hide hr85
                clear hr85
                have HQ84 := hide (wantS (unhide HS83) wSTRING)
                rw [unhide E85] at HQ84
                go_wp2_with fail
                clear hc83 hg83
                refine (unhide HQ84).mono ?_
                rintro e w84 ⟨⟨rfl, hp⟩, hf⟩
                have HP84 := hide hp
                have HF84 := hide hf
                clear hp hf HQ84
                go_wp2
                go_ret
                have hE : rB = .error (p85, x85) := by rw [unhide HR]; simp [baseT, unhide E1, unhide E61, unhide E65, unhide E69, unhide E75, unhide E81, unhide E85, bind, Except.bind, pure, Except.pure]
                rw [hE]
                exact ⟨⟨rfl, unhide HP84⟩, unhide HF84⟩
              · have E85 := hide hr85
                clear hr85
                have HQ84 := hide (wantS (unhide HS83) wSTRING)
                rw [unhide E85] at HQ84
                go_wp2_with fail
                clear hc83 hg83
                refine (unhide HQ84).mono ?_
                rintro e w84 ⟨⟨rfl, hS⟩, hf⟩
                have HS84 := hide hS
                clear hS hf HQ84
                rcases hr87 : sizeT l k84 with ⟨p87, x87⟩ | ⟨cz, jz⟩
                · have E87 := hide hr87
                  clear hr87
                  have HQ86 := hide (sizeS (unhide HS84) hN (unhide HCN))
                  rw [unhide E87] at HQ86
                  go_wp2_with fail
                  refine (unhide HQ86).mono ?_
                  rintro e w86 ⟨⟨rfl, hp⟩, hf⟩
                  have HP86 := hide hp
                  have HF86 := hide hf
                  clear hp hf HQ86
                  go_wp2
                  go_ret
                  have hE : rB = .error (p87, x87) := by rw [unhide HR]; simp [baseT, unhide E1, unhide E61, unhide E65, unhide E69, unhide E75, unhide E81, unhide E85, unhide E87, bind, Except.bind, pure, Except.pure]
                  rw [hE]
                  exact ⟨⟨rfl, unhide HP86⟩, unhide HF86⟩
                · have E87 := hide hr87
                  clear hr87
                  have HQ86 := hide (sizeS (unhide HS84) hN (unhide HCN))
                  rw [unhide E87] at HQ86
                  go_wp2_with fail
                  refine (unhide HQ86).mono ?_
                  rintro e w86 ⟨⟨rfl, hS⟩, hf⟩
                  have HS86 := hide hS
                  clear hS hf HQ86
                  go_wp2
                  go_ret
                  have hE : rB = .ok ({ nd with kind := 5, con := cz }, jz, ns) := by rw [unhide HR]; simp [baseT, unhide E1, unhide E61, unhide E65, unhide E69, unhide E75, unhide E81, unhide E85, unhide E87, bind, Except.bind, pure, Except.pure]
                  rw [hE]
                  exact ⟨⟨rfl, GivesBase.of (unhide HS86) (unhide HIT)⟩, (unhide HS86).2.1⟩
            · have E81 := hide hb81
              clear hb81
              go_wp2_with fail
              refine (takeS_n (unhide HS80) (unhide E81)).mono ?_
              rintro e w88 ⟨rfl, hS⟩
              have HS88 := hide hS
              clear hS
              rcases Bool.eq_false_or_eq_true (isT l i wENUMERATED) with hb89 | hb89
              · have E89 := hide hb89
                clear hb89
                go_wp2_with fail
                refine (takeS_y (unhide HS88) (unhide E89)).mono ?_
                rintro e w90 ⟨rfl, hS⟩
                have HS90 := hide hS
                clear hS
                obtain ⟨Af91, cf91, hB91⟩ := (unhide HS90).nb
                obtain ⟨hc91, hg91, -⟩ := hB91.facts
                simp only [nodeC] at hc91
                clear hB91
                have HS91 := hide ((unhide HS90).set (nd' := { nd with kind := 3 }) 0 (.int .i64 3) (fun v => rfl) rfl)
                rcases hr93 : wantT l (i + 1) s_lb with ⟨p93, x93⟩ | k92
                · have E93 := hide hr93
                  clear hr93
                  have HQ92 := hide (wantS (unhide HS91) s_lb)
                  rw [unhide E93] at HQ92
                  go_wp2_with fail
                  clear hc91 hg91
                  refine (unhide HQ92).mono ?_
                  rintro e w92 ⟨⟨rfl, hp⟩, hf⟩
                  have HP92 := hide hp
                  have HF92 := hide hf
                  clear hp hf HQ92
                  go_wp2
                  go_ret
                  have hE : rB = .error (p93, x93) := by rw [unhide HR, baseT_enum (unhide E1) (unhide E61) (unhide E65) (unhide E69) (unhide E75) (unhide E81) (unhide E89), unhide E93]; rfl
                  rw [hE]
                  exact ⟨⟨rfl, unhide HP92⟩, unhide HF92⟩
                · have E93 := hide hr93
                  clear hr93
                  have HQ92 := hide (wantS (unhide HS91) s_lb)
                  rw [unhide E93] at HQ92
                  go_wp2_with fail
                  clear hc91 hg91
                  refine (unhide HQ92).mono ?_
                  rintro e w92 ⟨⟨rfl, hS⟩, hf⟩
                  have HS92 := hide hS
                  clear hS hf HQ92
                  rcases hr95 : itemsA l { nd with kind := 3 } k92 with ⟨p95, x95⟩ | ⟨ndE, jE⟩
                  · have E95 := hide hr95
                    clear hr95
                    have HQ94 := hide (itemsS (unhide HS92) hN (unhide HIT))
                    rw [unhide E95] at HQ94
                    go_wp2_with fail
                    refine (unhide HQ94).mono ?_
                    rintro e w94 ⟨⟨rfl, hp⟩, hf⟩
                    have HP94 := hide hp
                    have HF94 := hide hf
                    clear hp hf HQ94
                    go_wp2
                    go_ret
                    have hE : rB = .error (p95, x95) := by rw [unhide HR, baseT_enum (unhide E1) (unhide E61) (unhide E65) (unhide E69) (unhide E75) (unhide E81) (unhide E89), unhide E93]; simp [unhide E95, bind, Except.bind]
                    rw [hE]
                    exact ⟨⟨rfl, unhide HP94⟩, unhide HF94⟩
                  · have E95 := hide hr95
                    clear hr95
                    have HQ94 := hide (itemsS (unhide HS92) hN (unhide HIT))
                    rw [unhide E95] at HQ94
                    go_wp2_with fail
                    refine (unhide HQ94).mono ?_
                    rintro e w94 ⟨⟨rfl, vi', hS, hI⟩, hf⟩
                    have HS94 := hide hS
                    have HI94 := hide hI
                    clear hS hI hf HQ94
                    rcases hr97 : wantT l jE s_rb with ⟨p97, x97⟩ | k96
                    · have E97 := hide hr97
                      clear hr97
                      have HQ96 := hide (wantS (unhide HS94) s_rb)
                      rw [unhide E97] at HQ96
                      go_wp2_with fail
                      refine (unhide HQ96).mono ?_
                      rintro e w96 ⟨⟨rfl, hp⟩, hf⟩
                      have HP96 := hide hp
                      have HF96 := hide hf
                      clear hp hf HQ96
                      go_wp2
                      go_ret
                      have hE : rB = .error (p97, x97) := by rw [unhide HR, baseT_enum (unhide E1) (unhide E61) (unhide E65) (unhide E69) (unhide E75) (unhide E81) (unhide E89), unhide E93]; simp [unhide E95, unhide E97, bind, Except.bind]
                      rw [hE]
                      exact ⟨⟨rfl, unhide HP96⟩, unhide HF96⟩
                    · have E97 := hide hr97
                      clear hr97
                      have HQ96 := hide (wantI (unhide HS94) (unhide HI94) s_rb)
                      rw [unhide E97] at HQ96
                      go_wp2_with fail
                      refine (unhide HQ96).mono ?_
                      rintro e w96 ⟨⟨rfl, hS, hI⟩, hf⟩
                      have HS96 := hide hS
                      have HI96 := hide hI
                      clear hS hI hf HQ96
                      go_wp2
                      go_ret
                      have hE : rB = .ok (ndE, k96, ns) := by rw [unhide HR, baseT_enum (unhide E1) (unhide E61) (unhide E65) (unhide E69) (unhide E75) (unhide E81) (unhide E89), unhide E93]; simp [unhide E95, unhide E97, bind, Except.bind, pure, Except.pure]
                      rw [hE]
                      exact ⟨⟨rfl, vi', unhide HS96, unhide HI96⟩, (unhide HS96).2.1⟩
              · have E89 := hide hb89
                clear hb89
                go_wp2_with fail
                refine (takeS_n (unhide HS88) (unhide E89)).mono ?_
                rintro e w98 ⟨rfl, hS⟩
                have HS98 := hide hS
                clear hS
                rcases Bool.eq_false_or_eq_true (isT l i wSEQUENCE) with hb99 | hb99
                · have E99 := hide hb99
                  clear hb99
                  go_wp2_with fail
                  refine (takeS_y (unhide HS98) (unhide E99)).mono ?_
                  rintro e w100 ⟨rfl, hS⟩
                  have HS100 := hide hS
                  clear hS
                  rcases hr102 : seqT l ndp nd (i + 1) ns with ⟨p102, x102⟩ | ⟨ndB, jB, nsB⟩
                  · have E102 := hide hr102
                    clear hr102
                    have HQ101 := hide (sequence_q (unhide HS100) hN hXs hNd hle hD0 hD1 (unhide HCN))
                    rw [unhide E102] at HQ101
                    go_wp2_with fail
                    refine (unhide HQ101).mono ?_
                    rintro e w101 ⟨⟨rfl, hp⟩, hf⟩
                    have HP101 := hide hp
                    have HF101 := hide hf
                    clear hp hf HQ101
                    go_wp2
                    go_ret
                    have hE : rB = .error (p102, x102) := by rw [unhide HR, baseT_seq (unhide E1) (unhide E61) (unhide E65) (unhide E69) (unhide E75) (unhide E81) (unhide E89) (unhide E99), unhide E102]
                    rw [hE]
                    exact ⟨⟨rfl, unhide HP101⟩, unhide HF101⟩
                  · have E102 := hide hr102
                    clear hr102
                    have HQ101 := hide (sequence_q (unhide HS100) hN hXs hNd hle hD0 hD1 (unhide HCN))
                    rw [unhide E102] at HQ101
                    go_wp2_with fail
                    refine (unhide HQ101).mono ?_
                    rintro e w101 ⟨⟨rfl, hS⟩, hf⟩
                    have HS101 := hide hS
                    clear hS hf HQ101
                    go_wp2
                    go_ret
                    have hE : rB = .ok (ndB, jB, nsB) := by rw [unhide HR, baseT_seq (unhide E1) (unhide E61) (unhide E65) (unhide E69) (unhide E75) (unhide E81) (unhide E89) (unhide E99), unhide E102]
                    rw [hE]
                    exact ⟨⟨rfl, GivesBase.of (unhide HS101) (by rw [seqT_items (unhide E102)]; exact unhide HIT)⟩, (unhide HS101).2.1⟩
                · have E99 := hide hb99
                  clear hb99
                  go_wp2_with fail
                  refine (takeS_n (unhide HS98) (unhide E99)).mono ?_
                  rintro e w103 ⟨rfl, hS⟩
                  have HS103 := hide hS
                  clear hS
                  rcases Bool.eq_false_or_eq_true (isT l i wSET) with hb104 | hb104
                  · have E104 := hide hb104
                    clear hb104
                    go_wp2_with fail
                    refine (takeS_y (unhide HS103) (unhide E104)).mono ?_
                    rintro e w105 ⟨rfl, hS⟩
                    have HS105 := hide hS
                    clear hS
                    obtain ⟨Af106, cf106, hB106⟩ := (unhide HS105).nb
                    obtain ⟨hc106, hg106, -⟩ := hB106.facts
                    simp only [nodeC] at hc106
                    clear hB106
                    have HS106 := hide ((unhide HS105).set (nd' := { nd with kind := 8 }) 0 (.int .i64 8) (fun v => rfl) rfl)
                    rcases hr108 : bracedT l ndp { nd with kind := 8 } (i + 1) ns with ⟨p108, x108⟩ | ⟨ndB, jB, nsB⟩
                    · have E108 := hide hr108
                      clear hr108
                      have HQ107 := hide (braced_q (unhide HS106) hN hXs hNd hle hD0 hD1)
                      rw [unhide E108] at HQ107
                      go_wp2_with fail
                      clear hc106 hg106
                      refine (unhide HQ107).mono ?_
                      rintro e w107 ⟨⟨rfl, hp⟩, hf⟩
                      have HP107 := hide hp
                      have HF107 := hide hf
                      clear hp hf HQ107
                      go_wp2
                      go_ret
                      have hE : rB = .error (p108, x108) := by rw [unhide HR]; simp [baseT, unhide E1, unhide E61, unhide E65, unhide E69, unhide E75, unhide E81, unhide E89, unhide E99, unhide E104, unhide E108, bind, Except.bind, pure, Except.pure]
                      rw [hE]
                      exact ⟨⟨rfl, unhide HP107⟩, unhide HF107⟩
                    · have E108 := hide hr108
                      clear hr108
                      have HQ107 := hide (braced_q (unhide HS106) hN hXs hNd hle hD0 hD1)
                      rw [unhide E108] at HQ107
                      go_wp2_with fail
                      clear hc106 hg106
                      refine (unhide HQ107).mono ?_
                      rintro e w107 ⟨⟨rfl, hS⟩, hf⟩
                      have HS107 := hide hS
                      clear hS hf HQ107
                      go_wp2
                      go_ret
                      have hE : rB = .ok (ndB, jB, nsB) := by rw [unhide HR]; simp [baseT, unhide E1, unhide E61, unhide E65, unhide E69, unhide E75, unhide E81, unhide E89, unhide E99, unhide E104, unhide E108, bind, Except.bind, pure, Except.pure]
                      rw [hE]
                      exact ⟨⟨rfl, GivesBase.of (unhide HS107) (by rw [bracedT_items (unhide E108)]; exact unhide HIT)⟩, (unhide HS107).2.1⟩
                  · have E104 := hide hb104
                    clear hb104
                    go_wp2_with fail
                    refine (takeS_n (unhide HS103) (unhide E104)).mono ?_
                    rintro e w109 ⟨rfl, hS⟩
                    have HS109 := hide hS
                    clear hS
                    rcases Bool.eq_false_or_eq_true (isT l i wCHOICE) with hb110 | hb110
                    · have E110 := hide hb110
                      clear hb110
                      go_wp2_with fail
                      refine (takeS_y (unhide HS109) (unhide E110)).mono ?_
                      rintro e w111 ⟨rfl, hS⟩
                      have HS111 := hide hS
                      clear hS
                      obtain ⟨Af112, cf112, hB112⟩ := (unhide HS111).nb
                      obtain ⟨hc112, hg112, -⟩ := hB112.facts
                      simp only [nodeC] at hc112
                      clear hB112
                      have HS112 := hide ((unhide HS111).set (nd' := { nd with kind := 9 }) 0 (.int .i64 9) (fun v => rfl) rfl)
                      rcases hr114 : bracedT l ndp { nd with kind := 9 } (i + 1) ns with ⟨p114, x114⟩ | ⟨ndB, jB, nsB⟩
                      · have E114 := hide hr114
                        clear hr114
                        have HQ113 := hide (braced_q (unhide HS112) hN hXs hNd hle hD0 hD1)
                        rw [unhide E114] at HQ113
                        go_wp2_with fail
                        clear hc112 hg112
                        refine (unhide HQ113).mono ?_
                        rintro e w113 ⟨⟨rfl, hp⟩, hf⟩
                        have HP113 := hide hp
                        have HF113 := hide hf
                        clear hp hf HQ113
                        go_wp2
                        go_ret
                        have hE : rB = .error (p114, x114) := by rw [unhide HR]; simp [baseT, unhide E1, unhide E61, unhide E65, unhide E69, unhide E75, unhide E81, unhide E89, unhide E99, unhide E104, unhide E110, unhide E114, bind, Except.bind, pure, Except.pure]
                        rw [hE]
                        exact ⟨⟨rfl, unhide HP113⟩, unhide HF113⟩
                      · have E114 := hide hr114
                        clear hr114
                        have HQ113 := hide (braced_q (unhide HS112) hN hXs hNd hle hD0 hD1)
                        rw [unhide E114] at HQ113
                        go_wp2_with fail
                        clear hc112 hg112
                        refine (unhide HQ113).mono ?_
                        rintro e w113 ⟨⟨rfl, hS⟩, hf⟩
                        have HS113 := hide hS
                        clear hS hf HQ113
                        go_wp2
                        go_ret
                        have hE : rB = .ok (ndB, jB, nsB) := by rw [unhide HR]; simp [baseT, unhide E1, unhide E61, unhide E65, unhide E69, unhide E75, unhide E81, unhide E89, unhide E99, unhide E104, unhide E110, unhide E114, bind, Except.bind, pure, Except.pure]
                        rw [hE]
                        exact ⟨⟨rfl, GivesBase.of (unhide HS113) (by rw [bracedT_items (unhide E114)]; exact unhide HIT)⟩, (unhide HS113).2.1⟩
                    · have E110 := hide hb110
                      clear hb110
                      go_wp2_with fail
                      refine (takeS_n (unhide HS109) (unhide E110)).mono ?_
                      rintro e w115 ⟨rfl, hS⟩
                      have HS115 := hide hS
                      clear hS
                      go_wp2_with fail
                      refine (stopS (unhide HS115) 7).mono ?_
                      rintro e w116 ⟨rfl, hp, hf⟩
                      have HP116 := hide hp
                      have HF116 := hide hf
                      clear hp hf
                      go_wp2
                      go_ret
                      have hE : rB = .error ((tk l i).2.2, 7) := by rw [unhide HR]; simp [baseT, errT, unhide E1, unhide E61, unhide E65, unhide E69, unhide E75, unhide E81, unhide E89, unhide E99, unhide E104, unhide E110]
                      rw [hE]
                      exact ⟨⟨rfl, unhide HP116⟩, unhide HF116⟩
end
end Go.Proofs.YtckcbgijddglpaaGreatDoor
