/- The walk of BitsWrite. -/
import Derived.Test.YtocnmnimlmehgaaOps1
import Derived.Test.YtocnmnimlmehgaaRefW2
import Derived.Test.YtocnmnimlmehgaaSpoilF
import Derived.Deep.RegionHeld3
namespace Go.Proofs.Ytocnmnimlmehgaa
open Go.ChangeShapes Go.WideShapes Go.ChangeAt Go.RowKit

/-- The writer at g and the reference's one at gv hold the same n bits of N; where their lists lie is Q. -/
def WP (base : Nat) (wr : World) (g gv : Nat) (N : Int) (n : Nat) (Q : Nat → Prop) : Prop :=
  ∃ m room A c A' c', WrV base wr g N n m room A c ∧ room < 8 ∧ RefV base wr gv N n A' c' ∧ (∀ b, rowOf A = some b → rowOf A' ≠ some b) ∧ (∀ b, rowOf A = some b → Q b) ∧ (∀ b, rowOf A' = some b → Q b)
section
variable {base : Nat} {wr w1 w2 : World} {g gv : Nat} {N N' : Int} {n n' : Nat} {Q : Nat → Prop}
theorem WP.w (h : WP base wr g gv N n Q) : WS base wr g N n := by
  obtain ⟨m, room, A, c, A', c', h1, h2, _⟩ := h
  exact ⟨m, room, A, c, h1, h2⟩
theorem WP.v (h : WP base wr g gv N n Q) : RWS base wr gv N n := by
  obtain ⟨m, room, A, c, A', c', h1, h2, h3, _⟩ := h
  exact ⟨A', c', h3⟩
theorem WP.keeps (h : WP base wr g gv N n Q) (hk : Keeps wr w1) : WP base w1 g gv N n Q := by
  obtain ⟨m, room, A, c, A', c', h1, h2, h3, h4⟩ := h
  exact ⟨m, room, A, c, A', c', ⟨h1.1, h1.2.1.keeps hk, own_keeps_ h1.2.2 hk⟩, h2, ⟨h3.1.keeps hk, own_keeps_ h3.2 hk⟩, h4⟩
theorem WP.any (h : WP base wr g gv N n Q) : WP base wr g gv N n (fun _ => True) := by
  obtain ⟨m, room, A, c, A', c', h1, h2, h3, h4, _⟩ := h
  exact ⟨m, room, A, c, A', c', h1, h2, h3, h4, fun _ _ => trivial, fun _ _ => trivial⟩
/-- A block that is none of theirs is written. -/
theorem WP.fr {g' : Nat} (h : WP base wr g gv N n Q) (hf : Fr g' none wr w1) (hg : g ≠ g') (hv : gv ≠ g') (hQ : ∀ b, Q b → b ≠ g') : WP base w1 g gv N n Q := by
  obtain ⟨m, room, A, c, A', c', h1, h2, h3, h4, h5, h6⟩ := h
  exact ⟨m, room, A, c, A', c', h1.fr hf hg (fun e => by cases e) (fun e => hQ _ (h5 _ e) rfl) (fun b e h => by cases h), h2, h3.fr hf hv (fun e => by cases e) (fun e => hQ _ (h6 _ e) rfl) (fun b e h => by cases h), h4, h5, h6⟩
end
theorem ref_stays {base : Nat} {wr w1 : World} {g gv : Nat} {N N' : Int} {n n' m room c c' : Nat} {A A' : Option Addr} (h1 : WrV base wr g N n m room A c) (h3 : RefV base wr gv N n A' c') (h4 : ∀ b, rowOf A = some b → rowOf A' ≠ some b) (hg : g ≠ gv)
    (hS : St base wr g A N' n' w1) : RefV base w1 gv N n A' c' :=
  h3.fr hS.fr (fun e => hg e.symm) (h1.row_ne h3.1 (by decide)) (own_row_ne h3.2 h1.2.1 (by decide)) (fun b e h => h4 b h e)
theorem both_step {base : Nat} {wr w1 w2 w3 : World} {g gv : Nat} {N N' : Int} {n n' m room c c' : Nat} {A A' : Option Addr} (h1 : WrV base wr g N n m room A c) (h3 : RefV base wr gv N n A' c') (h4 : ∀ b, rowOf A = some b → rowOf A' ≠ some b) (hg : g ≠ gv)
    (hS : St base wr g A N' n' w1) (hk : Keeps w1 w2) (hR : RSt base w2 gv A' N' n' w3) : WP base w3 g gv N' n' (fun b => (rowOf A = some b ∨ rowOf A' = some b) ∨ wr.heap.size ≤ b) := by
  have hr : RefV base w2 gv N n A' c' := by
    have := ref_stays h1 h3 h4 hg hS
    exact ⟨this.1.keeps hk, own_keeps_ this.2 hk⟩
  have hz := hS.fr.2.2.2.1
  obtain ⟨m2, room2, A2, c2, k1', k2, k3, k4⟩ := hS
  obtain ⟨A3, c3, l1, l2, l3⟩ := hR
  have k1 : WrV base w2 g N' n' m2 room2 A2 c2 := ⟨k1'.1, k1'.2.1.keeps hk, own_keeps_ k1'.2.2 hk⟩
  have hd : ∀ b, rowOf A2 = some b → rowOf A' ≠ some b := by
    intro b e e2
    rcases k4.row b e with h | h
    · exact h4 b h e2
    · have := (h3.row_lt b e2).2; omega
  have hw2 : WrV base w3 g N' n' m2 room2 A2 c2 := k1.fr l2 hg (own_row_ne hr.2 k1.2.1 (by decide)) (k1.row_ne hr.1 (by decide)) hd
  have hkz := hk.size
  refine ⟨m2, room2, A2, c2, A3, c3, hw2, k2, l1, fun b e e2 => ?_, fun b e => ?_, fun b e => ?_⟩
  · rcases l3.row b e2 with h | h
    · exact hd b e h
    · have := (k1.row_lt b e).2; omega
  · rcases k4.row b e with h | h
    · exact .inl (.inl h)
    · exact .inr h
  · rcases l3.row b e with h | h
    · exact .inl (.inr h)
    · exact .inr (by omega)
/-- What the loop of BitsWrite keeps. -/
def WrInv (w : World) (k : Nat) (wr : World) : Prop := Keeps w wr ∧ ∃ N n, n ≤ 3300 * k ∧ WP w.heap.size wr w.heap.size (w.heap.size + 1) N n (fun _ => True)
/-- What the last region of a round finds, in whatever order. -/
def TlS (g : Nat) (w3 w' : World) : Prop := g < w3.heap.size ∧ Keeps w3 w'
theorem tl_step {g : Nat} {w3 w w' : World} {u : Value} (h : w.cell? ⟨g, 0, none⟩ = some u ∧ TlS g w3 w) (hk : Keeps w w') : w'.cell? ⟨g, 0, none⟩ = some u ∧ TlS g w3 w' :=
  ⟨(Below.cell (p := ⟨g, 0, none⟩) hk (Nat.lt_of_lt_of_le h.2.1 h.2.2.size)).trans h.1, h.2.1, h.2.2.trans hk⟩
theorem tl_k {g : Nat} {w3 w : World} {u : Value} (h : w.cell? ⟨g, 0, none⟩ = some u ∧ TlS g w3 w) : Keeps w3 w := h.2.2
theorem cat2 (a b : Option Addr) (c d : Nat) (xs ys : List Int) : flat [(a, c, xs), (b, d, ys)] = xs ++ ys := by simp [flat]

set_option maxRecDepth 100000 in
set_option maxHeartbeats 4000000 in
theorem bitsWrite_any (P : Option Addr) (ps : List OpV) (c : Nat) (w : World) (hp : OpsAny w P ps) (hpl : ps.length ≤ maxLen) :
    Calls Try.prog 3 #[.slice P ps.length c] w fun e w' => e = .returned (.bool true) ∧ Keeps w w' := by
  have hm : ps.length ≤ 9223372036854775807 := by unfold maxLen at hpl; exact hpl
  clear hpl
  have HP := hide hp
  clear hp
  generalize hn : ps.length = np at *
  have HN := hide hn
  clear hn
  have hk0 := ((Keeps.refl w).alloc (.cells #[.slice none 0 0, .int .i64 0] 25)).alloc (.cells #[.slice none 0 0] 28)
  have h0 : WrV w.heap.size ((w.alloc (.cells #[.slice none 0 0, .int .i64 0] 25)).alloc (.cells #[.slice none 0 0] 28)) w.heap.size 0 0 0 0 none 0 :=
    ⟨rfl, (Blk.new _ _ _).alloc _, by simpa [lo] using World.ownsRow_nil _ _ _ _⟩
  have h0v : RefV w.heap.size ((w.alloc (.cells #[.slice none 0 0, .int .i64 0] 25)).alloc (.cells #[.slice none 0 0] 28)) (w.heap.size + 1) 0 0 none 0 := by
    have := Blk.new (w.alloc (.cells #[.slice none 0 0, .int .i64 0] 25)) 28 #[.slice none 0 0]
    rw [World.size_alloc] at this
    exact ⟨this, by simpa [bl] using World.ownsRow_nil _ _ _ _⟩
  have HI := hide (show WrInv w 0 _ from ⟨hk0, 0, 0, Nat.le_refl _, 0, 0, none, 0, none, 0, h0, by omega, h0v, (fun b e => by cases e), (fun _ _ => trivial), (fun _ _ => trivial)⟩)
  clear hk0 h0 h0v
  go_enter Try.func3, Try.ntmps3
  go_wp2_with fail
  refine (awake01_any _).mono ?_
  rintro e w1 ⟨rfl, hk1⟩
  obtain ⟨hka, N0, n0, hn0, hwp0⟩ := unhide HI
  have HI1 := hide (show WrInv w 0 w1 from ⟨hka.trans hk1, N0, n0, hn0, hwp0.keeps hk1⟩)
  clear hk1 hka hwp0
  go_wp2
  go_loopw [5] (fun i wr => ∃ k : Nat, k ≤ np ∧ k ≤ 100 ∧ i = .int .i64 k ∧ WrInv w k wr) (fun i _ => np - (intOf i).toNat)
  case atStart => exact ⟨0, by omega, by omega, rfl, unhide HI1⟩
  case round =>
    obtain ⟨k, hk, hk1, rfl, hI⟩ := hrel
    by_cases hlt : k < np ∧ k < 100
    · obtain ⟨hlt, hlt100⟩ := hlt
      obtain ⟨hkp, N, n, hn, m, room, A, d, A', d', hW, hroom, hV, hdis, _, _⟩ := hI
      obtain ⟨b, o, kind, x, v, qa, qc, xs, rfl, hq, hc0, hc1, hc2, hc3, hh, h8, hql, hv0, hv1, hx0, hx1⟩ := (unhide HP).at_ (k := k) (by rw [unhide HN]; exact hlt)
      have hb := (by rcases unhide HP with h | ⟨b', o', e, hb, _⟩
                     · rw [h] at hq; simp at hq
                     · injection e with e; injection e with e1 _ _; rw [e1]; exact hb : b < w.heap.size)
      replace hc0 := (Below.cell (p := ⟨b, _, none⟩) hkp hb).trans hc0
      replace hc1 := (Below.cell (p := ⟨b, _, none⟩) hkp hb).trans hc1
      replace hc2 := (Below.cell (p := ⟨b, _, none⟩) hkp hb).trans hc2
      replace hc3 := (Below.cell (p := ⟨b, _, none⟩) hkp hb).trans hc3
      have hnb : n ≤ 330000 := by omega
      have hop := (Keeps.refl wr).alloc (.cells #[.int .i64 kind, .int .i64 x, .int .u32 v, .slice qa xs.length qc] 32)
      have hWo : WrV w.heap.size (wr.alloc (.cells #[.int .i64 kind, .int .i64 x, .int .u32 v, .slice qa xs.length qc] 32)) w.heap.size N n m room A d := hW.alloc_ _
      have hVo : RefV w.heap.size (wr.alloc (.cells #[.int .i64 kind, .int .i64 x, .int .u32 v, .slice qa xs.length qc] 32)) (w.heap.size + 1) N n A' d' := ⟨hV.1.alloc _, hV.2.alloc _⟩
      have hOb := Blk.new wr 32 #[.int .i64 kind, .int .i64 x, .int .u32 v, .slice qa xs.length qc]
      have hwz := hkp.size
      have hgz := hV.1.lt
      have HRW := hide (fun b e => (hW.row_lt b e).2)
      have HRV := hide (fun b e => (hV.row_lt b e).2)
      have HRWb := hide (fun b e => (hW.row_lt b e).1)
      have HRVb := hide (fun b e => (hV.row_lt b e).1)
      have HW := hide hWo
      have HV := hide hVo
      have HDIS := hide hdis
      have HKP := hide hkp
      have HOP := hide hop
      have HOB := hide hOb
      have HH := hide hh
      have H8 := hide h8
      unfold maxLen at hql
      have HQ := hide hq
      clear hkp hW hV hdis hop hWo hVo hOb hh h8 hq
      by_cases h1 : kind = 1
      · subst h1
        obtain ⟨K, hK1, hK2⟩ : ∃ K : Nat, min (max x 0) 32 = (K : Int) ∧ max 0 (min x 32) = (K : Int) := ⟨(min (max x 0) 32).toNat, by omega, by omega⟩
        have hK32 : K ≤ 32 := by omega
        have HC1 := hide (bits_st v x K (St.start (unhide HW) hroom) (by have := (unhide HOP).size; omega) hv0 hv1 hK1 (by omega))
        have HK2 := hide hK2
        clear hK1 hK2 hql
        go_wp2_with fail
        with_reducible refine (unhide HC1).mono ?_
        rintro e w2 ⟨rfl, hS2⟩
        have hr2 := ref_stays (unhide HW) (unhide HV) (unhide HDIS) (by omega) hS2
        have HC2 := hide (refBits_st v x K (RSt.start hr2) (by have := (unhide HOP).size; have := hS2.fr.2.2.2.1; omega) hv0 hv1 (unhide HK2) (by omega))
        have hob2 := fr_blk hS2.fr (unhide HOB) (by omega) (fun e => by have := unhide HRW _ e; omega)
        obtain ⟨hoc, hof, hol⟩ := hob2.facts
        have HF2 := hide hS2.fr
        have HS2 := hide hS2
        clear hS2 hr2 hob2
        go_wp2_with fail
        with_reducible refine (unhide HC2).mono ?_
        rintro e w3 ⟨rfl, hR3⟩
        have hwp := (both_step (unhide HW) (unhide HV) (unhide HDIS) (by omega) (unhide HS2) (Keeps.refl _) hR3).any
        have hk3 := fr_keeps (fr_keeps ((unhide HKP).trans (unhide HOP)) (unhide HF2) (Nat.le_refl _) (unhide HRWb)) hR3.fr (by omega) (unhide HRVb)
        have hnk : n + K ≤ 3300 * (k + 1) := by omega
        clear hR3 hoc hof hol
        generalize tot N v K = N2 at *
        generalize n + K = n2 at *
        have hn2 : n2 ≤ 70000000 := by omega
        have HWP := hide hwp
        have HK3 := hide hk3
        clear hwp hk3
        go_wp2_with fail
        refine (bytes_st (unhide HWP).w hn2).mono ?_
        rintro e w7 ⟨A7, c7, rfl, hc7, hf7⟩
        have hwp7 := (unhide HWP).keeps hf7.2
        have hgz7 : w.heap.size + 1 < w7.heap.size := by obtain ⟨A9, d9, h9⟩ := hwp7.v; exact h9.1.lt
        obtain ⟨A9, d9, h9⟩ := hwp7.v
        have hg9 : w7.cell? ⟨w.heap.size + 1, 0, none⟩ = some (.slice A9 n2 d9) := h9.1.cell 0
        have HOL := hide (oct_length N2 n2)
        have HWP7 := hide hwp7
        have HF7 := hide hf7
        have HO8 := hide (oct_bytes N2 n2)
        have HSM := hide (fun (B : Option Addr) (e : Nat) (w' : World) (h1 : Holds w' A7 (oct N2 n2)) (h2 : Holds w' B (oct N2 n2)) => (show Calls Try.prog 21 #[.slice A7 (oct N2 n2).length c7, .slice B (oct N2 n2).length e] w' (fun e w'' => e = .returned (.bool true) ∧ w' = w'') from by
          have := sameBytes_any A7 B (oct N2 n2) (oct N2 n2) c7 e w' h1 h2 (oct_bytes N2 n2) (oct_bytes N2 n2)
          rwa [decide_eq_true rfl] at this))
        clear hwp7 h9 hf7 hc7
        go_wp2
        refine wp_region_held_drew (S := fun w' => w'.cell? ⟨w.heap.size + 1, 0, none⟩ = some (.slice A9 n2 d9) ∧ TlS (w.heap.size + 1) w7 w') (by kernel_rfl) ?_ (fun hHeld => ?_)
        · exact ⟨hg9, hgz7, (Keeps.refl w7).drew⟩
        refine wpAnyH_take (i := 1) (oi := { dst := some 79, op := Op.move (Operand.tmp 4), type := 26, pos := "law.go:63", after := #[], guard := none }) (v := ?_) rfl (by kernel_rfl) (by kernel_rfl) (by kernel_rfl) (fun _ _ _ h => h) (Or.inl ⟨by rfl, ?_⟩) (by assumption) ?_
        rotate_left
        · intro w hSw
          go_simp
          try with_reducible rfl
        try simp only [Act.put, List.setIfInBounds_toArray, List.set_cons_zero, List.set_cons_succ]
        refine wpAnyH_take (i := 2) (oi := { dst := some 80, op := Op.nilCheck (Operand.tmp 79), type := 0, pos := "law.go:63", after := #[{ on := 1, ground := Ground.data }], guard := none }) (v := ?_) rfl (by kernel_rfl) (by kernel_rfl) (by kernel_rfl) (fun _ _ _ h => h) (Or.inl ⟨by rfl, ?_⟩) (by assumption) ?_
        rotate_left
        · intro w hSw
          go_simp
          try with_reducible rfl
        try simp only [Act.put, List.setIfInBounds_toArray, List.set_cons_zero, List.set_cons_succ]
        refine wpAnyH_take (i := 3) (oi := { dst := some 81, op := Op.fieldAddr 28 (Operand.tmp 80) 0, type := 0, pos := "law.go:63", after := #[{ on := 2, ground := Ground.data }], guard := none }) (v := ?_) rfl (by kernel_rfl) (by kernel_rfl) (by kernel_rfl) (fun _ _ _ h => h) (Or.inl ⟨by rfl, ?_⟩) (by assumption) ?_
        rotate_left
        · intro w hSw
          go_simp
          try with_reducible rfl
        try simp only [Act.put, List.setIfInBounds_toArray, List.set_cons_zero, List.set_cons_succ]
        refine wpAnyH_take (i := 4) (oi := { dst := some 82, op := Op.load 23 (Operand.tmp 81), type := 23, pos := "law.go:63", after := #[{ on := 3, ground := Ground.data }], guard := none }) (v := ?_) rfl (by kernel_rfl) (by kernel_rfl) (by kernel_rfl) (fun _ _ _ h => h) (Or.inl ⟨by rfl, ?_⟩) (by assumption) ?_
        rotate_left
        · intro w hSw
          go_simp
          try with_reducible rfl
        try simp only [Act.put, List.setIfInBounds_toArray, List.set_cons_zero, List.set_cons_succ]
        refine wpAnyH_take (i := 5) (oi := { dst := some 83, op := Op.call { callee := Callee.builtin Builtin.len, args := #[Operand.tmp 82], argTypes := #[23] }, type := 3, pos := "law.go:63", after := #[{ on := 4, ground := Ground.data }], guard := none }) (v := ?_) rfl (by kernel_rfl) (by kernel_rfl) (by kernel_rfl) (fun _ _ _ h => h) (Or.inl ⟨by rfl, ?_⟩) (by assumption) ?_
        rotate_left
        · intro w hSw
          go_simp
          try with_reducible rfl
        try simp only [Act.put, List.setIfInBounds_toArray, List.set_cons_zero, List.set_cons_succ]
        refine wpAnyH_ready (rs := [0]) (by kernel_rfl) (by simp) ?_
        refine AllReadyH.cons (o := { dst := some 78, op := Op.call { callee := Callee.value (Operand.func 20), args := #[Operand.tmp 3], argTypes := #[25] }, type := 3, pos := "law.go:63", after := #[], guard := none }) rfl (fun K hK => ?_) AllReadyH.nil
        go_simp
        go_at_call 20
        refine (len_st ((unhide HWP7).keeps (tl_k hHeld)).w).mono ?_
        rintro e wn ⟨rfl, rfl⟩
        go_wp2_with fail
        refine hK.out _ _ ?_ (fun hHeld => ?_)
        · assumption
        clear hK K
        try simp only [Act.put, List.setIfInBounds_toArray, List.set_cons_zero, List.set_cons_succ]
        refine wpAnyH_take (i := 6) (oi := { dst := some 84, op := Op.binOp BinOp.neq 3 (Operand.tmp 78) (Operand.tmp 83) 3, type := 4, pos := "law.go:63", after := #[{ on := 0, ground := Ground.data }, { on := 5, ground := Ground.data }], guard := none }) (v := ?_) rfl (by kernel_rfl) (by kernel_rfl) (by kernel_rfl) (fun _ _ _ h => h) (Or.inl ⟨by rfl, ?_⟩) (by assumption) ?_
        rotate_left
        · intro w hSw
          go_simp
          try with_reducible rfl
        try simp only [Act.put, List.setIfInBounds_toArray, List.set_cons_zero, List.set_cons_succ]
        refine wpAnyH_take (i := 7) (oi := { dst := some 85, op := Op.move (Operand.tmp 84), type := 4, pos := "law.go:63", after := #[{ on := 6, ground := Ground.data }, { on := 0, ground := Ground.chain }], guard := none }) (v := ?_) rfl (by kernel_rfl) (by kernel_rfl) (by kernel_rfl) (fun _ _ _ h => h) (Or.inl ⟨by rfl, ?_⟩) (by assumption) ?_
        rotate_left
        · intro w hSw
          go_simp
          try with_reducible rfl
        try simp only [Act.put, List.setIfInBounds_toArray, List.set_cons_zero, List.set_cons_succ]
        refine wpAnyH_take (i := 8) (oi := { dst := some 86, op := Op.move (Operand.tmp 8), type := 23, pos := "law.go:63", after := #[{ on := 7, ground := Ground.guard }], guard := some (7, false) }) (v := ?_) rfl (by kernel_rfl) (by kernel_rfl) (by kernel_rfl) (fun _ _ _ h => h) (Or.inl ⟨by rfl, ?_⟩) (by assumption) ?_
        rotate_left
        · intro w hSw
          go_simp
          try with_reducible rfl
        try simp only [Act.put, List.setIfInBounds_toArray, List.set_cons_zero, List.set_cons_succ]
        refine wpAnyH_take (i := 9) (oi := { dst := some 87, op := Op.move (Operand.tmp 4), type := 26, pos := "law.go:63", after := #[{ on := 7, ground := Ground.guard }], guard := some (7, false) }) (v := ?_) rfl (by kernel_rfl) (by kernel_rfl) (by kernel_rfl) (fun _ _ _ h => h) (Or.inl ⟨by rfl, ?_⟩) (by assumption) ?_
        rotate_left
        · intro w hSw
          go_simp
          try with_reducible rfl
        try simp only [Act.put, List.setIfInBounds_toArray, List.set_cons_zero, List.set_cons_succ]
        refine wpAnyH_ready (rs := [10]) (by kernel_rfl) (by simp) ?_
        refine AllReadyH.cons (o := { dst := some 88, op := Op.call { callee := Callee.value (Operand.func 22), args := #[Operand.tmp 87], argTypes := #[26] }, type := 23, pos := "law.go:63", after := #[{ on := 9, ground := Ground.data }, { on := 7, ground := Ground.chain }, { on := 7, ground := Ground.guard }], guard := some (7, false) }) rfl (fun K hK => ?_) AllReadyH.nil
        go_simp
        go_at_call 22
        refine (refBytes_st ((unhide HWP7).keeps (tl_k hHeld)).v (by omega)).mono ?_
        rintro e wn ⟨A8, c8, rfl, hc8, hf8⟩
        have hh8 := hf8.holds
        go_wp2_with fail
        refine hK.out _ _ ?_ (fun hHeld => ?_)
        · exact tl_step (by assumption) hf8.2
        clear hK K
        try simp only [Act.put, List.setIfInBounds_toArray, List.set_cons_zero, List.set_cons_succ]
        refine wpAnyH_ready (rs := [11]) (by kernel_rfl) (by simp) ?_
        refine AllReadyH.cons (o := { dst := some 89, op := Op.call { callee := Callee.value (Operand.func 21), args := #[Operand.tmp 86, Operand.tmp 88], argTypes := #[23, 23] }, type := 4, pos := "law.go:63", after := #[{ on := 8, ground := Ground.data }, { on := 10, ground := Ground.data }, { on := 10, ground := Ground.chain }, { on := 7, ground := Ground.guard }], guard := some (7, false) }) rfl (fun K hK => ?_) AllReadyH.nil
        go_simp
        go_at_call 21
        with_reducible refine (unhide HSM _ _ _ ((unhide HF7).holds.keeps (tl_k hHeld)) hh8).mono ?_
        rintro e wn ⟨rfl, rfl⟩
        go_wp2_with fail
        refine hK.out _ _ ?_ (fun hHeld => ?_)
        · assumption
        clear hK K
        try simp only [Act.put, List.setIfInBounds_toArray, List.set_cons_zero, List.set_cons_succ]
        refine wpAnyH_take (i := 12) (oi := { dst := some 90, op := Op.unOp UnOp.not 4 (Operand.tmp 89), type := 4, pos := "law.go:63", after := #[{ on := 11, ground := Ground.data }, { on := 7, ground := Ground.guard }], guard := some (7, false) }) (v := ?_) rfl (by kernel_rfl) (by kernel_rfl) (by kernel_rfl) (fun _ _ _ h => h) (Or.inl ⟨by rfl, ?_⟩) (by assumption) ?_
        rotate_left
        · intro w hSw
          go_simp
          try with_reducible rfl
        try simp only [Act.put, List.setIfInBounds_toArray, List.set_cons_zero, List.set_cons_succ]
        refine wpAnyH_take (i := 13) (oi := { dst := some 91, op := Op.pick (Operand.tmp 85) (Operand.const (Value.bool true)) (Operand.tmp 90), type := 4, pos := "law.go:63", after := #[{ on := 7, ground := Ground.data }, { on := 12, ground := Ground.data }], guard := none }) (v := ?_) rfl (by kernel_rfl) (by kernel_rfl) (by kernel_rfl) (fun _ _ _ h => h) (Or.inl ⟨by rfl, ?_⟩) (by assumption) ?_
        rotate_left
        · intro w hSw
          go_simp
          try with_reducible rfl
        try simp only [Act.put, List.setIfInBounds_toArray, List.set_cons_zero, List.set_cons_succ]
        refine wpAnyH_done (by kernel_rfl) ?_ _
        have hk9 := tl_k hHeld
        have HCS := hide (spoilFresh_any A7 (oct N2 n2) c7 (unhide HF7) hk9 (unhide HO8) (by have := unhide HOL; omega))
        have HK9 := hide hk9
        clear hk9
        go_wp2_with fail
        with_reducible refine (unhide HCS).mono ?_
        rintro e w10 ⟨rfl, hb10⟩
        have hkk := Below.trans ((unhide HF7).2.trans (unhide HK9)) hb10
        have HKK := hide hkk
        clear hkk hb10
        go_wp2
        exact ⟨⟨k + 1, by omega, by omega, by go_num, (unhide HK3).trans (unhide HKK), N2, n2, hnk, (unhide HWP).keeps (unhide HKK)⟩, by simp [intOf]; omega⟩
      · by_cases h2 : kind = 2
        · subst h2
          by_cases hbig : 200 < xs.length
          · have HKO := hide ((unhide HKP).trans (unhide HOP))
            have HWP := hide (show WP w.heap.size (wr.alloc (.cells #[.int .i64 2, .int .i64 x, .int .u32 v, .slice qa xs.length qc] 32)) w.heap.size (w.heap.size + 1) N n (fun _ => True) from ⟨m, room, A, d, A', d', unhide HW, hroom, unhide HV, unhide HDIS, (fun _ _ => trivial), (fun _ _ => trivial)⟩)
            go_wp2
            exact ⟨⟨k + 1, by omega, by omega, by go_num, unhide HKO, N, n, by omega, unhide HWP⟩, by simp [intOf]; omega⟩
          · have hsm : xs.length ≤ 200 := by omega
            clear hql hbig
            have HCO := hide (own_any qa xs qc 71 (by omega) _ ((unhide HH).keeps ((unhide HKP).trans (unhide HOP))))
            go_wp2_with fail
            with_reducible refine (unhide HCO).mono ?_
            rintro e w2 ⟨gi, rfl, hbi, hgi, hk2⟩
            rw [World.size_alloc] at hgi
            have hgil := hbi.lt
            have hsz2 := hk2.size
            rw [World.size_alloc] at hsz2
            have HBI := hide hbi
            have HK2 := hide hk2
            have hob2 := (unhide HOB).keeps hk2
            obtain ⟨hoc, hof, hol⟩ := hob2.facts
            have HW2 := hide (show WrV w.heap.size (w2.alloc (.cells #[.slice (some ⟨gi, 0, none⟩) xs.length (xs.length + 3), .slice qa xs.length qc] 23)) w.heap.size N n m room A d from (show WrV w.heap.size w2 w.heap.size N n m room A d from ⟨(unhide HW).1, (unhide HW).2.1.keeps hk2, own_keeps_ (unhide HW).2.2 hk2⟩).alloc_ _)
            have HV2 := hide (show RefV w.heap.size (w2.alloc (.cells #[.slice (some ⟨gi, 0, none⟩) xs.length (xs.length + 3), .slice qa xs.length qc] 23)) (w.heap.size + 1) N n A' d' from ⟨((unhide HV).1.keeps hk2).alloc _, (own_keeps_ (unhide HV).2 hk2).alloc _⟩)
            have HKB := hide ((((unhide HKP).trans (unhide HOP)).trans hk2).alloc (.cells #[.slice (some ⟨gi, 0, none⟩) xs.length (xs.length + 3), .slice qa xs.length qc] 23))
            have HOB2 := hide (hob2.alloc (.cells #[.slice (some ⟨gi, 0, none⟩) xs.length (xs.length + 3), .slice qa xs.length qc] 23))
            have HBI2 := hide (hbi.alloc (.cells #[.slice (some ⟨gi, 0, none⟩) xs.length (xs.length + 3), .slice qa xs.length qc] 23))
            have HPB := hide (Blk.new w2 23 #[.slice (some ⟨gi, 0, none⟩) xs.length (xs.length + 3), .slice qa xs.length qc])
            have hst : ∀ w', Fr w.heap.size (rowOf A) (w2.alloc (.cells #[.slice (some ⟨gi, 0, none⟩) xs.length (xs.length + 3), .slice qa xs.length qc] 23)) w' → PartsAny w' (some ⟨w2.heap.size, 0, none⟩) [(some ⟨gi, 0, none⟩, xs.length + 3, xs), (qa, qc, xs)] := by
              intro w' hf
              have hp' := fr_blk hf (unhide HPB) (by omega) (fun e => by have := unhide HRW _ e; omega)
              have hi' := fr_blk hf (unhide HBI2) (by omega) (fun e => by have := unhide HRW _ e; omega)
              have hq' := (unhide HH).keeps (fr_keeps (unhide HKB) hf (Nat.le_refl _) (unhide HRWb))
              refine .inr ⟨w2.heap.size, 0, rfl, hp'.lt, fun i q hq => ?_⟩
              match i, hq with
              | 0, hq => simp at hq; subst hq; exact ⟨hp'.cell 0, ownCells_holds hi', unhide H8⟩
              | 1, hq => simp at hq; subst hq; exact ⟨hp'.cell 1, hq', unhide H8⟩
              | i + 2, hq => simp at hq
            have HC1 := hide (octets_st (some ⟨w2.heap.size, 0, none⟩) [(some ⟨gi, 0, none⟩, xs.length + 3, xs), (qa, qc, xs)] 2 2 rfl (St.start (unhide HW2) hroom) (unhide HKB).size hst (by rw [cat2, List.length_append]; omega) (by omega))
            rw [cat2] at HC1
            clear hst hbi hk2 hob2
            go_wp2_with fail
            with_reducible refine (unhide HC1).mono ?_
            rintro e w3 ⟨rfl, hS3⟩
            have hr3 := ref_stays (unhide HW2) (unhide HV2) (unhide HDIS) (by omega) hS3
            have hob3 := fr_blk hS3.fr (unhide HOB2) (by omega) (fun e => by have := unhide HRW _ e; omega)
            have hbi3 := fr_blk hS3.fr (unhide HBI2) (by omega) (fun e => by have := unhide HRW _ e; omega)
            have hk3 := fr_keeps (unhide HKB) hS3.fr (Nat.le_refl _) (unhide HRWb)
            have hsz3 := hS3.fr.2.2.2.1
            rw [World.size_alloc] at hsz3
            have HK3 := hide hk3
            have HS3 := hide hS3
            have HR3a := hide (show RefV w.heap.size (w3.alloc (.cells #[.slice qa xs.length qc, .slice qa xs.length qc] 23)) (w.heap.size + 1) N n A' d' from ⟨hr3.1.alloc _, hr3.2.alloc _⟩)
            have HBI3 := hide (hbi3.alloc (.cells #[.slice qa xs.length qc, .slice qa xs.length qc] 23))
            have HOB3 := hide (hob3.alloc (.cells #[.slice qa xs.length qc, .slice qa xs.length qc] 23))
            have HKB3 := hide (hk3.alloc (.cells #[.slice qa xs.length qc, .slice qa xs.length qc] 23))
            have HPB3 := hide (Blk.new w3 23 #[.slice qa xs.length qc, .slice qa xs.length qc])
            have hst : ∀ w', Fr (w.heap.size + 1) (rowOf A') (w3.alloc (.cells #[.slice qa xs.length qc, .slice qa xs.length qc] 23)) w' → PartsAny w' (some ⟨w3.heap.size, 0, none⟩) [(qa, qc, xs), (qa, qc, xs)] := by
              intro w' hf
              have hp' := fr_blk hf (unhide HPB3) (by omega) (fun e => by have := unhide HRV _ e; omega)
              have hq' := (unhide HH).keeps (fr_keeps (unhide HKB3) hf (by omega) (unhide HRVb))
              refine .inr ⟨w3.heap.size, 0, rfl, hp'.lt, fun i q hq => ?_⟩
              match i, hq with
              | 0, hq => simp at hq; subst hq; exact ⟨hp'.cell 0, hq', unhide H8⟩
              | 1, hq => simp at hq; subst hq; exact ⟨hp'.cell 1, hq', unhide H8⟩
              | i + 2, hq => simp at hq
            have HC2 := hide (refOctets_st (some ⟨w3.heap.size, 0, none⟩) [(qa, qc, xs), (qa, qc, xs)] 2 2 rfl (RSt.start (unhide HR3a)) (unhide HKB3).size hst (by rw [cat2, List.length_append]; omega) (by omega))
            rw [cat2] at HC2
            obtain ⟨hoc3, hof3, hol3⟩ := hob3.facts
            clear hst hr3 hob3 hbi3 hk3 hoc hof hol hS3
            go_wp2_with fail
            with_reducible refine (unhide HC2).mono ?_
            rintro e w4 ⟨rfl, hR4⟩
            have hwp4 := both_step (unhide HW2) (unhide HV2) (unhide HDIS) (by omega) (unhide HS3) ((Keeps.refl w3).alloc (.cells #[.slice qa xs.length qc, .slice qa xs.length qc] 23)) hR4
            have hk4 := fr_keeps (unhide HKB3) hR4.fr (by omega) (unhide HRVb)
            have hbi4 := fr_blk hR4.fr (unhide HBI3) (by omega) (fun e => by have := unhide HRV _ e; omega)
            have hob4 := fr_blk hR4.fr (unhide HOB3) (by omega) (fun e => by have := unhide HRV _ e; omega)
            obtain ⟨hoc4, hof4, hol4⟩ := hob4.facts
            have HWP4 := hide hwp4
            have HK4 := hide hk4
            have HBI4 := hide hbi4
            have HC3 := hide (kept_any gi qa xs qc 71 (by omega) w4 hbi4 ((unhide HH).keeps hk4))
            clear hR4 hwp4 hk4 hbi4 hob4 hoc3 hof3 hol3
            go_wp2_with fail
            with_reducible refine (unhide HC3).mono ?_
            rintro e w5 ⟨rfl, hk5⟩
            have hbi5 := (unhide HBI4).keeps hk5
            have HC4 := hide (spoilF_any (some ⟨gi, 0, none⟩) gi xs xs.length (xs.length + 3) w5 rfl (fun _ => rfl) (ownCells_holds hbi5) (unhide H8) (fun i hi => hbi5.frozen i) (by omega))
            have HK5 := hide hk5
            clear hk5 hbi5
            go_wp2_with fail
            with_reducible refine (unhide HC4).mono ?_
            rintro e w6 ⟨rfl, hf6⟩
            have hwp := (((unhide HWP4).keeps (unhide HK5)).fr hf6 (by omega) (by omega) (fun b h => by
              rcases h with (h | h) | h
              · have := unhide HRW b h; omega
              · have := unhide HRV b h; omega
              · rw [World.size_alloc] at h; omega)).any
            have hk3 := fr_keeps ((unhide HK4).trans (unhide HK5)) hf6 (by omega) (fun b e => by cases e)
            have hnk : n + 8 * (xs ++ xs).length ≤ 3300 * (k + 1) := by rw [List.length_append]; omega
            clear hf6 hoc4 hof4 hol4
            generalize appB N (xs ++ xs) = N2 at *
            generalize n + 8 * (xs ++ xs).length = n2 at *
            have hn2 : n2 ≤ 70000000 := by omega
            have HWP := hide hwp
            have HK3 := hide hk3
            clear hwp hk3
            go_wp2_with fail
            refine (bytes_st (unhide HWP).w hn2).mono ?_
            rintro e w7 ⟨A7, c7, rfl, hc7, hf7⟩
            have hwp7 := (unhide HWP).keeps hf7.2
            have hgz7 : w.heap.size + 1 < w7.heap.size := by obtain ⟨A9, d9, h9⟩ := hwp7.v; exact h9.1.lt
            obtain ⟨A9, d9, h9⟩ := hwp7.v
            have hg9 : w7.cell? ⟨w.heap.size + 1, 0, none⟩ = some (.slice A9 n2 d9) := h9.1.cell 0
            have HOL := hide (oct_length N2 n2)
            have HWP7 := hide hwp7
            have HF7 := hide hf7
            have HO8 := hide (oct_bytes N2 n2)
            have HSM := hide (fun (B : Option Addr) (e : Nat) (w' : World) (h1 : Holds w' A7 (oct N2 n2)) (h2 : Holds w' B (oct N2 n2)) => (show Calls Try.prog 21 #[.slice A7 (oct N2 n2).length c7, .slice B (oct N2 n2).length e] w' (fun e w'' => e = .returned (.bool true) ∧ w' = w'') from by
              have := sameBytes_any A7 B (oct N2 n2) (oct N2 n2) c7 e w' h1 h2 (oct_bytes N2 n2) (oct_bytes N2 n2)
              rwa [decide_eq_true rfl] at this))
            clear hwp7 h9 hf7 hc7
            go_wp2
            refine wp_region_held_drew (S := fun w' => w'.cell? ⟨w.heap.size + 1, 0, none⟩ = some (.slice A9 n2 d9) ∧ TlS (w.heap.size + 1) w7 w') (by kernel_rfl) ?_ (fun hHeld => ?_)
            · exact ⟨hg9, hgz7, (Keeps.refl w7).drew⟩
            refine wpAnyH_take (i := 1) (oi := { dst := some 79, op := Op.move (Operand.tmp 4), type := 26, pos := "law.go:63", after := #[], guard := none }) (v := ?_) rfl (by kernel_rfl) (by kernel_rfl) (by kernel_rfl) (fun _ _ _ h => h) (Or.inl ⟨by rfl, ?_⟩) (by assumption) ?_
            rotate_left
            · intro w hSw
              go_simp
              try with_reducible rfl
            try simp only [Act.put, List.setIfInBounds_toArray, List.set_cons_zero, List.set_cons_succ]
            refine wpAnyH_take (i := 2) (oi := { dst := some 80, op := Op.nilCheck (Operand.tmp 79), type := 0, pos := "law.go:63", after := #[{ on := 1, ground := Ground.data }], guard := none }) (v := ?_) rfl (by kernel_rfl) (by kernel_rfl) (by kernel_rfl) (fun _ _ _ h => h) (Or.inl ⟨by rfl, ?_⟩) (by assumption) ?_
            rotate_left
            · intro w hSw
              go_simp
              try with_reducible rfl
            try simp only [Act.put, List.setIfInBounds_toArray, List.set_cons_zero, List.set_cons_succ]
            refine wpAnyH_take (i := 3) (oi := { dst := some 81, op := Op.fieldAddr 28 (Operand.tmp 80) 0, type := 0, pos := "law.go:63", after := #[{ on := 2, ground := Ground.data }], guard := none }) (v := ?_) rfl (by kernel_rfl) (by kernel_rfl) (by kernel_rfl) (fun _ _ _ h => h) (Or.inl ⟨by rfl, ?_⟩) (by assumption) ?_
            rotate_left
            · intro w hSw
              go_simp
              try with_reducible rfl
            try simp only [Act.put, List.setIfInBounds_toArray, List.set_cons_zero, List.set_cons_succ]
            refine wpAnyH_take (i := 4) (oi := { dst := some 82, op := Op.load 23 (Operand.tmp 81), type := 23, pos := "law.go:63", after := #[{ on := 3, ground := Ground.data }], guard := none }) (v := ?_) rfl (by kernel_rfl) (by kernel_rfl) (by kernel_rfl) (fun _ _ _ h => h) (Or.inl ⟨by rfl, ?_⟩) (by assumption) ?_
            rotate_left
            · intro w hSw
              go_simp
              try with_reducible rfl
            try simp only [Act.put, List.setIfInBounds_toArray, List.set_cons_zero, List.set_cons_succ]
            refine wpAnyH_take (i := 5) (oi := { dst := some 83, op := Op.call { callee := Callee.builtin Builtin.len, args := #[Operand.tmp 82], argTypes := #[23] }, type := 3, pos := "law.go:63", after := #[{ on := 4, ground := Ground.data }], guard := none }) (v := ?_) rfl (by kernel_rfl) (by kernel_rfl) (by kernel_rfl) (fun _ _ _ h => h) (Or.inl ⟨by rfl, ?_⟩) (by assumption) ?_
            rotate_left
            · intro w hSw
              go_simp
              try with_reducible rfl
            try simp only [Act.put, List.setIfInBounds_toArray, List.set_cons_zero, List.set_cons_succ]
            refine wpAnyH_ready (rs := [0]) (by kernel_rfl) (by simp) ?_
            refine AllReadyH.cons (o := { dst := some 78, op := Op.call { callee := Callee.value (Operand.func 20), args := #[Operand.tmp 3], argTypes := #[25] }, type := 3, pos := "law.go:63", after := #[], guard := none }) rfl (fun K hK => ?_) AllReadyH.nil
            go_simp
            go_at_call 20
            refine (len_st ((unhide HWP7).keeps (tl_k hHeld)).w).mono ?_
            rintro e wn ⟨rfl, rfl⟩
            go_wp2_with fail
            refine hK.out _ _ ?_ (fun hHeld => ?_)
            · assumption
            clear hK K
            try simp only [Act.put, List.setIfInBounds_toArray, List.set_cons_zero, List.set_cons_succ]
            refine wpAnyH_take (i := 6) (oi := { dst := some 84, op := Op.binOp BinOp.neq 3 (Operand.tmp 78) (Operand.tmp 83) 3, type := 4, pos := "law.go:63", after := #[{ on := 0, ground := Ground.data }, { on := 5, ground := Ground.data }], guard := none }) (v := ?_) rfl (by kernel_rfl) (by kernel_rfl) (by kernel_rfl) (fun _ _ _ h => h) (Or.inl ⟨by rfl, ?_⟩) (by assumption) ?_
            rotate_left
            · intro w hSw
              go_simp
              try with_reducible rfl
            try simp only [Act.put, List.setIfInBounds_toArray, List.set_cons_zero, List.set_cons_succ]
            refine wpAnyH_take (i := 7) (oi := { dst := some 85, op := Op.move (Operand.tmp 84), type := 4, pos := "law.go:63", after := #[{ on := 6, ground := Ground.data }, { on := 0, ground := Ground.chain }], guard := none }) (v := ?_) rfl (by kernel_rfl) (by kernel_rfl) (by kernel_rfl) (fun _ _ _ h => h) (Or.inl ⟨by rfl, ?_⟩) (by assumption) ?_
            rotate_left
            · intro w hSw
              go_simp
              try with_reducible rfl
            try simp only [Act.put, List.setIfInBounds_toArray, List.set_cons_zero, List.set_cons_succ]
            refine wpAnyH_take (i := 8) (oi := { dst := some 86, op := Op.move (Operand.tmp 8), type := 23, pos := "law.go:63", after := #[{ on := 7, ground := Ground.guard }], guard := some (7, false) }) (v := ?_) rfl (by kernel_rfl) (by kernel_rfl) (by kernel_rfl) (fun _ _ _ h => h) (Or.inl ⟨by rfl, ?_⟩) (by assumption) ?_
            rotate_left
            · intro w hSw
              go_simp
              try with_reducible rfl
            try simp only [Act.put, List.setIfInBounds_toArray, List.set_cons_zero, List.set_cons_succ]
            refine wpAnyH_take (i := 9) (oi := { dst := some 87, op := Op.move (Operand.tmp 4), type := 26, pos := "law.go:63", after := #[{ on := 7, ground := Ground.guard }], guard := some (7, false) }) (v := ?_) rfl (by kernel_rfl) (by kernel_rfl) (by kernel_rfl) (fun _ _ _ h => h) (Or.inl ⟨by rfl, ?_⟩) (by assumption) ?_
            rotate_left
            · intro w hSw
              go_simp
              try with_reducible rfl
            try simp only [Act.put, List.setIfInBounds_toArray, List.set_cons_zero, List.set_cons_succ]
            refine wpAnyH_ready (rs := [10]) (by kernel_rfl) (by simp) ?_
            refine AllReadyH.cons (o := { dst := some 88, op := Op.call { callee := Callee.value (Operand.func 22), args := #[Operand.tmp 87], argTypes := #[26] }, type := 23, pos := "law.go:63", after := #[{ on := 9, ground := Ground.data }, { on := 7, ground := Ground.chain }, { on := 7, ground := Ground.guard }], guard := some (7, false) }) rfl (fun K hK => ?_) AllReadyH.nil
            go_simp
            go_at_call 22
            refine (refBytes_st ((unhide HWP7).keeps (tl_k hHeld)).v (by omega)).mono ?_
            rintro e wn ⟨A8, c8, rfl, hc8, hf8⟩
            have hh8 := hf8.holds
            go_wp2_with fail
            refine hK.out _ _ ?_ (fun hHeld => ?_)
            · exact tl_step (by assumption) hf8.2
            clear hK K
            try simp only [Act.put, List.setIfInBounds_toArray, List.set_cons_zero, List.set_cons_succ]
            refine wpAnyH_ready (rs := [11]) (by kernel_rfl) (by simp) ?_
            refine AllReadyH.cons (o := { dst := some 89, op := Op.call { callee := Callee.value (Operand.func 21), args := #[Operand.tmp 86, Operand.tmp 88], argTypes := #[23, 23] }, type := 4, pos := "law.go:63", after := #[{ on := 8, ground := Ground.data }, { on := 10, ground := Ground.data }, { on := 10, ground := Ground.chain }, { on := 7, ground := Ground.guard }], guard := some (7, false) }) rfl (fun K hK => ?_) AllReadyH.nil
            go_simp
            go_at_call 21
            with_reducible refine (unhide HSM _ _ _ ((unhide HF7).holds.keeps (tl_k hHeld)) hh8).mono ?_
            rintro e wn ⟨rfl, rfl⟩
            go_wp2_with fail
            refine hK.out _ _ ?_ (fun hHeld => ?_)
            · assumption
            clear hK K
            try simp only [Act.put, List.setIfInBounds_toArray, List.set_cons_zero, List.set_cons_succ]
            refine wpAnyH_take (i := 12) (oi := { dst := some 90, op := Op.unOp UnOp.not 4 (Operand.tmp 89), type := 4, pos := "law.go:63", after := #[{ on := 11, ground := Ground.data }, { on := 7, ground := Ground.guard }], guard := some (7, false) }) (v := ?_) rfl (by kernel_rfl) (by kernel_rfl) (by kernel_rfl) (fun _ _ _ h => h) (Or.inl ⟨by rfl, ?_⟩) (by assumption) ?_
            rotate_left
            · intro w hSw
              go_simp
              try with_reducible rfl
            try simp only [Act.put, List.setIfInBounds_toArray, List.set_cons_zero, List.set_cons_succ]
            refine wpAnyH_take (i := 13) (oi := { dst := some 91, op := Op.pick (Operand.tmp 85) (Operand.const (Value.bool true)) (Operand.tmp 90), type := 4, pos := "law.go:63", after := #[{ on := 7, ground := Ground.data }, { on := 12, ground := Ground.data }], guard := none }) (v := ?_) rfl (by kernel_rfl) (by kernel_rfl) (by kernel_rfl) (fun _ _ _ h => h) (Or.inl ⟨by rfl, ?_⟩) (by assumption) ?_
            rotate_left
            · intro w hSw
              go_simp
              try with_reducible rfl
            try simp only [Act.put, List.setIfInBounds_toArray, List.set_cons_zero, List.set_cons_succ]
            refine wpAnyH_done (by kernel_rfl) ?_ _
            have hk9 := tl_k hHeld
            have HCS := hide (spoilFresh_any A7 (oct N2 n2) c7 (unhide HF7) hk9 (unhide HO8) (by have := unhide HOL; omega))
            have HK9 := hide hk9
            clear hk9
            go_wp2_with fail
            with_reducible refine (unhide HCS).mono ?_
            rintro e w10 ⟨rfl, hb10⟩
            have hkk := Below.trans ((unhide HF7).2.trans (unhide HK9)) hb10
            have HKK := hide hkk
            clear hkk hb10
            go_wp2
            exact ⟨⟨k + 1, by omega, by omega, by go_num, (unhide HK3).trans (unhide HKK), N2, n2, hnk, (unhide HWP).keeps (unhide HKK)⟩, by simp [intOf]; omega⟩
        · have e1 : (kind == 1) = false := beq_eq_false_iff_ne.2 h1
          have e2 : (kind == 2) = false := beq_eq_false_iff_ne.2 h2
          have HC1 := hide (bit_st x (St.start (unhide HW) hroom) (by have := (unhide HOP).size; omega) (by omega))
          clear h1 h2 hql
          generalize hbv : (if x = 0 then (0 : Int) else 1) = bv1 at *
          have HBV := hide hbv
          clear hbv
          go_wp2_with fail
          with_reducible refine (unhide HC1).mono ?_
          rintro e w2 ⟨rfl, hS2⟩
          have hr2 := ref_stays (unhide HW) (unhide HV) (unhide HDIS) (by omega) hS2
          have HC2 := hide (refBit_st x (RSt.start hr2) (by have := (unhide HOP).size; have := hS2.fr.2.2.2.1; omega) (by omega))
          rw [unhide HBV] at HC2
          have hob2 := fr_blk hS2.fr (unhide HOB) (by omega) (fun e => by have := unhide HRW _ e; omega)
          obtain ⟨hoc, hof, hol⟩ := hob2.facts
          have HF2 := hide hS2.fr
          have HS2 := hide hS2
          clear hS2 hr2 hob2
          go_wp2_with fail
          with_reducible refine (unhide HC2).mono ?_
          rintro e w3 ⟨rfl, hR3⟩
          have hwp := (both_step (unhide HW) (unhide HV) (unhide HDIS) (by omega) (unhide HS2) (Keeps.refl _) hR3).any
          have hk3 := fr_keeps (fr_keeps ((unhide HKP).trans (unhide HOP)) (unhide HF2) (Nat.le_refl _) (unhide HRWb)) hR3.fr (by omega) (unhide HRVb)
          have hnk : n + 1 ≤ 3300 * (k + 1) := by omega
          clear hR3 hoc hof hol
          generalize tot N bv1 1 = N2 at *
          generalize n + 1 = n2 at *
          have hn2 : n2 ≤ 70000000 := by omega
          have HWP := hide hwp
          have HK3 := hide hk3
          clear hwp hk3
          go_wp2_with fail
          refine (bytes_st (unhide HWP).w hn2).mono ?_
          rintro e w7 ⟨A7, c7, rfl, hc7, hf7⟩
          have hwp7 := (unhide HWP).keeps hf7.2
          have hgz7 : w.heap.size + 1 < w7.heap.size := by obtain ⟨A9, d9, h9⟩ := hwp7.v; exact h9.1.lt
          obtain ⟨A9, d9, h9⟩ := hwp7.v
          have hg9 : w7.cell? ⟨w.heap.size + 1, 0, none⟩ = some (.slice A9 n2 d9) := h9.1.cell 0
          have HOL := hide (oct_length N2 n2)
          have HWP7 := hide hwp7
          have HF7 := hide hf7
          have HO8 := hide (oct_bytes N2 n2)
          have HSM := hide (fun (B : Option Addr) (e : Nat) (w' : World) (h1 : Holds w' A7 (oct N2 n2)) (h2 : Holds w' B (oct N2 n2)) => (show Calls Try.prog 21 #[.slice A7 (oct N2 n2).length c7, .slice B (oct N2 n2).length e] w' (fun e w'' => e = .returned (.bool true) ∧ w' = w'') from by
            have := sameBytes_any A7 B (oct N2 n2) (oct N2 n2) c7 e w' h1 h2 (oct_bytes N2 n2) (oct_bytes N2 n2)
            rwa [decide_eq_true rfl] at this))
          clear hwp7 h9 hf7 hc7
          go_wp2
          refine wp_region_held_drew (S := fun w' => w'.cell? ⟨w.heap.size + 1, 0, none⟩ = some (.slice A9 n2 d9) ∧ TlS (w.heap.size + 1) w7 w') (by kernel_rfl) ?_ (fun hHeld => ?_)
          · exact ⟨hg9, hgz7, (Keeps.refl w7).drew⟩
          refine wpAnyH_take (i := 1) (oi := { dst := some 79, op := Op.move (Operand.tmp 4), type := 26, pos := "law.go:63", after := #[], guard := none }) (v := ?_) rfl (by kernel_rfl) (by kernel_rfl) (by kernel_rfl) (fun _ _ _ h => h) (Or.inl ⟨by rfl, ?_⟩) (by assumption) ?_
          rotate_left
          · intro w hSw
            go_simp
            try with_reducible rfl
          try simp only [Act.put, List.setIfInBounds_toArray, List.set_cons_zero, List.set_cons_succ]
          refine wpAnyH_take (i := 2) (oi := { dst := some 80, op := Op.nilCheck (Operand.tmp 79), type := 0, pos := "law.go:63", after := #[{ on := 1, ground := Ground.data }], guard := none }) (v := ?_) rfl (by kernel_rfl) (by kernel_rfl) (by kernel_rfl) (fun _ _ _ h => h) (Or.inl ⟨by rfl, ?_⟩) (by assumption) ?_
          rotate_left
          · intro w hSw
            go_simp
            try with_reducible rfl
          try simp only [Act.put, List.setIfInBounds_toArray, List.set_cons_zero, List.set_cons_succ]
          refine wpAnyH_take (i := 3) (oi := { dst := some 81, op := Op.fieldAddr 28 (Operand.tmp 80) 0, type := 0, pos := "law.go:63", after := #[{ on := 2, ground := Ground.data }], guard := none }) (v := ?_) rfl (by kernel_rfl) (by kernel_rfl) (by kernel_rfl) (fun _ _ _ h => h) (Or.inl ⟨by rfl, ?_⟩) (by assumption) ?_
          rotate_left
          · intro w hSw
            go_simp
            try with_reducible rfl
          try simp only [Act.put, List.setIfInBounds_toArray, List.set_cons_zero, List.set_cons_succ]
          refine wpAnyH_take (i := 4) (oi := { dst := some 82, op := Op.load 23 (Operand.tmp 81), type := 23, pos := "law.go:63", after := #[{ on := 3, ground := Ground.data }], guard := none }) (v := ?_) rfl (by kernel_rfl) (by kernel_rfl) (by kernel_rfl) (fun _ _ _ h => h) (Or.inl ⟨by rfl, ?_⟩) (by assumption) ?_
          rotate_left
          · intro w hSw
            go_simp
            try with_reducible rfl
          try simp only [Act.put, List.setIfInBounds_toArray, List.set_cons_zero, List.set_cons_succ]
          refine wpAnyH_take (i := 5) (oi := { dst := some 83, op := Op.call { callee := Callee.builtin Builtin.len, args := #[Operand.tmp 82], argTypes := #[23] }, type := 3, pos := "law.go:63", after := #[{ on := 4, ground := Ground.data }], guard := none }) (v := ?_) rfl (by kernel_rfl) (by kernel_rfl) (by kernel_rfl) (fun _ _ _ h => h) (Or.inl ⟨by rfl, ?_⟩) (by assumption) ?_
          rotate_left
          · intro w hSw
            go_simp
            try with_reducible rfl
          try simp only [Act.put, List.setIfInBounds_toArray, List.set_cons_zero, List.set_cons_succ]
          refine wpAnyH_ready (rs := [0]) (by kernel_rfl) (by simp) ?_
          refine AllReadyH.cons (o := { dst := some 78, op := Op.call { callee := Callee.value (Operand.func 20), args := #[Operand.tmp 3], argTypes := #[25] }, type := 3, pos := "law.go:63", after := #[], guard := none }) rfl (fun K hK => ?_) AllReadyH.nil
          go_simp
          go_at_call 20
          refine (len_st ((unhide HWP7).keeps (tl_k hHeld)).w).mono ?_
          rintro e wn ⟨rfl, rfl⟩
          go_wp2_with fail
          refine hK.out _ _ ?_ (fun hHeld => ?_)
          · assumption
          clear hK K
          try simp only [Act.put, List.setIfInBounds_toArray, List.set_cons_zero, List.set_cons_succ]
          refine wpAnyH_take (i := 6) (oi := { dst := some 84, op := Op.binOp BinOp.neq 3 (Operand.tmp 78) (Operand.tmp 83) 3, type := 4, pos := "law.go:63", after := #[{ on := 0, ground := Ground.data }, { on := 5, ground := Ground.data }], guard := none }) (v := ?_) rfl (by kernel_rfl) (by kernel_rfl) (by kernel_rfl) (fun _ _ _ h => h) (Or.inl ⟨by rfl, ?_⟩) (by assumption) ?_
          rotate_left
          · intro w hSw
            go_simp
            try with_reducible rfl
          try simp only [Act.put, List.setIfInBounds_toArray, List.set_cons_zero, List.set_cons_succ]
          refine wpAnyH_take (i := 7) (oi := { dst := some 85, op := Op.move (Operand.tmp 84), type := 4, pos := "law.go:63", after := #[{ on := 6, ground := Ground.data }, { on := 0, ground := Ground.chain }], guard := none }) (v := ?_) rfl (by kernel_rfl) (by kernel_rfl) (by kernel_rfl) (fun _ _ _ h => h) (Or.inl ⟨by rfl, ?_⟩) (by assumption) ?_
          rotate_left
          · intro w hSw
            go_simp
            try with_reducible rfl
          try simp only [Act.put, List.setIfInBounds_toArray, List.set_cons_zero, List.set_cons_succ]
          refine wpAnyH_take (i := 8) (oi := { dst := some 86, op := Op.move (Operand.tmp 8), type := 23, pos := "law.go:63", after := #[{ on := 7, ground := Ground.guard }], guard := some (7, false) }) (v := ?_) rfl (by kernel_rfl) (by kernel_rfl) (by kernel_rfl) (fun _ _ _ h => h) (Or.inl ⟨by rfl, ?_⟩) (by assumption) ?_
          rotate_left
          · intro w hSw
            go_simp
            try with_reducible rfl
          try simp only [Act.put, List.setIfInBounds_toArray, List.set_cons_zero, List.set_cons_succ]
          refine wpAnyH_take (i := 9) (oi := { dst := some 87, op := Op.move (Operand.tmp 4), type := 26, pos := "law.go:63", after := #[{ on := 7, ground := Ground.guard }], guard := some (7, false) }) (v := ?_) rfl (by kernel_rfl) (by kernel_rfl) (by kernel_rfl) (fun _ _ _ h => h) (Or.inl ⟨by rfl, ?_⟩) (by assumption) ?_
          rotate_left
          · intro w hSw
            go_simp
            try with_reducible rfl
          try simp only [Act.put, List.setIfInBounds_toArray, List.set_cons_zero, List.set_cons_succ]
          refine wpAnyH_ready (rs := [10]) (by kernel_rfl) (by simp) ?_
          refine AllReadyH.cons (o := { dst := some 88, op := Op.call { callee := Callee.value (Operand.func 22), args := #[Operand.tmp 87], argTypes := #[26] }, type := 23, pos := "law.go:63", after := #[{ on := 9, ground := Ground.data }, { on := 7, ground := Ground.chain }, { on := 7, ground := Ground.guard }], guard := some (7, false) }) rfl (fun K hK => ?_) AllReadyH.nil
          go_simp
          go_at_call 22
          refine (refBytes_st ((unhide HWP7).keeps (tl_k hHeld)).v (by omega)).mono ?_
          rintro e wn ⟨A8, c8, rfl, hc8, hf8⟩
          have hh8 := hf8.holds
          go_wp2_with fail
          refine hK.out _ _ ?_ (fun hHeld => ?_)
          · exact tl_step (by assumption) hf8.2
          clear hK K
          try simp only [Act.put, List.setIfInBounds_toArray, List.set_cons_zero, List.set_cons_succ]
          refine wpAnyH_ready (rs := [11]) (by kernel_rfl) (by simp) ?_
          refine AllReadyH.cons (o := { dst := some 89, op := Op.call { callee := Callee.value (Operand.func 21), args := #[Operand.tmp 86, Operand.tmp 88], argTypes := #[23, 23] }, type := 4, pos := "law.go:63", after := #[{ on := 8, ground := Ground.data }, { on := 10, ground := Ground.data }, { on := 10, ground := Ground.chain }, { on := 7, ground := Ground.guard }], guard := some (7, false) }) rfl (fun K hK => ?_) AllReadyH.nil
          go_simp
          go_at_call 21
          with_reducible refine (unhide HSM _ _ _ ((unhide HF7).holds.keeps (tl_k hHeld)) hh8).mono ?_
          rintro e wn ⟨rfl, rfl⟩
          go_wp2_with fail
          refine hK.out _ _ ?_ (fun hHeld => ?_)
          · assumption
          clear hK K
          try simp only [Act.put, List.setIfInBounds_toArray, List.set_cons_zero, List.set_cons_succ]
          refine wpAnyH_take (i := 12) (oi := { dst := some 90, op := Op.unOp UnOp.not 4 (Operand.tmp 89), type := 4, pos := "law.go:63", after := #[{ on := 11, ground := Ground.data }, { on := 7, ground := Ground.guard }], guard := some (7, false) }) (v := ?_) rfl (by kernel_rfl) (by kernel_rfl) (by kernel_rfl) (fun _ _ _ h => h) (Or.inl ⟨by rfl, ?_⟩) (by assumption) ?_
          rotate_left
          · intro w hSw
            go_simp
            try with_reducible rfl
          try simp only [Act.put, List.setIfInBounds_toArray, List.set_cons_zero, List.set_cons_succ]
          refine wpAnyH_take (i := 13) (oi := { dst := some 91, op := Op.pick (Operand.tmp 85) (Operand.const (Value.bool true)) (Operand.tmp 90), type := 4, pos := "law.go:63", after := #[{ on := 7, ground := Ground.data }, { on := 12, ground := Ground.data }], guard := none }) (v := ?_) rfl (by kernel_rfl) (by kernel_rfl) (by kernel_rfl) (fun _ _ _ h => h) (Or.inl ⟨by rfl, ?_⟩) (by assumption) ?_
          rotate_left
          · intro w hSw
            go_simp
            try with_reducible rfl
          try simp only [Act.put, List.setIfInBounds_toArray, List.set_cons_zero, List.set_cons_succ]
          refine wpAnyH_done (by kernel_rfl) ?_ _
          have hk9 := tl_k hHeld
          have HCS := hide (spoilFresh_any A7 (oct N2 n2) c7 (unhide HF7) hk9 (unhide HO8) (by have := unhide HOL; omega))
          have HK9 := hide hk9
          clear hk9
          go_wp2_with fail
          with_reducible refine (unhide HCS).mono ?_
          rintro e w10 ⟨rfl, hb10⟩
          have hkk := Below.trans ((unhide HF7).2.trans (unhide HK9)) hb10
          have HKK := hide hkk
          clear hkk hb10
          go_wp2
          exact ⟨⟨k + 1, by omega, by omega, by go_num, (unhide HK3).trans (unhide HKK), N2, n2, hnk, (unhide HWP).keeps (unhide HKK)⟩, by simp [intOf]; omega⟩
    · obtain ⟨hkp, N, n, hn, hwp⟩ := hI
      have HWP := hide hwp
      have HKP := hide hkp
      clear hwp hkp
      have hnb : n ≤ 70000000 := by omega
      rcases Nat.lt_or_ge k np with hA | hA
      · have hB : ¬ ((k : Int) < 100) := by omega
        go_wp2_with fail
        refine (bytes_st (unhide HWP).w hnb).mono ?_
        rintro e w7 ⟨A7, c7, rfl, hc7, hf7⟩
        have HF7 := hide hf7
        clear hf7 hc7
        go_wp2_with fail
        refine (refBytes_st ((unhide HWP).keeps (unhide HF7).2).v (by omega)).mono ?_
        rintro e w8 ⟨A8, c8, rfl, hc8, hf8⟩
        have HF8 := hide hf8
        clear hf8 hc8
        go_wp2_with fail
        refine (sameBytes_any A7 A8 _ _ c7 c8 _ ((unhide HF7).holds.keeps (unhide HF8).2) (unhide HF8).holds (oct_bytes N n) (oct_bytes N n)).mono ?_
        rintro e wn ⟨rfl, rfl⟩
        rw [decide_eq_true rfl]
        go_wp2
        go_ret
        exact ⟨rfl, ((unhide HKP).trans (unhide HF7).2).trans (unhide HF8).2⟩
      · have hB : ¬ ((k : Int) < (np : Int)) := by omega
        go_wp2_with fail
        refine (bytes_st (unhide HWP).w hnb).mono ?_
        rintro e w7 ⟨A7, c7, rfl, hc7, hf7⟩
        have HF7 := hide hf7
        clear hf7 hc7
        go_wp2_with fail
        refine (refBytes_st ((unhide HWP).keeps (unhide HF7).2).v (by omega)).mono ?_
        rintro e w8 ⟨A8, c8, rfl, hc8, hf8⟩
        have HF8 := hide hf8
        clear hf8 hc8
        go_wp2_with fail
        refine (sameBytes_any A7 A8 _ _ c7 c8 _ ((unhide HF7).holds.keeps (unhide HF8).2) (unhide HF8).holds (oct_bytes N n) (oct_bytes N n)).mono ?_
        rintro e wn ⟨rfl, rfl⟩
        rw [decide_eq_true rfl]
        go_wp2
        go_ret
        exact ⟨rfl, ((unhide HKP).trans (unhide HF7).2).trans (unhide HF8).2⟩
end Go.Proofs.Ytocnmnimlmehgaa
