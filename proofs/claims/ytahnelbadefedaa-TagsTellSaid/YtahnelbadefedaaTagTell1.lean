/- The walk of TagsTell. -/
import Derived.Test.YtahnelbadefedaaTagD3
import Derived.Deep.RegionHeld3
namespace Go.Proofs.Ytahnelbadefedaa
open Go.ChangeShapes Go.WideShapes Go.ChangeAt Go.RowKit Go.Maps

def univ (k : Int) : Int := if k = 1 then 1 else if k = 2 then 2 else if k = 5 then 4 else if k = 4 then 5 else if k = 3 then 10 else if k = 6 then 12 else if k = 7 then 16 else if k = 10 then 16 else if k = 8 then 17 else 0
set_option maxHeartbeats 4000000 in
theorem uniT_any (k : Int) (w : World) : Calls Try.prog 6 #[.int .i64 k] w fun e w' => e = .returned (.agg #[.int .i64 0, .int .i64 (univ k)]) ∧ Keeps w w' := by
  by_cases h1 : k = 1
  · subst h1
    rw [show univ 1 = 1 from by decide]
    go_enter Try.func6, Try.ntmps6
    go_wp2
    exact bodyPost_ret (v := .agg #[.int .i64 0, .int .i64 1]) (by simp [results, Try.results6, go_sem]) rfl ⟨rfl, ((Keeps.refl _).alloc _)⟩
  have e1 : (k == 1) = false := beq_eq_false_iff_ne.2 h1
  by_cases h2 : k = 2
  · subst h2
    rw [show univ 2 = 2 from by decide]
    clear e1
    go_enter Try.func6, Try.ntmps6
    go_wp2
    exact bodyPost_ret (v := .agg #[.int .i64 0, .int .i64 2]) (by simp [results, Try.results6, go_sem]) rfl ⟨rfl, ((Keeps.refl _).alloc _)⟩
  have e2 : (k == 2) = false := beq_eq_false_iff_ne.2 h2
  by_cases h5 : k = 5
  · subst h5
    rw [show univ 5 = 4 from by decide]
    clear e1
    clear e2
    go_enter Try.func6, Try.ntmps6
    go_wp2
    exact bodyPost_ret (v := .agg #[.int .i64 0, .int .i64 4]) (by simp [results, Try.results6, go_sem]) rfl ⟨rfl, ((Keeps.refl _).alloc _)⟩
  have e5 : (k == 5) = false := beq_eq_false_iff_ne.2 h5
  by_cases h4 : k = 4
  · subst h4
    rw [show univ 4 = 5 from by decide]
    clear e1
    clear e2
    clear e5
    go_enter Try.func6, Try.ntmps6
    go_wp2
    exact bodyPost_ret (v := .agg #[.int .i64 0, .int .i64 5]) (by simp [results, Try.results6, go_sem]) rfl ⟨rfl, ((Keeps.refl _).alloc _)⟩
  have e4 : (k == 4) = false := beq_eq_false_iff_ne.2 h4
  by_cases h3 : k = 3
  · subst h3
    rw [show univ 3 = 10 from by decide]
    clear e1
    clear e2
    clear e5
    clear e4
    go_enter Try.func6, Try.ntmps6
    go_wp2
    exact bodyPost_ret (v := .agg #[.int .i64 0, .int .i64 10]) (by simp [results, Try.results6, go_sem]) rfl ⟨rfl, ((Keeps.refl _).alloc _)⟩
  have e3 : (k == 3) = false := beq_eq_false_iff_ne.2 h3
  by_cases h6 : k = 6
  · subst h6
    rw [show univ 6 = 12 from by decide]
    clear e1
    clear e2
    clear e5
    clear e4
    clear e3
    go_enter Try.func6, Try.ntmps6
    go_wp2
    exact bodyPost_ret (v := .agg #[.int .i64 0, .int .i64 12]) (by simp [results, Try.results6, go_sem]) rfl ⟨rfl, ((Keeps.refl _).alloc _)⟩
  have e6 : (k == 6) = false := beq_eq_false_iff_ne.2 h6
  by_cases h7 : k = 7
  · subst h7
    rw [show univ 7 = 16 from by decide]
    clear e1
    clear e2
    clear e5
    clear e4
    clear e3
    clear e6
    go_enter Try.func6, Try.ntmps6
    go_wp2
    exact bodyPost_ret (v := .agg #[.int .i64 0, .int .i64 16]) (by simp [results, Try.results6, go_sem]) rfl ⟨rfl, ((Keeps.refl _).alloc _)⟩
  have e7 : (k == 7) = false := beq_eq_false_iff_ne.2 h7
  by_cases h10 : k = 10
  · subst h10
    rw [show univ 10 = 16 from by decide]
    clear e1
    clear e2
    clear e5
    clear e4
    clear e3
    clear e6
    clear e7
    go_enter Try.func6, Try.ntmps6
    go_wp2
    exact bodyPost_ret (v := .agg #[.int .i64 0, .int .i64 16]) (by simp [results, Try.results6, go_sem]) rfl ⟨rfl, ((Keeps.refl _).alloc _)⟩
  have e10 : (k == 10) = false := beq_eq_false_iff_ne.2 h10
  by_cases h8 : k = 8
  · subst h8
    rw [show univ 8 = 17 from by decide]
    clear e1
    clear e2
    clear e5
    clear e4
    clear e3
    clear e6
    clear e7
    clear e10
    go_enter Try.func6, Try.ntmps6
    go_wp2
    exact bodyPost_ret (v := .agg #[.int .i64 0, .int .i64 17]) (by simp [results, Try.results6, go_sem]) rfl ⟨rfl, ((Keeps.refl _).alloc _)⟩
  have e8 : (k == 8) = false := beq_eq_false_iff_ne.2 h8
  rw [show univ k = 0 from by unfold univ; simp [*]]
  clear h1 h2 h5 h4 h3 h6 h7 h10 h8
  go_enter Try.func6, Try.ntmps6
  go_wp2
  exact bodyPost_ret (v := .agg #[.int .i64 0, .int .i64 0]) (by simp [results, Try.results6, go_sem]) rfl ⟨rfl, ((Keeps.refl _).alloc _)⟩
set_option maxHeartbeats 4000000 in
theorem refUni_any (k : Int) (w : World) : Calls Try.prog 7 #[.int .i64 k] w fun e w' => e = .returned (.agg #[.int .i64 0, .int .i64 (univ k)]) ∧ Keeps w w' := by
  by_cases h1 : k = 1
  · subst h1
    rw [show univ 1 = 1 from by decide]
    go_enter Try.func7, Try.ntmps7
    go_wp2
    exact bodyPost_ret (v := .agg #[.int .i64 0, .int .i64 1]) (by simp [results, Try.results7, go_sem]) rfl ⟨rfl, ((Keeps.refl _).alloc _)⟩
  have e1 : (k == 1) = false := beq_eq_false_iff_ne.2 h1
  by_cases h2 : k = 2
  · subst h2
    rw [show univ 2 = 2 from by decide]
    clear e1
    go_enter Try.func7, Try.ntmps7
    go_wp2
    exact bodyPost_ret (v := .agg #[.int .i64 0, .int .i64 2]) (by simp [results, Try.results7, go_sem]) rfl ⟨rfl, ((Keeps.refl _).alloc _)⟩
  have e2 : (k == 2) = false := beq_eq_false_iff_ne.2 h2
  by_cases h5 : k = 5
  · subst h5
    rw [show univ 5 = 4 from by decide]
    clear e1
    clear e2
    go_enter Try.func7, Try.ntmps7
    go_wp2
    exact bodyPost_ret (v := .agg #[.int .i64 0, .int .i64 4]) (by simp [results, Try.results7, go_sem]) rfl ⟨rfl, ((Keeps.refl _).alloc _)⟩
  have e5 : (k == 5) = false := beq_eq_false_iff_ne.2 h5
  by_cases h4 : k = 4
  · subst h4
    rw [show univ 4 = 5 from by decide]
    clear e1
    clear e2
    clear e5
    go_enter Try.func7, Try.ntmps7
    go_wp2
    exact bodyPost_ret (v := .agg #[.int .i64 0, .int .i64 5]) (by simp [results, Try.results7, go_sem]) rfl ⟨rfl, ((Keeps.refl _).alloc _)⟩
  have e4 : (k == 4) = false := beq_eq_false_iff_ne.2 h4
  by_cases h3 : k = 3
  · subst h3
    rw [show univ 3 = 10 from by decide]
    clear e1
    clear e2
    clear e5
    clear e4
    go_enter Try.func7, Try.ntmps7
    go_wp2
    exact bodyPost_ret (v := .agg #[.int .i64 0, .int .i64 10]) (by simp [results, Try.results7, go_sem]) rfl ⟨rfl, ((Keeps.refl _).alloc _)⟩
  have e3 : (k == 3) = false := beq_eq_false_iff_ne.2 h3
  by_cases h6 : k = 6
  · subst h6
    rw [show univ 6 = 12 from by decide]
    clear e1
    clear e2
    clear e5
    clear e4
    clear e3
    go_enter Try.func7, Try.ntmps7
    go_wp2
    exact bodyPost_ret (v := .agg #[.int .i64 0, .int .i64 12]) (by simp [results, Try.results7, go_sem]) rfl ⟨rfl, ((Keeps.refl _).alloc _)⟩
  have e6 : (k == 6) = false := beq_eq_false_iff_ne.2 h6
  by_cases h7 : k = 7
  · subst h7
    rw [show univ 7 = 16 from by decide]
    clear e1
    clear e2
    clear e5
    clear e4
    clear e3
    clear e6
    go_enter Try.func7, Try.ntmps7
    go_wp2
    exact bodyPost_ret (v := .agg #[.int .i64 0, .int .i64 16]) (by simp [results, Try.results7, go_sem]) rfl ⟨rfl, ((Keeps.refl _).alloc _)⟩
  have e7 : (k == 7) = false := beq_eq_false_iff_ne.2 h7
  by_cases h10 : k = 10
  · subst h10
    rw [show univ 10 = 16 from by decide]
    clear e1
    clear e2
    clear e5
    clear e4
    clear e3
    clear e6
    clear e7
    go_enter Try.func7, Try.ntmps7
    go_wp2
    exact bodyPost_ret (v := .agg #[.int .i64 0, .int .i64 16]) (by simp [results, Try.results7, go_sem]) rfl ⟨rfl, ((Keeps.refl _).alloc _)⟩
  have e10 : (k == 10) = false := beq_eq_false_iff_ne.2 h10
  by_cases h8 : k = 8
  · subst h8
    rw [show univ 8 = 17 from by decide]
    clear e1
    clear e2
    clear e5
    clear e4
    clear e3
    clear e6
    clear e7
    clear e10
    go_enter Try.func7, Try.ntmps7
    go_wp2
    exact bodyPost_ret (v := .agg #[.int .i64 0, .int .i64 17]) (by simp [results, Try.results7, go_sem]) rfl ⟨rfl, ((Keeps.refl _).alloc _)⟩
  have e8 : (k == 8) = false := beq_eq_false_iff_ne.2 h8
  rw [show univ k = 0 from by unfold univ; simp [*]]
  clear h1 h2 h5 h4 h3 h6 h7 h10 h8
  go_enter Try.func7, Try.ntmps7
  go_wp2
  exact bodyPost_ret (v := .agg #[.int .i64 0, .int .i64 0]) (by simp [results, Try.results7, go_sem]) rfl ⟨rfl, ((Keeps.refl _).alloc _)⟩

def lessT (a b : Int × Int) : Bool := if a.1 = b.1 then decide (a.2 < b.2) else decide (a.1 < b.1)
set_option maxHeartbeats 1000000 in
theorem less_any (a1 a2 b1 b2 : Int) (w : World) :
    Calls Try.prog 8 #[.agg #[.int .i64 a1, .int .i64 a2], .agg #[.int .i64 b1, .int .i64 b2]] w fun e w' => e = .returned (.bool (lessT (a1, a2) (b1, b2))) ∧ Keeps w w' := by
  by_cases h : a1 = b1
  · subst h
    have HL : Hid (decide (a2 < b2) = lessT (a1, a2) (a1, b2)) := by simp [lessT, Hid]
    go_enter Try.func8, Try.ntmps8
    go_wp2
    go_ret
    exact ⟨ret_bool (unhide HL), ((Keeps.refl _).alloc _).alloc _⟩
  · have HL : Hid (decide (a1 < b1) = lessT (a1, a2) (b1, b2)) := by simp [lessT, Hid, h]
    have e1 : (a1 != b1) = true := by rw [bne_iff_ne]; exact h
    have e2 : (a1 == b1) = false := beq_eq_false_iff_ne.2 h
    clear h
    go_enter Try.func8, Try.ntmps8
    go_wp2
    go_ret
    exact ⟨ret_bool (unhide HL), ((Keeps.refl _).alloc _).alloc _⟩
set_option maxHeartbeats 1000000 in
theorem refLess_any (a1 a2 b1 b2 : Int) (w : World) :
    Calls Try.prog 9 #[.agg #[.int .i64 a1, .int .i64 a2], .agg #[.int .i64 b1, .int .i64 b2]] w fun e w' => e = .returned (.bool (lessT (a1, a2) (b1, b2))) ∧ Keeps w w' := by
  by_cases h : a1 = b1
  · subst h
    have HL : Hid (decide (a2 < b2) = lessT (a1, a2) (a1, b2)) := by simp [lessT, Hid]
    have e1 : ¬ a1 < a1 := by omega
    go_enter Try.func9, Try.ntmps9
    go_wp2
    all_goals
      go_ret
      exact ⟨ret_bool (unhide HL), ((Keeps.refl _).alloc _).alloc _⟩
  · have e2 : (a1 == b1) = false := beq_eq_false_iff_ne.2 h
    by_cases h2 : a1 < b1
    · have HL : Hid (true = lessT (a1, a2) (b1, b2)) := by simp [lessT, Hid, h, h2]
      clear h
      go_enter Try.func9, Try.ntmps9
      go_wp2
      all_goals
        go_ret
        exact ⟨ret_bool (unhide HL), ((Keeps.refl _).alloc _).alloc _⟩
    · have HL : Hid (false = lessT (a1, a2) (b1, b2)) := by simp [lessT, Hid, h, h2]
      clear h
      go_enter Try.func9, Try.ntmps9
      go_wp2
      all_goals
        go_ret
        exact ⟨ret_bool (unhide HL), ((Keeps.refl _).alloc _).alloc _⟩

/-- What the last region finds, in whatever order. -/
def TT (w w' : World) : Prop := w.heap.size + 1 < w'.heap.size ∧ Keeps w w'
theorem tt_step {w w1 w' : World} {cs ds : Array Value} (h : (∀ i, w1.cell? ⟨w.heap.size, i, none⟩ = cs[i]?) ∧ (∀ i, w1.cell? ⟨w.heap.size + 1, i, none⟩ = ds[i]?) ∧ TT w w1) (hk : Keeps w1 w') :
    (∀ i, w'.cell? ⟨w.heap.size, i, none⟩ = cs[i]?) ∧ (∀ i, w'.cell? ⟨w.heap.size + 1, i, none⟩ = ds[i]?) ∧ TT w w' := by
  obtain ⟨h1, h2, h3, h4⟩ := h
  exact ⟨fun i => (Below.cell (p := ⟨w.heap.size, i, none⟩) hk (by show w.heap.size < w1.heap.size; omega)).trans (h1 i), fun i => (Below.cell (p := ⟨w.heap.size + 1, i, none⟩) hk h3).trans (h2 i), Nat.lt_of_lt_of_le h3 hk.size, h4.trans hk⟩
theorem tt_k {w w1 : World} {cs ds : Array Value} (h : (∀ i, w1.cell? ⟨w.heap.size, i, none⟩ = cs[i]?) ∧ (∀ i, w1.cell? ⟨w.heap.size + 1, i, none⟩ = ds[i]?) ∧ TT w w1) : Keeps w w1 := h.2.2.2
theorem flatT_len (ps : List PartT) (k : Nat) (h : ∀ i q, i < k → ps[i]? = some q → q.2.2.length ≤ 20) : (flatT (ps.take k)).length ≤ 20 * k := by
  induction k with
  | zero => simp [flatT]
  | succ k ih =>
    have h1 := ih (fun i q hi hq => h i q (by omega) hq)
    cases hq : ps[k]? with
    | none =>
      rw [List.take_add_one, hq]
      simp only [Option.toList_none, List.append_nil]
      omega
    | some q =>
      rw [flatT_take ps k q hq, List.length_append]
      have := h k q (by omega) hq
      omega

set_option maxRecDepth 100000 in
set_option maxHeartbeats 4000000 in
theorem tell_any (kind a1 a2 b1 b2 : Int) (P : Option Addr) (ps : List PartT) (c : Nat) (w : World) (hp : PartsT w P ps) (hpl : ps.length ≤ maxLen) (hpq : ∀ q ∈ ps, q.2.2.length ≤ maxLen) :
    Calls Try.prog 3 #[.int .i64 kind, .agg #[.int .i64 a1, .int .i64 a2], .agg #[.int .i64 b1, .int .i64 b2], .slice P ps.length c] w fun e w' => e = .returned (.bool true) ∧ Keeps w w' := by
  have hm : ps.length ≤ 9223372036854775807 := by unfold maxLen at hpl; exact hpl
  have HPQ := hide hpq
  have HP := hide hp
  clear hpl hpq hp
  generalize hn : ps.length = np at *
  have HNP := hide hn
  clear hn
  have hka := ((Keeps.refl w).alloc (.cells #[.int .i64 a1, .int .i64 a2] 23)).alloc (.cells #[.int .i64 b1, .int .i64 b2] 23)
  have HKA := hide hka
  have hb0 := (Blk.new w 23 #[.int .i64 a1, .int .i64 a2]).alloc (.cells #[.int .i64 b1, .int .i64 b2] 23)
  have hb1 := Blk.new (w.alloc (.cells #[.int .i64 a1, .int .i64 a2] 23)) 23 #[.int .i64 b1, .int .i64 b2]
  rw [World.size_alloc] at hb1
  have HB0 := hide hb0
  have HB1 := hide hb1
  clear hka hb0 hb1
  rcases Nat.lt_or_ge 20 np with hbig | hsm
  · go_enter Try.func3, Try.ntmps3
    go_wp2_with (go_at_call 5; refine (awake09_any _).mono ?_; rintro e w1 ⟨rfl, hk⟩)
    go_ret
    exact ⟨rfl, (unhide HKA).trans hk⟩
  · clear hm
    go_enter Try.func3, Try.ntmps3
    go_wp2
    generalize hW : ((w.alloc (.cells #[.int .i64 a1, .int .i64 a2] 23)).alloc (.cells #[.int .i64 b1, .int .i64 b2] 23)) = W at *
    clear hW
    go_loopw [9] (fun i wr => ∃ k : Nat, k ≤ np ∧ i = .int .i64 k ∧ (∀ j q, j < k → ps[j]? = some q → q.2.2.length ≤ 20) ∧ wr = W) (fun i _ => np - (intOf i).toNat)
    case atStart => exact ⟨0, by omega, rfl, fun j q h => by omega, rfl⟩
    case round =>
      obtain ⟨k, hk, rfl, hle, rfl⟩ := hrel
      have HLE := hide hle
      by_cases hlt : k < np
      · clear hle
        obtain ⟨b, o, qa, qc, ts, rfl, hq, hc, hh, hr, hb⟩ := ((unhide HP).keeps (unhide HKA)).at_ (k := k) (by rw [unhide HNP]; exact hlt)
        have hlq : ts.length ≤ 9223372036854775807 := by
          have := unhide HPQ _ (List.mem_of_getElem? hq)
          unfold maxLen at this; exact this
        have HQ := hide hq
        clear hq hh hr
        rcases Nat.lt_or_ge 20 ts.length with hbig | hsmall
        · go_wp2_with (go_at_call 5; refine (awake09_any _).mono ?_; rintro e w3 ⟨rfl, hk3⟩)
          go_ret
          exact ⟨rfl, (unhide HKA).trans hk3⟩
        · clear hlq
          go_wp2
          refine ⟨⟨k + 1, by omega, by go_num, fun j q hj hjq => ?_, trivial⟩, by simp [intOf]; omega⟩
          rcases Nat.lt_or_ge j k with h | h
          · exact unhide HLE j q h hjq
          · obtain rfl : j = k := by omega
            rw [unhide HQ] at hjq
            injection hjq with hjq
            subst hjq
            exact hsmall
      · obtain rfl : k = np := by omega
        have hfl := flatT_len ps k hle
        rw [List.take_of_length_le (by rw [unhide HNP]; exact Nat.le_refl _)] at hfl
        have HST := hide (show (∀ i, wr.drew.cell? ⟨w.heap.size, i, none⟩ = (#[.int .i64 a1, .int .i64 a2] : Array Value)[i]?) ∧ (∀ i, wr.drew.cell? ⟨w.heap.size + 1, i, none⟩ = (#[.int .i64 b1, .int .i64 b2] : Array Value)[i]?) ∧ TT w wr.drew from
          ⟨(unhide HB0).drew.cell, (unhide HB1).drew.cell, (unhide HB1).lt, (unhide HKA).drew⟩)
        clear hle
        go_wp2
        refine wp_region_held_drew (S := (fun w' => (∀ i, w'.cell? ⟨w.heap.size, i, none⟩ = (#[.int .i64 a1, .int .i64 a2] : Array Value)[i]?) ∧ (∀ i, w'.cell? ⟨w.heap.size + 1, i, none⟩ = (#[.int .i64 b1, .int .i64 b2] : Array Value)[i]?) ∧ TT w w')) (by kernel_rfl) ?_ (fun hHeld => ?_)
        · exact unhide HST
        refine wpAnyH_ready (rs := [0]) (by kernel_rfl) (by simp) ?_
        refine AllReadyH.cons (o := { dst := some 27, op := Op.call { callee := Callee.value (Operand.func 5), args := #[], argTypes := #[] }, type := 4, pos := "law.go:27", after := #[], guard := none }) rfl (fun K hK => ?_) AllReadyH.nil
        go_simp
        go_at_call 5
        with_reducible refine (awake09_any _).mono ?_
        rintro e wn ⟨rfl, hkn⟩
        go_wp2_with fail
        refine hK.out _ _ ?_ (fun hHeld => ?_)
        · exact tt_step (by assumption) hkn
        clear hK K
        try simp only [Act.put, List.setIfInBounds_toArray, List.set_cons_zero, List.set_cons_succ]
        refine wpAnyH_take (i := 1) (oi := { dst := some 28, op := Op.move (Operand.tmp 27), type := 4, pos := "law.go:27", after := #[{ on := 0, ground := Ground.data }, { on := 0, ground := Ground.chain }], guard := none }) (v := ?_) rfl (by kernel_rfl) (by kernel_rfl) (by kernel_rfl) (fun _ _ _ h => h) (Or.inl ⟨by rfl, ?_⟩) (by assumption) ?_
        rotate_left
        · intro w hSw
          go_simp
          try with_reducible rfl
        try simp only [Act.put, List.setIfInBounds_toArray, List.set_cons_zero, List.set_cons_succ]
        refine wpAnyH_take (i := 2) (oi := { dst := some 29, op := Op.move (Operand.tmp 0), type := 3, pos := "law.go:27", after := #[{ on := 1, ground := Ground.guard }], guard := some (1, true) }) (v := ?_) rfl (by kernel_rfl) (by kernel_rfl) (by kernel_rfl) (fun _ _ _ h => h) (Or.inl ⟨by rfl, ?_⟩) (by assumption) ?_
        rotate_left
        · intro w hSw
          go_simp
          try with_reducible rfl
        try simp only [Act.put, List.setIfInBounds_toArray, List.set_cons_zero, List.set_cons_succ]
        refine wpAnyH_take (i := 4) (oi := { dst := some 31, op := Op.move (Operand.tmp 0), type := 3, pos := "law.go:27", after := #[{ on := 1, ground := Ground.guard }], guard := some (1, true) }) (v := ?_) rfl (by kernel_rfl) (by kernel_rfl) (by kernel_rfl) (fun _ _ _ h => h) (Or.inl ⟨by rfl, ?_⟩) (by assumption) ?_
        rotate_left
        · intro w hSw
          go_simp
          try with_reducible rfl
        try simp only [Act.put, List.setIfInBounds_toArray, List.set_cons_zero, List.set_cons_succ]
        refine wpAnyH_ready (rs := [3]) (by kernel_rfl) (by simp) ?_
        refine AllReadyH.cons (o := { dst := some 30, op := Op.call { callee := Callee.value (Operand.func 6), args := #[Operand.tmp 29], argTypes := #[3] }, type := 23, pos := "law.go:27", after := #[{ on := 2, ground := Ground.data }, { on := 1, ground := Ground.chain }, { on := 1, ground := Ground.guard }], guard := some (1, true) }) rfl (fun K hK => ?_) AllReadyH.nil
        go_simp
        go_at_call 6
        with_reducible refine (uniT_any kind _).mono ?_
        rintro e wn ⟨rfl, hkn⟩
        go_wp2_with fail
        refine hK.out _ _ ?_ (fun hHeld => ?_)
        · exact tt_step (by assumption) hkn
        clear hK K
        try simp only [Act.put, List.setIfInBounds_toArray, List.set_cons_zero, List.set_cons_succ]
        refine wpAnyH_ready (rs := [5]) (by kernel_rfl) (by simp) ?_
        refine AllReadyH.cons (o := { dst := some 32, op := Op.call { callee := Callee.value (Operand.func 7), args := #[Operand.tmp 31], argTypes := #[3] }, type := 23, pos := "law.go:27", after := #[{ on := 4, ground := Ground.data }, { on := 3, ground := Ground.chain }, { on := 1, ground := Ground.guard }], guard := some (1, true) }) rfl (fun K hK => ?_) AllReadyH.nil
        go_simp
        go_at_call 7
        with_reducible refine (refUni_any kind _).mono ?_
        rintro e wn ⟨rfl, hkn⟩
        go_wp2_with fail
        refine hK.out _ _ ?_ (fun hHeld => ?_)
        · exact tt_step (by assumption) hkn
        clear hK K
        try simp only [Act.put, List.setIfInBounds_toArray, List.set_cons_zero, List.set_cons_succ]
        refine wpAnyH_take (i := 6) (oi := { dst := some 33, op := Op.binOp BinOp.eql 23 (Operand.tmp 30) (Operand.tmp 32) 23, type := 4, pos := "law.go:27", after := #[{ on := 3, ground := Ground.data }, { on := 5, ground := Ground.data }, { on := 1, ground := Ground.guard }], guard := some (1, true) }) (v := ?_) rfl (by kernel_rfl) (by kernel_rfl) (by kernel_rfl) (fun _ _ _ h => h) (Or.inl ⟨by rfl, ?_⟩) (by assumption) ?_
        rotate_left
        · intro w hSw
          go_simp
          try with_reducible rfl
        try simp only [Act.put, List.setIfInBounds_toArray, List.set_cons_zero, List.set_cons_succ]
        refine wpAnyH_take (i := 7) (oi := { dst := some 34, op := Op.pick (Operand.tmp 28) (Operand.tmp 33) (Operand.const (Value.bool false)), type := 4, pos := "law.go:27", after := #[{ on := 1, ground := Ground.data }, { on := 6, ground := Ground.data }], guard := none }) (v := ?_) rfl (by kernel_rfl) (by kernel_rfl) (by kernel_rfl) (fun _ _ _ h => h) (Or.inl ⟨by rfl, ?_⟩) (by assumption) ?_
        rotate_left
        · intro w hSw
          go_simp
          try with_reducible rfl
        try simp only [Act.put, List.setIfInBounds_toArray, List.set_cons_zero, List.set_cons_succ]
        refine wpAnyH_take (i := 8) (oi := { dst := some 35, op := Op.move (Operand.tmp 34), type := 4, pos := "law.go:27", after := #[{ on := 7, ground := Ground.data }, { on := 5, ground := Ground.chain }], guard := none }) (v := ?_) rfl (by kernel_rfl) (by kernel_rfl) (by kernel_rfl) (fun _ _ _ h => h) (Or.inl ⟨by rfl, ?_⟩) (by assumption) ?_
        rotate_left
        · intro w hSw
          go_simp
          try with_reducible rfl
        try simp only [Act.put, List.setIfInBounds_toArray, List.set_cons_zero, List.set_cons_succ]
        refine wpAnyH_take (i := 9) (oi := { dst := some 36, op := Op.load 23 (Operand.tmp 5), type := 23, pos := "law.go:27", after := #[{ on := 8, ground := Ground.guard }], guard := some (8, true) }) (v := ?_) rfl (by kernel_rfl) (by kernel_rfl) (by kernel_rfl) (fun _ _ _ h => h) (Or.inl ⟨by rfl, ?_⟩) (by assumption) ?_
        rotate_left
        · intro w hSw
          go_simp
          try with_reducible rfl
        try simp only [Act.put, List.setIfInBounds_toArray, List.set_cons_zero, List.set_cons_succ]
        refine wpAnyH_take (i := 10) (oi := { dst := some 37, op := Op.load 23 (Operand.tmp 6), type := 23, pos := "law.go:27", after := #[{ on := 8, ground := Ground.guard }], guard := some (8, true) }) (v := ?_) rfl (by kernel_rfl) (by kernel_rfl) (by kernel_rfl) (fun _ _ _ h => h) (Or.inl ⟨by rfl, ?_⟩) (by assumption) ?_
        rotate_left
        · intro w hSw
          go_simp
          try with_reducible rfl
        try simp only [Act.put, List.setIfInBounds_toArray, List.set_cons_zero, List.set_cons_succ]
        refine wpAnyH_take (i := 12) (oi := { dst := some 39, op := Op.load 23 (Operand.tmp 5), type := 23, pos := "law.go:27", after := #[{ on := 8, ground := Ground.guard }], guard := some (8, true) }) (v := ?_) rfl (by kernel_rfl) (by kernel_rfl) (by kernel_rfl) (fun _ _ _ h => h) (Or.inl ⟨by rfl, ?_⟩) (by assumption) ?_
        rotate_left
        · intro w hSw
          go_simp
          try with_reducible rfl
        try simp only [Act.put, List.setIfInBounds_toArray, List.set_cons_zero, List.set_cons_succ]
        refine wpAnyH_take (i := 13) (oi := { dst := some 40, op := Op.load 23 (Operand.tmp 6), type := 23, pos := "law.go:27", after := #[{ on := 8, ground := Ground.guard }], guard := some (8, true) }) (v := ?_) rfl (by kernel_rfl) (by kernel_rfl) (by kernel_rfl) (fun _ _ _ h => h) (Or.inl ⟨by rfl, ?_⟩) (by assumption) ?_
        rotate_left
        · intro w hSw
          go_simp
          try with_reducible rfl
        try simp only [Act.put, List.setIfInBounds_toArray, List.set_cons_zero, List.set_cons_succ]
        refine wpAnyH_ready (rs := [11]) (by kernel_rfl) (by simp) ?_
        refine AllReadyH.cons (o := { dst := some 38, op := Op.call { callee := Callee.value (Operand.func 8), args := #[Operand.tmp 36, Operand.tmp 37], argTypes := #[23, 23] }, type := 4, pos := "law.go:27", after := #[{ on := 9, ground := Ground.data }, { on := 10, ground := Ground.data }, { on := 8, ground := Ground.chain }, { on := 8, ground := Ground.guard }], guard := some (8, true) }) rfl (fun K hK => ?_) AllReadyH.nil
        go_simp
        go_at_call 8
        with_reducible refine (less_any a1 a2 b1 b2 _).mono ?_
        rintro e wn ⟨rfl, hkn⟩
        go_wp2_with fail
        refine hK.out _ _ ?_ (fun hHeld => ?_)
        · exact tt_step (by assumption) hkn
        clear hK K
        try simp only [Act.put, List.setIfInBounds_toArray, List.set_cons_zero, List.set_cons_succ]
        refine wpAnyH_ready (rs := [14]) (by kernel_rfl) (by simp) ?_
        refine AllReadyH.cons (o := { dst := some 41, op := Op.call { callee := Callee.value (Operand.func 9), args := #[Operand.tmp 39, Operand.tmp 40], argTypes := #[23, 23] }, type := 4, pos := "law.go:27", after := #[{ on := 12, ground := Ground.data }, { on := 13, ground := Ground.data }, { on := 11, ground := Ground.chain }, { on := 8, ground := Ground.guard }], guard := some (8, true) }) rfl (fun K hK => ?_) AllReadyH.nil
        go_simp
        go_at_call 9
        with_reducible refine (refLess_any a1 a2 b1 b2 _).mono ?_
        rintro e wn ⟨rfl, hkn⟩
        go_wp2_with fail
        refine hK.out _ _ ?_ (fun hHeld => ?_)
        · exact tt_step (by assumption) hkn
        clear hK K
        try simp only [Act.put, List.setIfInBounds_toArray, List.set_cons_zero, List.set_cons_succ]
        refine wpAnyH_take (i := 15) (oi := { dst := some 42, op := Op.binOp BinOp.eql 4 (Operand.tmp 38) (Operand.tmp 41) 4, type := 4, pos := "law.go:27", after := #[{ on := 11, ground := Ground.data }, { on := 14, ground := Ground.data }, { on := 8, ground := Ground.guard }], guard := some (8, true) }) (v := ?_) rfl (by kernel_rfl) (by kernel_rfl) (by kernel_rfl) (fun _ _ _ h => h) (Or.inl ⟨by rfl, ?_⟩) (by assumption) ?_
        rotate_left
        · intro w hSw
          go_simp
          try with_reducible rfl
        try simp only [Act.put, List.setIfInBounds_toArray, List.set_cons_zero, List.set_cons_succ]
        refine wpAnyH_take (i := 16) (oi := { dst := some 43, op := Op.pick (Operand.tmp 35) (Operand.tmp 42) (Operand.const (Value.bool false)), type := 4, pos := "law.go:27", after := #[{ on := 8, ground := Ground.data }, { on := 15, ground := Ground.data }], guard := none }) (v := ?_) rfl (by kernel_rfl) (by kernel_rfl) (by kernel_rfl) (fun _ _ _ h => h) (Or.inl ⟨by rfl, ?_⟩) (by assumption) ?_
        rotate_left
        · intro w hSw
          go_simp
          try with_reducible rfl
        try simp only [Act.put, List.setIfInBounds_toArray, List.set_cons_zero, List.set_cons_succ]
        refine wpAnyH_take (i := 17) (oi := { dst := some 44, op := Op.move (Operand.tmp 43), type := 4, pos := "law.go:27", after := #[{ on := 16, ground := Ground.data }, { on := 14, ground := Ground.chain }], guard := none }) (v := ?_) rfl (by kernel_rfl) (by kernel_rfl) (by kernel_rfl) (fun _ _ _ h => h) (Or.inl ⟨by rfl, ?_⟩) (by assumption) ?_
        rotate_left
        · intro w hSw
          go_simp
          try with_reducible rfl
        try simp only [Act.put, List.setIfInBounds_toArray, List.set_cons_zero, List.set_cons_succ]
        refine wpAnyH_take (i := 18) (oi := { dst := some 45, op := Op.move (Operand.tmp 3), type := 24, pos := "law.go:27", after := #[{ on := 17, ground := Ground.guard }], guard := some (17, true) }) (v := ?_) rfl (by kernel_rfl) (by kernel_rfl) (by kernel_rfl) (fun _ _ _ h => h) (Or.inl ⟨by rfl, ?_⟩) (by assumption) ?_
        rotate_left
        · intro w hSw
          go_simp
          try with_reducible rfl
        try simp only [Act.put, List.setIfInBounds_toArray, List.set_cons_zero, List.set_cons_succ]
        refine wpAnyH_take (i := 20) (oi := { dst := some 47, op := Op.move (Operand.tmp 3), type := 24, pos := "law.go:27", after := #[{ on := 17, ground := Ground.guard }], guard := some (17, true) }) (v := ?_) rfl (by kernel_rfl) (by kernel_rfl) (by kernel_rfl) (fun _ _ _ h => h) (Or.inl ⟨by rfl, ?_⟩) (by assumption) ?_
        rotate_left
        · intro w hSw
          go_simp
          try with_reducible rfl
        try simp only [Act.put, List.setIfInBounds_toArray, List.set_cons_zero, List.set_cons_succ]
        refine wpAnyH_ready (rs := [19]) (by kernel_rfl) (by simp) ?_
        refine AllReadyH.cons (o := { dst := some 46, op := Op.call { callee := Callee.value (Operand.func 10), args := #[Operand.tmp 45], argTypes := #[24] }, type := 4, pos := "law.go:27", after := #[{ on := 18, ground := Ground.data }, { on := 17, ground := Ground.chain }, { on := 17, ground := Ground.guard }], guard := some (17, true) }) rfl (fun K hK => ?_) AllReadyH.nil
        go_simp
        go_at_call 10
        with_reducible refine (distinct_any P ps k c _ (unhide HNP) ((unhide HP).keeps (tt_k hHeld)) (by omega) (by omega)).mono ?_
        rintro e wn ⟨rfl, hkn⟩
        go_wp2_with fail
        refine hK.out _ _ ?_ (fun hHeld => ?_)
        · exact tt_step (by assumption) hkn
        clear hK K
        try simp only [Act.put, List.setIfInBounds_toArray, List.set_cons_zero, List.set_cons_succ]
        refine wpAnyH_ready (rs := [21]) (by kernel_rfl) (by simp) ?_
        refine AllReadyH.cons (o := { dst := some 48, op := Op.call { callee := Callee.value (Operand.func 11), args := #[Operand.tmp 47], argTypes := #[24] }, type := 4, pos := "law.go:27", after := #[{ on := 20, ground := Ground.data }, { on := 19, ground := Ground.chain }, { on := 17, ground := Ground.guard }], guard := some (17, true) }) rfl (fun K hK => ?_) AllReadyH.nil
        go_simp
        go_at_call 11
        with_reducible refine (refDistinct_any P ps k c _ (unhide HNP) ((unhide HP).keeps (tt_k hHeld)) (by omega) (by omega)).mono ?_
        rintro e wn ⟨rfl, hkn⟩
        go_wp2_with fail
        refine hK.out _ _ ?_ (fun hHeld => ?_)
        · exact tt_step (by assumption) hkn
        clear hK K
        try simp only [Act.put, List.setIfInBounds_toArray, List.set_cons_zero, List.set_cons_succ]
        refine wpAnyH_take (i := 22) (oi := { dst := some 49, op := Op.binOp BinOp.eql 4 (Operand.tmp 46) (Operand.tmp 48) 4, type := 4, pos := "law.go:27", after := #[{ on := 19, ground := Ground.data }, { on := 21, ground := Ground.data }, { on := 17, ground := Ground.guard }], guard := some (17, true) }) (v := ?_) rfl (by kernel_rfl) (by kernel_rfl) (by kernel_rfl) (fun _ _ _ h => h) (Or.inl ⟨by rfl, ?_⟩) (by assumption) ?_
        rotate_left
        · intro w hSw
          go_simp
          try with_reducible rfl
        try simp only [Act.put, List.setIfInBounds_toArray, List.set_cons_zero, List.set_cons_succ]
        refine wpAnyH_take (i := 23) (oi := { dst := some 50, op := Op.pick (Operand.tmp 44) (Operand.tmp 49) (Operand.const (Value.bool false)), type := 4, pos := "law.go:27", after := #[{ on := 17, ground := Ground.data }, { on := 22, ground := Ground.data }], guard := none }) (v := ?_) rfl (by kernel_rfl) (by kernel_rfl) (by kernel_rfl) (fun _ _ _ h => h) (Or.inl ⟨by rfl, ?_⟩) (by assumption) ?_
        rotate_left
        · intro w hSw
          go_simp
          try with_reducible rfl
        try simp only [Act.put, List.setIfInBounds_toArray, List.set_cons_zero, List.set_cons_succ]
        refine wpAnyH_take (i := 24) (oi := { dst := some 8, op := Op.assign (Operand.tmp 50), type := 4, pos := "law.go:27", after := #[{ on := 23, ground := Ground.data }, { on := 21, ground := Ground.chain }, { on := 0, ground := Ground.phase }, { on := 1, ground := Ground.phase }, { on := 2, ground := Ground.phase }, { on := 3, ground := Ground.phase }, { on := 4, ground := Ground.phase }, { on := 5, ground := Ground.phase }, { on := 6, ground := Ground.phase }, { on := 7, ground := Ground.phase }, { on := 8, ground := Ground.phase }, { on := 9, ground := Ground.phase }, { on := 10, ground := Ground.phase }, { on := 11, ground := Ground.phase }, { on := 12, ground := Ground.phase }, { on := 13, ground := Ground.phase }, { on := 14, ground := Ground.phase }, { on := 15, ground := Ground.phase }, { on := 16, ground := Ground.phase }, { on := 17, ground := Ground.phase }, { on := 18, ground := Ground.phase }, { on := 19, ground := Ground.phase }, { on := 20, ground := Ground.phase }, { on := 21, ground := Ground.phase }, { on := 22, ground := Ground.phase }, { on := 23, ground := Ground.phase }], guard := none }) (v := ?_) rfl (by kernel_rfl) (by kernel_rfl) (by kernel_rfl) (fun _ _ _ h => h) (Or.inl ⟨by rfl, ?_⟩) (by assumption) ?_
        rotate_left
        · intro w hSw
          go_simp
          try with_reducible rfl
        try simp only [Act.put, List.setIfInBounds_toArray, List.set_cons_zero, List.set_cons_succ]
        refine wpAnyH_done (by kernel_rfl) ?_ _
        have HKF := hide (tt_k hHeld)
        clear hHeld
        go_wp2
        go_ret
        exact ⟨rfl, unhide HKF⟩
end Go.Proofs.Ytahnelbadefedaa
