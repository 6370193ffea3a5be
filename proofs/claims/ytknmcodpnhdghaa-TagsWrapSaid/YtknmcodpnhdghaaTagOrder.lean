/- The walk of TagsOrder. -/
import Derived.Test.YtknmcodpnhdghaaTagOrd
namespace Go.Proofs.Ytknmcodpnhdghaa
open Go.ChangeShapes Go.WideShapes Go.ChangeAt Go.RowKit

def TO (w0 : World) (a1 a2 b1 b2 c1 c2 : Int) (w : World) : Prop :=
  Blk w w0.heap.size 71 #[.int .i64 a1, .int .i64 a2] ∧ Blk w (w0.heap.size + 1) 71 #[.int .i64 b1, .int .i64 b2] ∧ Blk w (w0.heap.size + 1 + 1) 71 #[.int .i64 c1, .int .i64 c2] ∧ Keeps w0 w
theorem TO.keeps {w0 w w' : World} {a1 a2 b1 b2 c1 c2 : Int} (h : TO w0 a1 a2 b1 b2 c1 c2 w) (hk : Keeps w w') : TO w0 a1 a2 b1 b2 c1 c2 w' :=
  ⟨h.1.keeps hk, h.2.1.keeps hk, h.2.2.1.keeps hk, h.2.2.2.trans hk⟩
theorem TO.facts {w0 w : World} {a1 a2 b1 b2 c1 c2 : Int} (h : TO w0 a1 a2 b1 b2 c1 c2 w) :
    (∀ i, w.cell? ⟨w0.heap.size, i, none⟩ = (#[.int .i64 a1, .int .i64 a2] : Array Value)[i]?) ∧ (∀ i, w.cell? ⟨w0.heap.size + 1, i, none⟩ = (#[.int .i64 b1, .int .i64 b2] : Array Value)[i]?) ∧
      (∀ i, w.cell? ⟨w0.heap.size + 1 + 1, i, none⟩ = (#[.int .i64 c1, .int .i64 c2] : Array Value)[i]?) ∧ TO w0 a1 a2 b1 b2 c1 c2 w := ⟨h.1.cell, h.2.1.cell, h.2.2.1.cell, h⟩
theorem to_start (w : World) (a1 a2 b1 b2 c1 c2 : Int) :
    TO w a1 a2 b1 b2 c1 c2 (((w.alloc (.cells #[.int .i64 a1, .int .i64 a2] 71)).alloc (.cells #[.int .i64 b1, .int .i64 b2] 71)).alloc (.cells #[.int .i64 c1, .int .i64 c2] 71)) := by
  refine ⟨((Blk.new w _ _).alloc _).alloc _, ?_, ?_, (((Keeps.refl _).alloc _).alloc _).alloc _⟩
  · simpa using (Blk.new (w.alloc (.cells #[.int .i64 a1, .int .i64 a2] 71)) 71 #[.int .i64 b1, .int .i64 b2]).alloc (.cells #[.int .i64 c1, .int .i64 c2] 71)
  · simpa using Blk.new ((w.alloc (.cells #[.int .i64 a1, .int .i64 a2] 71)).alloc (.cells #[.int .i64 b1, .int .i64 b2] 71)) 71 #[.int .i64 c1, .int .i64 c2]
theorem to_drew {w0 w : World} {a1 a2 b1 b2 c1 c2 : Int} (h : TO w0 a1 a2 b1 b2 c1 c2 w) : TO w0 a1 a2 b1 b2 c1 c2 w.drew := h.keeps ((Keeps.refl _).drew)
theorem to_step {w0 w w' : World} {a1 a2 b1 b2 c1 c2 : Int}
    (h : (∀ i, w.cell? ⟨w0.heap.size, i, none⟩ = (#[.int .i64 a1, .int .i64 a2] : Array Value)[i]?) ∧ (∀ i, w.cell? ⟨w0.heap.size + 1, i, none⟩ = (#[.int .i64 b1, .int .i64 b2] : Array Value)[i]?) ∧ TO w0 a1 a2 b1 b2 c1 c2 w) (hk : Keeps w w') :
    (∀ i, w'.cell? ⟨w0.heap.size, i, none⟩ = (#[.int .i64 a1, .int .i64 a2] : Array Value)[i]?) ∧ (∀ i, w'.cell? ⟨w0.heap.size + 1, i, none⟩ = (#[.int .i64 b1, .int .i64 b2] : Array Value)[i]?) ∧ TO w0 a1 a2 b1 b2 c1 c2 w' :=
  have h' := h.2.2.keeps hk
  ⟨h'.1.cell, h'.2.1.cell, h'⟩
theorem to_alloc {w0 w : World} {a1 a2 b1 b2 c1 c2 : Int} {o : Obj}
    (h : (∀ i, w.cell? ⟨w0.heap.size, i, none⟩ = (#[.int .i64 a1, .int .i64 a2] : Array Value)[i]?) ∧ (∀ i, w.cell? ⟨w0.heap.size + 1, i, none⟩ = (#[.int .i64 b1, .int .i64 b2] : Array Value)[i]?) ∧ TO w0 a1 a2 b1 b2 c1 c2 w) :
    (∀ i, (w.alloc o).cell? ⟨w0.heap.size, i, none⟩ = (#[.int .i64 a1, .int .i64 a2] : Array Value)[i]?) ∧ (∀ i, (w.alloc o).cell? ⟨w0.heap.size + 1, i, none⟩ = (#[.int .i64 b1, .int .i64 b2] : Array Value)[i]?) ∧ TO w0 a1 a2 b1 b2 c1 c2 (w.alloc o) :=
  to_step h ((Keeps.refl _).alloc o)

theorem less_trans {a b c : Int × Int} (h1 : lessT a b = true) (h2 : lessT b c = true) : lessT a c = true := by
  obtain ⟨a1, a2⟩ := a
  obtain ⟨b1, b2⟩ := b
  obtain ⟨c1, c2⟩ := c
  unfold lessT at *
  simp only at *
  by_cases e1 : a1 = b1
  · rw [if_pos e1] at h1
    by_cases e2 : b1 = c1
    · rw [if_pos e2] at h2
      rw [if_pos (by omega)]
      simp at *; omega
    · rw [if_neg e2] at h2
      rw [if_neg (by omega)]
      simp at *; omega
  · rw [if_neg e1] at h1
    by_cases e2 : b1 = c1
    · rw [if_pos e2] at h2
      rw [if_neg (by omega)]
      simp at *; omega
    · rw [if_neg e2] at h2
      simp at h1 h2
      rw [if_neg (by omega)]
      simp; omega


set_option maxRecDepth 100000 in
set_option maxHeartbeats 8000000 in
theorem order_any (a1 a2 b1 b2 c1 c2 : Int) (w : World) :
    Calls Try.prog 14 #[.agg #[.int .i64 a1, .int .i64 a2], .agg #[.int .i64 b1, .int .i64 b2], .agg #[.int .i64 c1, .int .i64 c2]] w fun e w' => e = .returned (.bool true) ∧ Keeps w w' := by
  have H0 := hide (to_start w a1 a2 b1 b2 c1 c2)
  have hT : Hid (lessT (a1, a2) (b1, b2) = true → lessT (b1, b2) (c1, c2) = true → lessT (a1, a2) (c1, c2) = true) := fun h1 h2 => less_trans h1 h2
  by_cases g1 : a1 = b1
  · subst g1
    by_cases g2 : a2 = b2
    · subst g2
      have L1 : Hid (lessT (a1, a2) (a1, a2) = false) := by simp [lessT, Hid]
      have L2 := L1
      go_enter Try.func14, Try.ntmps14
      go_wp2
      generalize hW : (((w.alloc (.cells #[.int .i64 a1, .int .i64 a2] 71)).alloc (.cells #[.int .i64 a1, .int .i64 a2] 71)).alloc (.cells #[.int .i64 c1, .int .i64 c2] 71)) = W at *
      clear hW
      go_region_held3 (fun w' => (∀ i, w'.cell? ⟨w.heap.size, i, none⟩ = (#[.int .i64 a1, .int .i64 a2] : Array Value)[i]?) ∧ (∀ i, w'.cell? ⟨w.heap.size + 1, i, none⟩ = (#[.int .i64 a1, .int .i64 a2] : Array Value)[i]?) ∧ TO w a1 a2 a1 a2 c1 c2 w')
        (first | exact to_step (by assumption) hb | exact to_alloc (by assumption) | exact ⟨(to_drew (unhide H0)).1.cell, (to_drew (unhide H0)).2.1.cell, to_drew (unhide H0)⟩)
        (first | (go_at_call 53; refine (less_any _ _ _ _ _).mono ?_; rintro e wn ⟨rfl, hb⟩; (first | rw [unhide L1] | rw [unhide L2])))
      have hto := (by assumption : (∀ i, _) ∧ (∀ i, _) ∧ TO w a1 a2 a1 a2 c1 c2 _).2.2
      go_wp2
      go_loop [7, 21] (fun z i => (i = .int .i64 0 ∧ z = .int .i64 0) ∨ (i = .int .i64 1 ∧ z = .int .i64 0) ∨ (i = .int .i64 2 ∧ z = .int .i64 0) ∨ (i = .int .i64 3 ∧ z = .int .i64 1)) (fun _ i => 3 - (intOf i).toNat)
      case atStart => exact .inl ⟨rfl, rfl⟩
      case round =>
        rcases hrel with ⟨rfl, rfl⟩ | ⟨rfl, rfl⟩ | ⟨rfl, rfl⟩ | ⟨rfl, rfl⟩
        · go_wp2
          exact ⟨.inr (.inl ⟨rfl, rfl⟩), by simp [intOf]⟩
        · go_wp2
          exact ⟨.inr (.inr (.inl ⟨rfl, rfl⟩)), by simp [intOf]⟩
        · go_wp2
          exact ⟨.inr (.inr (.inr ⟨rfl, rfl⟩)), by simp [intOf]⟩
        · obtain ⟨q0, q1, q2, hto⟩ := hto.facts
          go_wp2_with (first
            | (go_at_call 50; refine (awake09_any _).mono ?_; rintro e wn ⟨rfl, hk⟩; replace hto := hto.keeps hk; clear q0 q1 q2 hk; obtain ⟨q0, q1, q2, hto⟩ := hto.facts)
            | (go_at_call 53; refine (less_any _ _ _ _ _).mono ?_; rintro e wn ⟨rfl, hk⟩; (first | rw [unhide L1] | skip); replace hto := hto.keeps hk; clear q0 q1 q2 hk; obtain ⟨q0, q1, q2, hto⟩ := hto.facts))
          all_goals
            go_ret
            first
              | exact ⟨rfl, hto.2.2.2⟩
              | exact ⟨ret_bool (unhide hT (unhide L1) (by assumption)), hto.2.2.2⟩
    · have e2 : (a2 == b2) = false := beq_eq_false_iff_ne.2 g2
      by_cases g3 : a2 < b2
      · have L1 : Hid (lessT (a1, a2) (a1, b2) = true) := by simp [lessT, Hid, g3]
        have L2 : Hid (lessT (a1, b2) (a1, a2) = false) := by simp [lessT, Hid]; omega
        clear g2 g3
        go_enter Try.func14, Try.ntmps14
        go_wp2
        generalize hW : (((w.alloc (.cells #[.int .i64 a1, .int .i64 a2] 71)).alloc (.cells #[.int .i64 a1, .int .i64 b2] 71)).alloc (.cells #[.int .i64 c1, .int .i64 c2] 71)) = W at *
        clear hW
        go_region_held3 (fun w' => (∀ i, w'.cell? ⟨w.heap.size, i, none⟩ = (#[.int .i64 a1, .int .i64 a2] : Array Value)[i]?) ∧ (∀ i, w'.cell? ⟨w.heap.size + 1, i, none⟩ = (#[.int .i64 a1, .int .i64 b2] : Array Value)[i]?) ∧ TO w a1 a2 a1 b2 c1 c2 w')
          (first | exact to_step (by assumption) hb | exact to_alloc (by assumption) | exact ⟨(to_drew (unhide H0)).1.cell, (to_drew (unhide H0)).2.1.cell, to_drew (unhide H0)⟩)
          (first | (go_at_call 53; refine (less_any _ _ _ _ _).mono ?_; rintro e wn ⟨rfl, hb⟩; (first | rw [unhide L1] | rw [unhide L2])))
        have hto := (by assumption : (∀ i, _) ∧ (∀ i, _) ∧ TO w a1 a2 a1 b2 c1 c2 _).2.2
        go_wp2
        go_loop [7, 21] (fun z i => (i = .int .i64 0 ∧ z = .int .i64 0) ∨ (i = .int .i64 1 ∧ z = .int .i64 1) ∨ (i = .int .i64 2 ∧ z = .int .i64 1) ∨ (i = .int .i64 3 ∧ z = .int .i64 1)) (fun _ i => 3 - (intOf i).toNat)
        case atStart => exact .inl ⟨rfl, rfl⟩
        case round =>
          rcases hrel with ⟨rfl, rfl⟩ | ⟨rfl, rfl⟩ | ⟨rfl, rfl⟩ | ⟨rfl, rfl⟩
          · go_wp2
            exact ⟨.inr (.inl ⟨rfl, rfl⟩), by simp [intOf]⟩
          · go_wp2
            exact ⟨.inr (.inr (.inl ⟨rfl, rfl⟩)), by simp [intOf]⟩
          · go_wp2
            exact ⟨.inr (.inr (.inr ⟨rfl, rfl⟩)), by simp [intOf]⟩
          · obtain ⟨q0, q1, q2, hto⟩ := hto.facts
            go_wp2_with (first
              | (go_at_call 50; refine (awake09_any _).mono ?_; rintro e wn ⟨rfl, hk⟩; replace hto := hto.keeps hk; clear q0 q1 q2 hk; obtain ⟨q0, q1, q2, hto⟩ := hto.facts)
              | (go_at_call 53; refine (less_any _ _ _ _ _).mono ?_; rintro e wn ⟨rfl, hk⟩; (first | rw [unhide L1] | skip); replace hto := hto.keeps hk; clear q0 q1 q2 hk; obtain ⟨q0, q1, q2, hto⟩ := hto.facts))
            all_goals
              go_ret
              first
                | exact ⟨rfl, hto.2.2.2⟩
                | exact ⟨ret_bool (unhide hT (unhide L1) (by assumption)), hto.2.2.2⟩
      · have L1 : Hid (lessT (a1, a2) (a1, b2) = false) := by simp [lessT, Hid]; omega
        have L2 : Hid (lessT (a1, b2) (a1, a2) = true) := by simp [lessT, Hid]; omega
        clear g2 g3
        go_enter Try.func14, Try.ntmps14
        go_wp2
        generalize hW : (((w.alloc (.cells #[.int .i64 a1, .int .i64 a2] 71)).alloc (.cells #[.int .i64 a1, .int .i64 b2] 71)).alloc (.cells #[.int .i64 c1, .int .i64 c2] 71)) = W at *
        clear hW
        go_region_held3 (fun w' => (∀ i, w'.cell? ⟨w.heap.size, i, none⟩ = (#[.int .i64 a1, .int .i64 a2] : Array Value)[i]?) ∧ (∀ i, w'.cell? ⟨w.heap.size + 1, i, none⟩ = (#[.int .i64 a1, .int .i64 b2] : Array Value)[i]?) ∧ TO w a1 a2 a1 b2 c1 c2 w')
          (first | exact to_step (by assumption) hb | exact to_alloc (by assumption) | exact ⟨(to_drew (unhide H0)).1.cell, (to_drew (unhide H0)).2.1.cell, to_drew (unhide H0)⟩)
          (first | (go_at_call 53; refine (less_any _ _ _ _ _).mono ?_; rintro e wn ⟨rfl, hb⟩; (first | rw [unhide L1] | rw [unhide L2])))
        have hto := (by assumption : (∀ i, _) ∧ (∀ i, _) ∧ TO w a1 a2 a1 b2 c1 c2 _).2.2
        go_wp2
        go_loop [7, 21] (fun z i => (i = .int .i64 0 ∧ z = .int .i64 0) ∨ (i = .int .i64 1 ∧ z = .int .i64 0) ∨ (i = .int .i64 2 ∧ z = .int .i64 1) ∨ (i = .int .i64 3 ∧ z = .int .i64 1)) (fun _ i => 3 - (intOf i).toNat)
        case atStart => exact .inl ⟨rfl, rfl⟩
        case round =>
          rcases hrel with ⟨rfl, rfl⟩ | ⟨rfl, rfl⟩ | ⟨rfl, rfl⟩ | ⟨rfl, rfl⟩
          · go_wp2
            exact ⟨.inr (.inl ⟨rfl, rfl⟩), by simp [intOf]⟩
          · go_wp2
            exact ⟨.inr (.inr (.inl ⟨rfl, rfl⟩)), by simp [intOf]⟩
          · go_wp2
            exact ⟨.inr (.inr (.inr ⟨rfl, rfl⟩)), by simp [intOf]⟩
          · obtain ⟨q0, q1, q2, hto⟩ := hto.facts
            go_wp2_with (first
              | (go_at_call 50; refine (awake09_any _).mono ?_; rintro e wn ⟨rfl, hk⟩; replace hto := hto.keeps hk; clear q0 q1 q2 hk; obtain ⟨q0, q1, q2, hto⟩ := hto.facts)
              | (go_at_call 53; refine (less_any _ _ _ _ _).mono ?_; rintro e wn ⟨rfl, hk⟩; (first | rw [unhide L1] | skip); replace hto := hto.keeps hk; clear q0 q1 q2 hk; obtain ⟨q0, q1, q2, hto⟩ := hto.facts))
            all_goals
              go_ret
              first
                | exact ⟨rfl, hto.2.2.2⟩
                | exact ⟨ret_bool (unhide hT (unhide L1) (by assumption)), hto.2.2.2⟩
  · have e1 : (a1 == b1) = false := beq_eq_false_iff_ne.2 g1
    by_cases g3 : a1 < b1
    · have L1 : Hid (lessT (a1, a2) (b1, b2) = true) := by simp [lessT, Hid, g1, g3]
      have L2 : Hid (lessT (b1, b2) (a1, a2) = false) := by show lessT (b1, b2) (a1, a2) = false; unfold lessT; rw [if_neg (fun h => g1 h.symm)]; simp; omega
      clear g1 g3
      go_enter Try.func14, Try.ntmps14
      go_wp2
      generalize hW : (((w.alloc (.cells #[.int .i64 a1, .int .i64 a2] 71)).alloc (.cells #[.int .i64 b1, .int .i64 b2] 71)).alloc (.cells #[.int .i64 c1, .int .i64 c2] 71)) = W at *
      clear hW
      go_region_held3 (fun w' => (∀ i, w'.cell? ⟨w.heap.size, i, none⟩ = (#[.int .i64 a1, .int .i64 a2] : Array Value)[i]?) ∧ (∀ i, w'.cell? ⟨w.heap.size + 1, i, none⟩ = (#[.int .i64 b1, .int .i64 b2] : Array Value)[i]?) ∧ TO w a1 a2 b1 b2 c1 c2 w')
        (first | exact to_step (by assumption) hb | exact to_alloc (by assumption) | exact ⟨(to_drew (unhide H0)).1.cell, (to_drew (unhide H0)).2.1.cell, to_drew (unhide H0)⟩)
        (first | (go_at_call 53; refine (less_any _ _ _ _ _).mono ?_; rintro e wn ⟨rfl, hb⟩; (first | rw [unhide L1] | rw [unhide L2])))
      have hto := (by assumption : (∀ i, _) ∧ (∀ i, _) ∧ TO w a1 a2 b1 b2 c1 c2 _).2.2
      go_wp2
      go_loop [7, 21] (fun z i => (i = .int .i64 0 ∧ z = .int .i64 0) ∨ (i = .int .i64 1 ∧ z = .int .i64 1) ∨ (i = .int .i64 2 ∧ z = .int .i64 1) ∨ (i = .int .i64 3 ∧ z = .int .i64 1)) (fun _ i => 3 - (intOf i).toNat)
      case atStart => exact .inl ⟨rfl, rfl⟩
      case round =>
        rcases hrel with ⟨rfl, rfl⟩ | ⟨rfl, rfl⟩ | ⟨rfl, rfl⟩ | ⟨rfl, rfl⟩
        · go_wp2
          exact ⟨.inr (.inl ⟨rfl, rfl⟩), by simp [intOf]⟩
        · go_wp2
          exact ⟨.inr (.inr (.inl ⟨rfl, rfl⟩)), by simp [intOf]⟩
        · go_wp2
          exact ⟨.inr (.inr (.inr ⟨rfl, rfl⟩)), by simp [intOf]⟩
        · obtain ⟨q0, q1, q2, hto⟩ := hto.facts
          go_wp2_with (first
            | (go_at_call 50; refine (awake09_any _).mono ?_; rintro e wn ⟨rfl, hk⟩; replace hto := hto.keeps hk; clear q0 q1 q2 hk; obtain ⟨q0, q1, q2, hto⟩ := hto.facts)
            | (go_at_call 53; refine (less_any _ _ _ _ _).mono ?_; rintro e wn ⟨rfl, hk⟩; (first | rw [unhide L1] | skip); replace hto := hto.keeps hk; clear q0 q1 q2 hk; obtain ⟨q0, q1, q2, hto⟩ := hto.facts))
          all_goals
            go_ret
            first
              | exact ⟨rfl, hto.2.2.2⟩
              | exact ⟨ret_bool (unhide hT (unhide L1) (by assumption)), hto.2.2.2⟩
    · have L1 : Hid (lessT (a1, a2) (b1, b2) = false) := by simp [lessT, Hid, g1]; omega
      have L2 : Hid (lessT (b1, b2) (a1, a2) = true) := by show lessT (b1, b2) (a1, a2) = true; unfold lessT; rw [if_neg (fun h => g1 h.symm)]; simp; omega
      clear g1 g3
      go_enter Try.func14, Try.ntmps14
      go_wp2
      generalize hW : (((w.alloc (.cells #[.int .i64 a1, .int .i64 a2] 71)).alloc (.cells #[.int .i64 b1, .int .i64 b2] 71)).alloc (.cells #[.int .i64 c1, .int .i64 c2] 71)) = W at *
      clear hW
      go_region_held3 (fun w' => (∀ i, w'.cell? ⟨w.heap.size, i, none⟩ = (#[.int .i64 a1, .int .i64 a2] : Array Value)[i]?) ∧ (∀ i, w'.cell? ⟨w.heap.size + 1, i, none⟩ = (#[.int .i64 b1, .int .i64 b2] : Array Value)[i]?) ∧ TO w a1 a2 b1 b2 c1 c2 w')
        (first | exact to_step (by assumption) hb | exact to_alloc (by assumption) | exact ⟨(to_drew (unhide H0)).1.cell, (to_drew (unhide H0)).2.1.cell, to_drew (unhide H0)⟩)
        (first | (go_at_call 53; refine (less_any _ _ _ _ _).mono ?_; rintro e wn ⟨rfl, hb⟩; (first | rw [unhide L1] | rw [unhide L2])))
      have hto := (by assumption : (∀ i, _) ∧ (∀ i, _) ∧ TO w a1 a2 b1 b2 c1 c2 _).2.2
      go_wp2
      go_loop [7, 21] (fun z i => (i = .int .i64 0 ∧ z = .int .i64 0) ∨ (i = .int .i64 1 ∧ z = .int .i64 0) ∨ (i = .int .i64 2 ∧ z = .int .i64 1) ∨ (i = .int .i64 3 ∧ z = .int .i64 1)) (fun _ i => 3 - (intOf i).toNat)
      case atStart => exact .inl ⟨rfl, rfl⟩
      case round =>
        rcases hrel with ⟨rfl, rfl⟩ | ⟨rfl, rfl⟩ | ⟨rfl, rfl⟩ | ⟨rfl, rfl⟩
        · go_wp2
          exact ⟨.inr (.inl ⟨rfl, rfl⟩), by simp [intOf]⟩
        · go_wp2
          exact ⟨.inr (.inr (.inl ⟨rfl, rfl⟩)), by simp [intOf]⟩
        · go_wp2
          exact ⟨.inr (.inr (.inr ⟨rfl, rfl⟩)), by simp [intOf]⟩
        · obtain ⟨q0, q1, q2, hto⟩ := hto.facts
          go_wp2_with (first
            | (go_at_call 50; refine (awake09_any _).mono ?_; rintro e wn ⟨rfl, hk⟩; replace hto := hto.keeps hk; clear q0 q1 q2 hk; obtain ⟨q0, q1, q2, hto⟩ := hto.facts)
            | (go_at_call 53; refine (less_any _ _ _ _ _).mono ?_; rintro e wn ⟨rfl, hk⟩; (first | rw [unhide L1] | skip); replace hto := hto.keeps hk; clear q0 q1 q2 hk; obtain ⟨q0, q1, q2, hto⟩ := hto.facts))
          all_goals
            go_ret
            first
              | exact ⟨rfl, hto.2.2.2⟩
              | exact ⟨ret_bool (unhide hT (unhide L1) (by assumption)), hto.2.2.2⟩

theorem open_tag {H : Type} {enc : TypeId × Value → H} {W : World} {b0 : Nat} {v : Value} {d : DataW H} {p : List MemPlace}
    (hv : Value.okWide Try.prog W .any b0 71 v) (h : DataW.Trod enc Try.prog W 0 (fun _ => true) true 71 v d p) :
    ∃ a1 a2 : Int, v = .agg #[.int .i64 a1, .int .i64 a2] := by
  obtain ⟨v0, v1, y0, y1, n, rfl, _, _, t0, t1⟩ := Joins.open_agg2 Try.underlying71 (by kernel_rfl) (by kernel_rfl) hv h
  obtain ⟨n0, e0, _⟩ := DataW.trod_int Try.underlying3 t0
  obtain ⟨n1, e1, _⟩ := DataW.trod_int Try.underlying3 t1
  simp only [List.cons.injEq, and_true] at e0 e1
  subst e0 e1
  exact ⟨n0, n1, rfl⟩

end Go.Proofs.Ytknmcodpnhdghaa
