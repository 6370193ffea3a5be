/- The walk of TagsDistinct. -/
import Derived.Test.YtahnelbadefedaaTagD3
import Derived.Deep.RegionHeld3
namespace Go.Proofs.Ytahnelbadefedaa
open Go.ChangeShapes Go.WideShapes Go.ChangeAt Go.RowKit Go.Maps

def TT2 (b : Nat) (w w' : World) : Prop := b < w.heap.size ∧ Keeps w w'
theorem tt2_step {b o p : Nat} {u v : Value} {w w1 w' : World} (h : w1.cell? ⟨b, o, none⟩ = some u ∧ w1.cell? ⟨b, p, none⟩ = some v ∧ TT2 b w w1) (hk : Keeps w1 w') :
    w'.cell? ⟨b, o, none⟩ = some u ∧ w'.cell? ⟨b, p, none⟩ = some v ∧ TT2 b w w' := by
  obtain ⟨h1, h2, h3, h4⟩ := h
  have hb : b < w1.heap.size := Nat.lt_of_lt_of_le h3 h4.size
  exact ⟨(Below.cell (p := ⟨b, o, none⟩) hk hb).trans h1, (Below.cell (p := ⟨b, p, none⟩) hk hb).trans h2, h3, h4.trans hk⟩
theorem tt2_k {b o p : Nat} {u v : Value} {w w1 : World} (h : w1.cell? ⟨b, o, none⟩ = some u ∧ w1.cell? ⟨b, p, none⟩ = some v ∧ TT2 b w w1) : Keeps w w1 := h.2.2.2
theorem HoldsT.take {w : World} {A : Option Addr} {ts : List (Int × Int)} (h : HoldsT w A ts) (k : Nat) (hk : k ≤ ts.length) : HoldsT w A (ts.take k) := by
  refine ⟨tagL_length _, fun hn => ?_⟩
  have hl : (ts.take k).length = k := by rw [List.length_take]; omega
  obtain ⟨ad, e, hb, hc⟩ := h.2 (by omega)
  refine ⟨ad, e, hb, fun j u hu => hc j u ?_⟩
  have hs : TagL ts = TagL (ts.take k) ++ TagL (ts.drop k) := by rw [← tagL_append, List.take_append_drop]
  rw [hs, List.getElem?_append_left (by exact (List.getElem?_eq_some_iff.1 hu).1)]
  exact hu
theorem parts_three {w : World} {g : Nat} {q1 q2 q3 : PartT} (hb : Blk w g 26 #[.slice q1.1 q1.2.2.length q1.2.1, .slice q2.1 q2.2.2.length q2.2.1, .slice q3.1 q3.2.2.length q3.2.1])
    (h1 : HoldsT w q1.1 q1.2.2 ∧ ∀ t ∈ q1.2.2, InT t) (h2 : HoldsT w q2.1 q2.2.2 ∧ ∀ t ∈ q2.2.2, InT t) (h3 : HoldsT w q3.1 q3.2.2 ∧ ∀ t ∈ q3.2.2, InT t) : PartsT w (some ⟨g, 0, none⟩) [q1, q2, q3] := by
  refine .inr ⟨g, 0, rfl, hb.lt, fun i q hq => ?_⟩
  match i, hq with
  | 0, hq => simp at hq; subst hq; exact ⟨hb.cell 0, h1⟩
  | 1, hq => simp at hq; subst hq; exact ⟨hb.cell 1, h2⟩
  | 2, hq => simp at hq; subst hq; exact ⟨hb.cell 2, h3⟩
  | i + 3, hq => simp at hq
theorem parts_one {w : World} {g : Nat} {q1 : PartT} (hb : Blk w g 26 #[.slice q1.1 q1.2.2.length q1.2.1]) (h1 : HoldsT w q1.1 q1.2.2 ∧ ∀ t ∈ q1.2.2, InT t) : PartsT w (some ⟨g, 0, none⟩) [q1] := by
  refine .inr ⟨g, 0, rfl, hb.lt, fun i q hq => ?_⟩
  match i, hq with
  | 0, hq => simp at hq; subst hq; exact ⟨hb.cell 0, h1⟩
  | i + 1, hq => simp at hq
theorem nodup_cab (a b c : List (Int × Int)) : (c ++ (a ++ b)).Nodup ↔ (a ++ b ++ c).Nodup := List.Perm.nodup_iff List.perm_append_comm

set_option maxRecDepth 100000 in
set_option maxHeartbeats 4000000 in
theorem dist_any (A B C : Option Addr) (xs ys zs : List (Int × Int)) (ca cb cc : Nat) (w : World) (hA : HoldsT w A xs) (hB : HoldsT w B ys) (hC : HoldsT w C zs) (hxr : ∀ t ∈ xs, InT t) (hyr : ∀ t ∈ ys, InT t) (hzr : ∀ t ∈ zs, InT t)
    (hxl : xs.length ≤ 100000000000000) (hyl : ys.length ≤ 100000000000000) (hzl : zs.length ≤ 100000000000000) :
    Calls Try.prog 4 #[.slice A xs.length ca, .slice B ys.length cb, .slice C zs.length cc] w fun e w' => e = .returned (.bool true) ∧ Keeps w w' := by
  obtain ⟨i0, hi0, hz0, hz1, hz2⟩ := info_parts tag_info
  rcases Nat.lt_or_ge 60 (xs.length + ys.length + zs.length) with hbig | hsm
  · have hbi : (60 : Int) < (xs.length : Int) + (ys.length : Int) + (zs.length : Int) := by omega
    clear hA hB hC
    go_enter Try.func4, Try.ntmps4
    go_wp2_with (go_at_call 5; refine (awake09_any _).mono ?_; rintro e w1 ⟨rfl, hk⟩)
    go_ret
    exact ⟨rfl, hk⟩
  · have hbi : (xs.length : Int) + (ys.length : Int) + (zs.length : Int) ≤ 60 := by omega
    have HA := hide hA
    have HB := hide hB
    have HC := hide hC
    have HXR := hide hxr
    have HYR := hide hyr
    have HZR := hide hzr
    have HO0 := hide (World.ownsRow_nil w w.heap.size 23 2)
    clear hA hB hC hxl hyl hzl hxr hyr hzr
    generalize hx : xs.length = nx at *
    generalize hy : ys.length = ny at *
    generalize hz : zs.length = nz at *
    have HX := hide hx
    have HY := hide hy
    have HZ := hide hz
    clear hx hy hz
    go_enter Try.func4, Try.ntmps4
    go_wp2_with (first | (at_builtin; refine wpList_append_any _ rfl (.tmp 20) (.tmp 21) _ rfl w.heap.size 23 i0 _ 2 16 Try.underlying26 hi0 hz0 hz1 hz2 rfl (by omega) _ _ _ rfl (unhide HO0) _ A nx ca (TagL xs) rfl (by have h := (unhide HA); unfold HoldsT at h; rw [unhide HX] at h; exact h) (tagL_one _) (by simp only [maxLen]; omega) (by omega) (by have := Nat.le_refl w.heap.size; omega) ?_; intro v1 w1 hown1 hg1 _hat1; have HO1 := hide hown1; have HG1 := hide ((Keeps.refl w).grown hg1 (fun x e => by cases e)); clear hown1 hg1 _hat1) | (at_builtin; refine wpList_append_any _ rfl (.tmp 22) (.tmp 23) _ rfl w.heap.size 23 i0 _ 2 16 Try.underlying26 hi0 hz0 hz1 hz2 rfl (by omega) _ _ _ rfl (unhide HO1) _ B ny cb (TagL ys) rfl (by have h := (unhide HB).keeps (unhide HG1); unfold HoldsT at h; rw [unhide HY] at h; exact h) (tagL_one _) (by simp only [maxLen]; omega) (by omega) (by have := (unhide HG1).size; omega) ?_; intro v2 w2 hown2 hg2 _hat2; have HO2 := hide hown2; have HG2 := hide ((unhide HG1).grown hg2 (fun x e => ((unhide HO1).lt x e).1)); clear hown2 hg2 _hat2) | (at_builtin; refine wpList_append_any _ rfl (.tmp 24) (.tmp 25) _ rfl w.heap.size 23 i0 _ 2 16 Try.underlying26 hi0 hz0 hz1 hz2 rfl (by omega) _ _ _ rfl (unhide HO2) _ C nz cc (TagL zs) rfl (by have h := (unhide HC).keeps (unhide HG2); unfold HoldsT at h; rw [unhide HZ] at h; exact h) (tagL_one _) (by simp only [maxLen]; omega) (by omega) (by have := (unhide HG2).size; omega) ?_; intro v3 w3 hown3 hg3 _hat3; have HO3 := hide hown3; have HG3 := hide ((unhide HG2).grown hg3 (fun x e => ((unhide HO2).lt x e).1)); clear hown3 hg3 _hat3))
    have hall := unhide HO3
    rw [show ([] : List Value) ++ TagL xs ++ TagL ys ++ TagL zs = TagL (xs ++ ys ++ zs) from by rw [tagL_append, tagL_append]; simp] at hall
    have hL : (xs ++ ys ++ zs).length = 0 + nx + ny + nz := by rw [List.length_append, List.length_append, unhide HX, unhide HY, unhide HZ]; omega
    have hLb : 0 + nx + ny + nz ≤ 60 := by omega
    have hperm := nodup_cab xs ys zs
    have hin : ∀ t ∈ xs ++ ys ++ zs, InT t := fun t ht => by
      rcases List.mem_append.1 ht with h | h
      · rcases List.mem_append.1 h with h | h
        · exact unhide HXR t h
        · exact unhide HYR t h
      · exact unhide HZR t h
    obtain ⟨A9, c9, rfl, hc9⟩ := own_form2 hall
    have hf1 : flatT [(A, ca, xs), (B, cb, ys), (C, cc, zs)] = xs ++ ys ++ zs := by simp [flatT]
    have hf2 : flatT [(C, cc, zs), (A, ca, xs), (B, cb, ys)] = zs ++ (xs ++ ys) := by simp [flatT]
    have HF1 := hide hf1
    have HF2 := hide hf2
    have HPERM := hide hperm
    have HIN := hide hin
    clear hf1 hf2 hperm hin
    generalize hALL : xs ++ ys ++ zs = all at *
    clear hALL
    generalize 0 + nx + ny + nz = L at *
    have hh9 : HoldsT w3 A9 all := by
      have h1 := hall
      rw [← hL] at h1
      exact holdsT_of_own h1
    have HL := hide hL
    have HH9 := hide hh9
    have HG3b := hide (unhide HG3)
    clear hall hL hh9
    go_loopw [8, 9] (fun u i wr => ∃ k : Nat, k ≤ L ∧ i = .int .i64 k ∧ u = .bool (decide (all.take k).Nodup) ∧ Keeps w3 wr) (fun _ i _ => L - (intOf i).toNat)
    case atStart => exact ⟨0, by omega, rfl, by simp, Keeps.refl _⟩
    case round =>
      obtain ⟨k, hk, rfl, rfl, hkw⟩ := hrel
      by_cases hlt : k < L
      · have hkt : k < all.length := by rw [unhide HL]; exact hlt
        obtain ⟨ba, oa, rfl, hd1, hd2, hbal⟩ := ((unhide HH9).keeps hkw).at_ hkt
        have htk : all.take (k + 1) = all.take k ++ [all.getD k (0, 0)] := by rw [List.take_succ_eq_append_getElem hkt]; simp [hkt]
        have HTK := hide htk
        have hkc : k ≤ c9 := by omega
        generalize all.getD k (0, 0) = t at *
        have HC1 := hide (fun (w' : World) (h : Keeps wr w') => in_any (some ⟨ba, oa, none⟩) (all.take k) k c9 t (by rw [List.length_take]; omega) w' ((((unhide HH9).keeps hkw).take k (by omega)).keeps h) (by omega))
        obtain ⟨t1, t2⟩ := t
        have HKW := hide hkw
        clear htk hkt hkw
        by_cases hnd : (all.take k).Nodup
        · have HND := hide hnd
          rw [decide_eq_true hnd]
          clear hnd
          by_cases hmem : (t1, t2) ∈ all.take k
          · rw [decide_eq_true hmem] at HC1
            have HR := hide (show decide (all.take (k + 1)).Nodup = false from decide_eq_false (fun h => by rw [unhide HTK, nodup_snoc] at h; exact h.2 hmem))
            clear hmem
            go_wp2
            refine wp_region_held_drew (S := (fun w' => w'.cell? ⟨ba, oa + k * 2, none⟩ = some (.int .i64 t1) ∧ w'.cell? ⟨ba, oa + k * 2 + 1, none⟩ = some (.int .i64 t2) ∧ TT2 ba wr w')) (by kernel_rfl) ?_ (fun hHeld => ?_)
            · exact ⟨hd1, hd2, hbal, (Keeps.refl _).drew⟩
            refine wpAnyH_take (i := 0) (oi := { dst := some 33, op := Op.move (Operand.tmp 8), type := 4, pos := "more.go:44", after := #[], guard := none }) (v := ?_) rfl (by kernel_rfl) (by kernel_rfl) (by kernel_rfl) (fun _ _ _ h => h) (Or.inl ⟨by rfl, ?_⟩) (by assumption) ?_
            rotate_left
            · intro w hSw
              go_simp
              try with_reducible rfl
            try simp only [Act.put, List.setIfInBounds_toArray, List.set_cons_zero, List.set_cons_succ]
            refine wpAnyH_take (i := 1) (oi := { dst := some 34, op := Op.move (Operand.tmp 33), type := 4, pos := "more.go:44", after := #[{ on := 0, ground := Ground.data }], guard := none }) (v := ?_) rfl (by kernel_rfl) (by kernel_rfl) (by kernel_rfl) (fun _ _ _ h => h) (Or.inl ⟨by rfl, ?_⟩) (by assumption) ?_
            rotate_left
            · intro w hSw
              go_simp
              try with_reducible rfl
            try simp only [Act.put, List.setIfInBounds_toArray, List.set_cons_zero, List.set_cons_succ]
            refine wpAnyH_take (i := 2) (oi := { dst := some 35, op := Op.move (Operand.tmp 7), type := 26, pos := "more.go:44", after := #[{ on := 1, ground := Ground.guard }], guard := some (1, true) }) (v := ?_) rfl (by kernel_rfl) (by kernel_rfl) (by kernel_rfl) (fun _ _ _ h => h) (Or.inl ⟨by rfl, ?_⟩) (by assumption) ?_
            rotate_left
            · intro w hSw
              go_simp
              try with_reducible rfl
            try simp only [Act.put, List.setIfInBounds_toArray, List.set_cons_zero, List.set_cons_succ]
            refine wpAnyH_take (i := 3) (oi := { dst := some 36, op := Op.move (Operand.tmp 9), type := 3, pos := "more.go:44", after := #[{ on := 1, ground := Ground.guard }], guard := some (1, true) }) (v := ?_) rfl (by kernel_rfl) (by kernel_rfl) (by kernel_rfl) (fun _ _ _ h => h) (Or.inl ⟨by rfl, ?_⟩) (by assumption) ?_
            rotate_left
            · intro w hSw
              go_simp
              try with_reducible rfl
            try simp only [Act.put, List.setIfInBounds_toArray, List.set_cons_zero, List.set_cons_succ]
            refine wpAnyH_take (i := 4) (oi := { dst := some 37, op := Op.slice 26 (Operand.tmp 35) none (some (Operand.tmp 36)) none, type := 26, pos := "more.go:44", after := #[{ on := 2, ground := Ground.data }, { on := 3, ground := Ground.data }, { on := 1, ground := Ground.guard }], guard := some (1, true) }) (v := ?_) rfl (by kernel_rfl) (by kernel_rfl) (by kernel_rfl) (fun _ _ _ h => h) (Or.inl ⟨by rfl, ?_⟩) (by assumption) ?_
            rotate_left
            · intro w hSw
              go_simp
              try with_reducible rfl
            try simp only [Act.put, List.setIfInBounds_toArray, List.set_cons_zero, List.set_cons_succ]
            refine wpAnyH_take (i := 5) (oi := { dst := some 38, op := Op.move (Operand.tmp 7), type := 26, pos := "more.go:44", after := #[{ on := 1, ground := Ground.guard }], guard := some (1, true) }) (v := ?_) rfl (by kernel_rfl) (by kernel_rfl) (by kernel_rfl) (fun _ _ _ h => h) (Or.inl ⟨by rfl, ?_⟩) (by assumption) ?_
            rotate_left
            · intro w hSw
              go_simp
              try with_reducible rfl
            try simp only [Act.put, List.setIfInBounds_toArray, List.set_cons_zero, List.set_cons_succ]
            refine wpAnyH_take (i := 6) (oi := { dst := some 39, op := Op.move (Operand.tmp 9), type := 3, pos := "more.go:44", after := #[{ on := 1, ground := Ground.guard }], guard := some (1, true) }) (v := ?_) rfl (by kernel_rfl) (by kernel_rfl) (by kernel_rfl) (fun _ _ _ h => h) (Or.inl ⟨by rfl, ?_⟩) (by assumption) ?_
            rotate_left
            · intro w hSw
              go_simp
              try with_reducible rfl
            try simp only [Act.put, List.setIfInBounds_toArray, List.set_cons_zero, List.set_cons_succ]
            refine wpAnyH_take (i := 7) (oi := { dst := some 40, op := Op.indexAddr 26 (Operand.tmp 38) (Operand.tmp 39), type := 0, pos := "more.go:44", after := #[{ on := 5, ground := Ground.data }, { on := 6, ground := Ground.data }, { on := 1, ground := Ground.guard }], guard := some (1, true) }) (v := ?_) rfl (by kernel_rfl) (by kernel_rfl) (by kernel_rfl) (fun _ _ _ h => h) (Or.inl ⟨by rfl, ?_⟩) (by assumption) ?_
            rotate_left
            · intro w hSw
              go_simp
              try with_reducible rfl
            try simp only [Act.put, List.setIfInBounds_toArray, List.set_cons_zero, List.set_cons_succ]
            refine wpAnyH_take (i := 8) (oi := { dst := some 41, op := Op.load 23 (Operand.tmp 40), type := 23, pos := "more.go:44", after := #[{ on := 7, ground := Ground.data }, { on := 1, ground := Ground.guard }], guard := some (1, true) }) (v := ?_) rfl (by kernel_rfl) (by kernel_rfl) (by kernel_rfl) (fun _ _ _ h => h) (Or.inl ⟨by rfl, ?_⟩) (by assumption) ?_
            rotate_left
            · intro w hSw
              go_simp
              try with_reducible rfl
            try simp only [Act.put, List.setIfInBounds_toArray, List.set_cons_zero, List.set_cons_succ]
            refine wpAnyH_ready (rs := [9]) (by kernel_rfl) (by simp) ?_
            refine AllReadyH.cons (o := { dst := some 42, op := Op.call { callee := Callee.value (Operand.func 12), args := #[Operand.tmp 37, Operand.tmp 41], argTypes := #[26, 23] }, type := 4, pos := "more.go:44", after := #[{ on := 4, ground := Ground.data }, { on := 8, ground := Ground.data }, { on := 1, ground := Ground.chain }, { on := 1, ground := Ground.guard }], guard := some (1, true) }) rfl (fun K hK => ?_) AllReadyH.nil
            go_simp
            go_at_call 12
            with_reducible refine (unhide HC1 _ (tt2_k hHeld)).mono ?_
            rintro e wn ⟨rfl, hkn⟩
            go_wp2_with fail
            refine hK.out _ _ ?_ (fun hHeld => ?_)
            · exact tt2_step (by assumption) hkn
            clear hK K
            try simp only [Act.put, List.setIfInBounds_toArray, List.set_cons_zero, List.set_cons_succ]
            refine wpAnyH_take (i := 10) (oi := { dst := some 43, op := Op.unOp UnOp.not 4 (Operand.tmp 42), type := 4, pos := "more.go:44", after := #[{ on := 9, ground := Ground.data }, { on := 1, ground := Ground.guard }], guard := some (1, true) }) (v := ?_) rfl (by kernel_rfl) (by kernel_rfl) (by kernel_rfl) (fun _ _ _ h => h) (Or.inl ⟨by rfl, ?_⟩) (by assumption) ?_
            rotate_left
            · intro w hSw
              go_simp
              try with_reducible rfl
            try simp only [Act.put, List.setIfInBounds_toArray, List.set_cons_zero, List.set_cons_succ]
            refine wpAnyH_take (i := 11) (oi := { dst := some 44, op := Op.pick (Operand.tmp 34) (Operand.tmp 43) (Operand.const (Value.bool false)), type := 4, pos := "more.go:44", after := #[{ on := 1, ground := Ground.data }, { on := 10, ground := Ground.data }], guard := none }) (v := ?_) rfl (by kernel_rfl) (by kernel_rfl) (by kernel_rfl) (fun _ _ _ h => h) (Or.inl ⟨by rfl, ?_⟩) (by assumption) ?_
            rotate_left
            · intro w hSw
              go_simp
              try with_reducible rfl
            try simp only [Act.put, List.setIfInBounds_toArray, List.set_cons_zero, List.set_cons_succ]
            refine wpAnyH_take (i := 12) (oi := { dst := some 8, op := Op.assign (Operand.tmp 44), type := 4, pos := "more.go:44", after := #[{ on := 11, ground := Ground.data }, { on := 9, ground := Ground.chain }, { on := 0, ground := Ground.phase }, { on := 1, ground := Ground.phase }, { on := 2, ground := Ground.phase }, { on := 3, ground := Ground.phase }, { on := 4, ground := Ground.phase }, { on := 5, ground := Ground.phase }, { on := 6, ground := Ground.phase }, { on := 7, ground := Ground.phase }, { on := 8, ground := Ground.phase }, { on := 9, ground := Ground.phase }, { on := 10, ground := Ground.phase }, { on := 11, ground := Ground.phase }], guard := none }) (v := ?_) rfl (by kernel_rfl) (by kernel_rfl) (by kernel_rfl) (fun _ _ _ h => h) (Or.inl ⟨by rfl, ?_⟩) (by assumption) ?_
            rotate_left
            · intro w hSw
              go_simp
              try with_reducible rfl
            try simp only [Act.put, List.setIfInBounds_toArray, List.set_cons_zero, List.set_cons_succ]
            refine wpAnyH_done (by kernel_rfl) ?_ _
            have HKF := hide ((unhide HKW).trans (tt2_k hHeld))
            clear hHeld
            go_wp2
            exact ⟨⟨k + 1, by omega, by go_num, by rw [unhide HR], unhide HKF⟩, by simp [intOf]; omega⟩
          · rw [decide_eq_false hmem] at HC1
            have HR := hide (show decide (all.take (k + 1)).Nodup = true from decide_eq_true (by rw [unhide HTK, nodup_snoc]; exact ⟨unhide HND, hmem⟩))
            clear hmem
            go_wp2
            refine wp_region_held_drew (S := (fun w' => w'.cell? ⟨ba, oa + k * 2, none⟩ = some (.int .i64 t1) ∧ w'.cell? ⟨ba, oa + k * 2 + 1, none⟩ = some (.int .i64 t2) ∧ TT2 ba wr w')) (by kernel_rfl) ?_ (fun hHeld => ?_)
            · exact ⟨hd1, hd2, hbal, (Keeps.refl _).drew⟩
            refine wpAnyH_take (i := 0) (oi := { dst := some 33, op := Op.move (Operand.tmp 8), type := 4, pos := "more.go:44", after := #[], guard := none }) (v := ?_) rfl (by kernel_rfl) (by kernel_rfl) (by kernel_rfl) (fun _ _ _ h => h) (Or.inl ⟨by rfl, ?_⟩) (by assumption) ?_
            rotate_left
            · intro w hSw
              go_simp
              try with_reducible rfl
            try simp only [Act.put, List.setIfInBounds_toArray, List.set_cons_zero, List.set_cons_succ]
            refine wpAnyH_take (i := 1) (oi := { dst := some 34, op := Op.move (Operand.tmp 33), type := 4, pos := "more.go:44", after := #[{ on := 0, ground := Ground.data }], guard := none }) (v := ?_) rfl (by kernel_rfl) (by kernel_rfl) (by kernel_rfl) (fun _ _ _ h => h) (Or.inl ⟨by rfl, ?_⟩) (by assumption) ?_
            rotate_left
            · intro w hSw
              go_simp
              try with_reducible rfl
            try simp only [Act.put, List.setIfInBounds_toArray, List.set_cons_zero, List.set_cons_succ]
            refine wpAnyH_take (i := 2) (oi := { dst := some 35, op := Op.move (Operand.tmp 7), type := 26, pos := "more.go:44", after := #[{ on := 1, ground := Ground.guard }], guard := some (1, true) }) (v := ?_) rfl (by kernel_rfl) (by kernel_rfl) (by kernel_rfl) (fun _ _ _ h => h) (Or.inl ⟨by rfl, ?_⟩) (by assumption) ?_
            rotate_left
            · intro w hSw
              go_simp
              try with_reducible rfl
            try simp only [Act.put, List.setIfInBounds_toArray, List.set_cons_zero, List.set_cons_succ]
            refine wpAnyH_take (i := 3) (oi := { dst := some 36, op := Op.move (Operand.tmp 9), type := 3, pos := "more.go:44", after := #[{ on := 1, ground := Ground.guard }], guard := some (1, true) }) (v := ?_) rfl (by kernel_rfl) (by kernel_rfl) (by kernel_rfl) (fun _ _ _ h => h) (Or.inl ⟨by rfl, ?_⟩) (by assumption) ?_
            rotate_left
            · intro w hSw
              go_simp
              try with_reducible rfl
            try simp only [Act.put, List.setIfInBounds_toArray, List.set_cons_zero, List.set_cons_succ]
            refine wpAnyH_take (i := 4) (oi := { dst := some 37, op := Op.slice 26 (Operand.tmp 35) none (some (Operand.tmp 36)) none, type := 26, pos := "more.go:44", after := #[{ on := 2, ground := Ground.data }, { on := 3, ground := Ground.data }, { on := 1, ground := Ground.guard }], guard := some (1, true) }) (v := ?_) rfl (by kernel_rfl) (by kernel_rfl) (by kernel_rfl) (fun _ _ _ h => h) (Or.inl ⟨by rfl, ?_⟩) (by assumption) ?_
            rotate_left
            · intro w hSw
              go_simp
              try with_reducible rfl
            try simp only [Act.put, List.setIfInBounds_toArray, List.set_cons_zero, List.set_cons_succ]
            refine wpAnyH_take (i := 5) (oi := { dst := some 38, op := Op.move (Operand.tmp 7), type := 26, pos := "more.go:44", after := #[{ on := 1, ground := Ground.guard }], guard := some (1, true) }) (v := ?_) rfl (by kernel_rfl) (by kernel_rfl) (by kernel_rfl) (fun _ _ _ h => h) (Or.inl ⟨by rfl, ?_⟩) (by assumption) ?_
            rotate_left
            · intro w hSw
              go_simp
              try with_reducible rfl
            try simp only [Act.put, List.setIfInBounds_toArray, List.set_cons_zero, List.set_cons_succ]
            refine wpAnyH_take (i := 6) (oi := { dst := some 39, op := Op.move (Operand.tmp 9), type := 3, pos := "more.go:44", after := #[{ on := 1, ground := Ground.guard }], guard := some (1, true) }) (v := ?_) rfl (by kernel_rfl) (by kernel_rfl) (by kernel_rfl) (fun _ _ _ h => h) (Or.inl ⟨by rfl, ?_⟩) (by assumption) ?_
            rotate_left
            · intro w hSw
              go_simp
              try with_reducible rfl
            try simp only [Act.put, List.setIfInBounds_toArray, List.set_cons_zero, List.set_cons_succ]
            refine wpAnyH_take (i := 7) (oi := { dst := some 40, op := Op.indexAddr 26 (Operand.tmp 38) (Operand.tmp 39), type := 0, pos := "more.go:44", after := #[{ on := 5, ground := Ground.data }, { on := 6, ground := Ground.data }, { on := 1, ground := Ground.guard }], guard := some (1, true) }) (v := ?_) rfl (by kernel_rfl) (by kernel_rfl) (by kernel_rfl) (fun _ _ _ h => h) (Or.inl ⟨by rfl, ?_⟩) (by assumption) ?_
            rotate_left
            · intro w hSw
              go_simp
              try with_reducible rfl
            try simp only [Act.put, List.setIfInBounds_toArray, List.set_cons_zero, List.set_cons_succ]
            refine wpAnyH_take (i := 8) (oi := { dst := some 41, op := Op.load 23 (Operand.tmp 40), type := 23, pos := "more.go:44", after := #[{ on := 7, ground := Ground.data }, { on := 1, ground := Ground.guard }], guard := some (1, true) }) (v := ?_) rfl (by kernel_rfl) (by kernel_rfl) (by kernel_rfl) (fun _ _ _ h => h) (Or.inl ⟨by rfl, ?_⟩) (by assumption) ?_
            rotate_left
            · intro w hSw
              go_simp
              try with_reducible rfl
            try simp only [Act.put, List.setIfInBounds_toArray, List.set_cons_zero, List.set_cons_succ]
            refine wpAnyH_ready (rs := [9]) (by kernel_rfl) (by simp) ?_
            refine AllReadyH.cons (o := { dst := some 42, op := Op.call { callee := Callee.value (Operand.func 12), args := #[Operand.tmp 37, Operand.tmp 41], argTypes := #[26, 23] }, type := 4, pos := "more.go:44", after := #[{ on := 4, ground := Ground.data }, { on := 8, ground := Ground.data }, { on := 1, ground := Ground.chain }, { on := 1, ground := Ground.guard }], guard := some (1, true) }) rfl (fun K hK => ?_) AllReadyH.nil
            go_simp
            go_at_call 12
            with_reducible refine (unhide HC1 _ (tt2_k hHeld)).mono ?_
            rintro e wn ⟨rfl, hkn⟩
            go_wp2_with fail
            refine hK.out _ _ ?_ (fun hHeld => ?_)
            · exact tt2_step (by assumption) hkn
            clear hK K
            try simp only [Act.put, List.setIfInBounds_toArray, List.set_cons_zero, List.set_cons_succ]
            refine wpAnyH_take (i := 10) (oi := { dst := some 43, op := Op.unOp UnOp.not 4 (Operand.tmp 42), type := 4, pos := "more.go:44", after := #[{ on := 9, ground := Ground.data }, { on := 1, ground := Ground.guard }], guard := some (1, true) }) (v := ?_) rfl (by kernel_rfl) (by kernel_rfl) (by kernel_rfl) (fun _ _ _ h => h) (Or.inl ⟨by rfl, ?_⟩) (by assumption) ?_
            rotate_left
            · intro w hSw
              go_simp
              try with_reducible rfl
            try simp only [Act.put, List.setIfInBounds_toArray, List.set_cons_zero, List.set_cons_succ]
            refine wpAnyH_take (i := 11) (oi := { dst := some 44, op := Op.pick (Operand.tmp 34) (Operand.tmp 43) (Operand.const (Value.bool false)), type := 4, pos := "more.go:44", after := #[{ on := 1, ground := Ground.data }, { on := 10, ground := Ground.data }], guard := none }) (v := ?_) rfl (by kernel_rfl) (by kernel_rfl) (by kernel_rfl) (fun _ _ _ h => h) (Or.inl ⟨by rfl, ?_⟩) (by assumption) ?_
            rotate_left
            · intro w hSw
              go_simp
              try with_reducible rfl
            try simp only [Act.put, List.setIfInBounds_toArray, List.set_cons_zero, List.set_cons_succ]
            refine wpAnyH_take (i := 12) (oi := { dst := some 8, op := Op.assign (Operand.tmp 44), type := 4, pos := "more.go:44", after := #[{ on := 11, ground := Ground.data }, { on := 9, ground := Ground.chain }, { on := 0, ground := Ground.phase }, { on := 1, ground := Ground.phase }, { on := 2, ground := Ground.phase }, { on := 3, ground := Ground.phase }, { on := 4, ground := Ground.phase }, { on := 5, ground := Ground.phase }, { on := 6, ground := Ground.phase }, { on := 7, ground := Ground.phase }, { on := 8, ground := Ground.phase }, { on := 9, ground := Ground.phase }, { on := 10, ground := Ground.phase }, { on := 11, ground := Ground.phase }], guard := none }) (v := ?_) rfl (by kernel_rfl) (by kernel_rfl) (by kernel_rfl) (fun _ _ _ h => h) (Or.inl ⟨by rfl, ?_⟩) (by assumption) ?_
            rotate_left
            · intro w hSw
              go_simp
              try with_reducible rfl
            try simp only [Act.put, List.setIfInBounds_toArray, List.set_cons_zero, List.set_cons_succ]
            refine wpAnyH_done (by kernel_rfl) ?_ _
            have HKF := hide ((unhide HKW).trans (tt2_k hHeld))
            clear hHeld
            go_wp2
            exact ⟨⟨k + 1, by omega, by go_num, by rw [unhide HR], unhide HKF⟩, by simp [intOf]; omega⟩
        · rw [decide_eq_false hnd]
          have HR := hide (show decide (all.take (k + 1)).Nodup = false from decide_eq_false (fun h => by rw [unhide HTK, nodup_snoc] at h; exact hnd h.1))
          clear hnd
          go_wp2
          refine wp_region_held_drew (S := (fun w' => w'.cell? ⟨ba, oa + k * 2, none⟩ = some (.int .i64 t1) ∧ w'.cell? ⟨ba, oa + k * 2 + 1, none⟩ = some (.int .i64 t2) ∧ TT2 ba wr w')) (by kernel_rfl) ?_ (fun hHeld => ?_)
          · exact ⟨hd1, hd2, hbal, (Keeps.refl _).drew⟩
          refine wpAnyH_take (i := 0) (oi := { dst := some 33, op := Op.move (Operand.tmp 8), type := 4, pos := "more.go:44", after := #[], guard := none }) (v := ?_) rfl (by kernel_rfl) (by kernel_rfl) (by kernel_rfl) (fun _ _ _ h => h) (Or.inl ⟨by rfl, ?_⟩) (by assumption) ?_
          rotate_left
          · intro w hSw
            go_simp
            try with_reducible rfl
          try simp only [Act.put, List.setIfInBounds_toArray, List.set_cons_zero, List.set_cons_succ]
          refine wpAnyH_take (i := 1) (oi := { dst := some 34, op := Op.move (Operand.tmp 33), type := 4, pos := "more.go:44", after := #[{ on := 0, ground := Ground.data }], guard := none }) (v := ?_) rfl (by kernel_rfl) (by kernel_rfl) (by kernel_rfl) (fun _ _ _ h => h) (Or.inl ⟨by rfl, ?_⟩) (by assumption) ?_
          rotate_left
          · intro w hSw
            go_simp
            try with_reducible rfl
          try simp only [Act.put, List.setIfInBounds_toArray, List.set_cons_zero, List.set_cons_succ]
          refine wpAnyH_take (i := 2) (oi := { dst := some 35, op := Op.move (Operand.tmp 7), type := 26, pos := "more.go:44", after := #[{ on := 1, ground := Ground.guard }], guard := some (1, true) }) rfl (by kernel_rfl) (by kernel_rfl) (by kernel_rfl) (fun _ _ _ h => h) (Or.inr ⟨by rfl, rfl⟩) (by assumption) ?_
          try simp only [Act.put, List.setIfInBounds_toArray, List.set_cons_zero, List.set_cons_succ]
          refine wpAnyH_take (i := 3) (oi := { dst := some 36, op := Op.move (Operand.tmp 9), type := 3, pos := "more.go:44", after := #[{ on := 1, ground := Ground.guard }], guard := some (1, true) }) rfl (by kernel_rfl) (by kernel_rfl) (by kernel_rfl) (fun _ _ _ h => h) (Or.inr ⟨by rfl, rfl⟩) (by assumption) ?_
          try simp only [Act.put, List.setIfInBounds_toArray, List.set_cons_zero, List.set_cons_succ]
          refine wpAnyH_take (i := 4) (oi := { dst := some 37, op := Op.slice 26 (Operand.tmp 35) none (some (Operand.tmp 36)) none, type := 26, pos := "more.go:44", after := #[{ on := 2, ground := Ground.data }, { on := 3, ground := Ground.data }, { on := 1, ground := Ground.guard }], guard := some (1, true) }) rfl (by kernel_rfl) (by kernel_rfl) (by kernel_rfl) (fun _ _ _ h => h) (Or.inr ⟨by rfl, rfl⟩) (by assumption) ?_
          try simp only [Act.put, List.setIfInBounds_toArray, List.set_cons_zero, List.set_cons_succ]
          refine wpAnyH_take (i := 5) (oi := { dst := some 38, op := Op.move (Operand.tmp 7), type := 26, pos := "more.go:44", after := #[{ on := 1, ground := Ground.guard }], guard := some (1, true) }) rfl (by kernel_rfl) (by kernel_rfl) (by kernel_rfl) (fun _ _ _ h => h) (Or.inr ⟨by rfl, rfl⟩) (by assumption) ?_
          try simp only [Act.put, List.setIfInBounds_toArray, List.set_cons_zero, List.set_cons_succ]
          refine wpAnyH_take (i := 6) (oi := { dst := some 39, op := Op.move (Operand.tmp 9), type := 3, pos := "more.go:44", after := #[{ on := 1, ground := Ground.guard }], guard := some (1, true) }) rfl (by kernel_rfl) (by kernel_rfl) (by kernel_rfl) (fun _ _ _ h => h) (Or.inr ⟨by rfl, rfl⟩) (by assumption) ?_
          try simp only [Act.put, List.setIfInBounds_toArray, List.set_cons_zero, List.set_cons_succ]
          refine wpAnyH_take (i := 7) (oi := { dst := some 40, op := Op.indexAddr 26 (Operand.tmp 38) (Operand.tmp 39), type := 0, pos := "more.go:44", after := #[{ on := 5, ground := Ground.data }, { on := 6, ground := Ground.data }, { on := 1, ground := Ground.guard }], guard := some (1, true) }) rfl (by kernel_rfl) (by kernel_rfl) (by kernel_rfl) (fun _ _ _ h => h) (Or.inr ⟨by rfl, rfl⟩) (by assumption) ?_
          try simp only [Act.put, List.setIfInBounds_toArray, List.set_cons_zero, List.set_cons_succ]
          refine wpAnyH_take (i := 8) (oi := { dst := some 41, op := Op.load 23 (Operand.tmp 40), type := 23, pos := "more.go:44", after := #[{ on := 7, ground := Ground.data }, { on := 1, ground := Ground.guard }], guard := some (1, true) }) rfl (by kernel_rfl) (by kernel_rfl) (by kernel_rfl) (fun _ _ _ h => h) (Or.inr ⟨by rfl, rfl⟩) (by assumption) ?_
          try simp only [Act.put, List.setIfInBounds_toArray, List.set_cons_zero, List.set_cons_succ]
          refine wpAnyH_take (i := 9) (oi := { dst := some 42, op := Op.call { callee := Callee.value (Operand.func 12), args := #[Operand.tmp 37, Operand.tmp 41], argTypes := #[26, 23] }, type := 4, pos := "more.go:44", after := #[{ on := 4, ground := Ground.data }, { on := 8, ground := Ground.data }, { on := 1, ground := Ground.chain }, { on := 1, ground := Ground.guard }], guard := some (1, true) }) rfl (by kernel_rfl) (by kernel_rfl) (by kernel_rfl) (fun _ _ _ h => h) (Or.inr ⟨by rfl, rfl⟩) (by assumption) ?_
          try simp only [Act.put, List.setIfInBounds_toArray, List.set_cons_zero, List.set_cons_succ]
          refine wpAnyH_take (i := 10) (oi := { dst := some 43, op := Op.unOp UnOp.not 4 (Operand.tmp 42), type := 4, pos := "more.go:44", after := #[{ on := 9, ground := Ground.data }, { on := 1, ground := Ground.guard }], guard := some (1, true) }) rfl (by kernel_rfl) (by kernel_rfl) (by kernel_rfl) (fun _ _ _ h => h) (Or.inr ⟨by rfl, rfl⟩) (by assumption) ?_
          try simp only [Act.put, List.setIfInBounds_toArray, List.set_cons_zero, List.set_cons_succ]
          refine wpAnyH_take (i := 11) (oi := { dst := some 44, op := Op.pick (Operand.tmp 34) (Operand.tmp 43) (Operand.const (Value.bool false)), type := 4, pos := "more.go:44", after := #[{ on := 1, ground := Ground.data }, { on := 10, ground := Ground.data }], guard := none }) (v := ?_) rfl (by kernel_rfl) (by kernel_rfl) (by kernel_rfl) (fun _ _ _ h => h) (Or.inl ⟨by rfl, ?_⟩) (by assumption) ?_
          rotate_left
          · intro w hSw
            go_simp
            try with_reducible rfl
          try simp only [Act.put, List.setIfInBounds_toArray, List.set_cons_zero, List.set_cons_succ]
          refine wpAnyH_take (i := 12) (oi := { dst := some 8, op := Op.assign (Operand.tmp 44), type := 4, pos := "more.go:44", after := #[{ on := 11, ground := Ground.data }, { on := 9, ground := Ground.chain }, { on := 0, ground := Ground.phase }, { on := 1, ground := Ground.phase }, { on := 2, ground := Ground.phase }, { on := 3, ground := Ground.phase }, { on := 4, ground := Ground.phase }, { on := 5, ground := Ground.phase }, { on := 6, ground := Ground.phase }, { on := 7, ground := Ground.phase }, { on := 8, ground := Ground.phase }, { on := 9, ground := Ground.phase }, { on := 10, ground := Ground.phase }, { on := 11, ground := Ground.phase }], guard := none }) (v := ?_) rfl (by kernel_rfl) (by kernel_rfl) (by kernel_rfl) (fun _ _ _ h => h) (Or.inl ⟨by rfl, ?_⟩) (by assumption) ?_
          rotate_left
          · intro w hSw
            go_simp
            try with_reducible rfl
          try simp only [Act.put, List.setIfInBounds_toArray, List.set_cons_zero, List.set_cons_succ]
          refine wpAnyH_done (by kernel_rfl) ?_ _
          have HKF := hide ((unhide HKW).trans (tt2_k hHeld))
          clear hHeld
          go_wp2
          exact ⟨⟨k + 1, by omega, by go_num, by rw [unhide HR], unhide HKF⟩, by simp [intOf]; omega⟩
      · obtain rfl : k = L := by omega
        rw [List.take_of_length_le (by rw [unhide HL]; exact Nat.le_refl _)]
        have HKW := hide ((unhide HG3b).trans hkw)
        have HH := hide ((unhide HH9).keeps hkw)
        have hr1 : decide (flatT [(A, ca, xs), (B, cb, ys), (C, cc, zs)]).Nodup = decide all.Nodup := by rw [unhide HF1]
        have hr2 : decide (flatT [(C, cc, zs), (A, ca, xs), (B, cb, ys)]).Nodup = decide all.Nodup := by rw [unhide HF2]; exact decide_eq_decide.2 (unhide HPERM)
        have hr3 : decide (flatT [(A9, c9, all)]).Nodup = decide all.Nodup := by simp [flatT]
        have hl1 : (flatT [(A, ca, xs), (B, cb, ys), (C, cc, zs)]).length ≤ 1000000 := by rw [unhide HF1, unhide HL]; omega
        have hl2 : (flatT [(C, cc, zs), (A, ca, xs), (B, cb, ys)]).length ≤ 1000000 := by
          rw [unhide HF2, List.length_append, List.length_append, unhide HX, unhide HY, unhide HZ]; omega
        have hl3 : (flatT [(A9, c9, all)]).length ≤ 1000000 := by simp only [flatT, List.flatMap_cons, List.flatMap_nil, List.append_nil]; rw [unhide HL]; omega
        have HR1 := hide hr1
        have HR2 := hide hr2
        have HR3 := hide hr3
        have HL1 := hide hl1
        have HL2 := hide hl2
        have HL3 := hide hl3
        clear hr1 hr2 hr3 hl1 hl2 hl3 hkw
        generalize decide all.Nodup = want at *
        go_wp2_with fail
        with_reducible refine (awake09_any _).mono ?_
        rintro e w4 ⟨rfl, hk4⟩
        have HK4 := hide ((unhide HKW).trans hk4)
        have HH4 := hide ((unhide HH).keeps hk4)
        have HO1 := hide (show Calls Try.prog 10 #[.slice (some ⟨w4.heap.size, 0, none⟩) 3 3] (w4.alloc (.cells #[.slice A nx ca, .slice B ny cb, .slice C nz cc] 26)) (fun e w' => e = .returned (.bool want) ∧ Keeps (w4.alloc (.cells #[.slice A nx ca, .slice B ny cb, .slice C nz cc] 26)) w') from by
          have hka := (unhide HK4).alloc (.cells #[.slice A nx ca, .slice B ny cb, .slice C nz cc] 26)
          have h := distinct_any (some ⟨w4.heap.size, 0, none⟩) [(A, ca, xs), (B, cb, ys), (C, cc, zs)] 3 3 _ rfl (parts_three (q1 := (A, ca, xs)) (q2 := (B, cb, ys)) (q3 := (C, cc, zs)) (by simp only [unhide HX, unhide HY, unhide HZ]; exact Blk.new w4 26 #[.slice A nx ca, .slice B ny cb, .slice C nz cc]) ⟨(unhide HA).keeps hka, unhide HXR⟩ ⟨(unhide HB).keeps hka, unhide HYR⟩ ⟨(unhide HC).keeps hka, unhide HZR⟩) (by omega) (unhide HL1)
          rwa [unhide HR1] at h)
        clear hk4
        go_wp2_with fail
        with_reducible refine (unhide HO1).mono ?_
        rintro e w5 ⟨rfl, hk5⟩
        have HK5 := hide (((unhide HK4).alloc (.cells #[.slice A nx ca, .slice B ny cb, .slice C nz cc] 26)).trans hk5)
        have HH5 := hide ((unhide HH4).keeps (((Keeps.refl w4).alloc (.cells #[.slice A nx ca, .slice B ny cb, .slice C nz cc] 26)).trans hk5))
        have HO2 := hide (show Calls Try.prog 10 #[.slice (some ⟨w5.heap.size, 0, none⟩) 3 3] (w5.alloc (.cells #[.slice C nz cc, .slice A nx ca, .slice B ny cb] 26)) (fun e w' => e = .returned (.bool want) ∧ Keeps (w5.alloc (.cells #[.slice C nz cc, .slice A nx ca, .slice B ny cb] 26)) w') from by
          have hka := (unhide HK5).alloc (.cells #[.slice C nz cc, .slice A nx ca, .slice B ny cb] 26)
          have h := distinct_any (some ⟨w5.heap.size, 0, none⟩) [(C, cc, zs), (A, ca, xs), (B, cb, ys)] 3 3 _ rfl (parts_three (q1 := (C, cc, zs)) (q2 := (A, ca, xs)) (q3 := (B, cb, ys)) (by simp only [unhide HX, unhide HY, unhide HZ]; exact Blk.new w5 26 #[.slice C nz cc, .slice A nx ca, .slice B ny cb]) ⟨(unhide HC).keeps hka, unhide HZR⟩ ⟨(unhide HA).keeps hka, unhide HXR⟩ ⟨(unhide HB).keeps hka, unhide HYR⟩) (by omega) (unhide HL2)
          rwa [unhide HR2] at h)
        clear hk5
        go_wp2_with fail
        with_reducible refine (unhide HO2).mono ?_
        rintro e w6 ⟨rfl, hk6⟩
        have HK6 := hide (((unhide HK5).alloc (.cells #[.slice C nz cc, .slice A nx ca, .slice B ny cb] 26)).trans hk6)
        have HO3 := hide (show Calls Try.prog 10 #[.slice (some ⟨w6.heap.size, 0, none⟩) 1 1] (w6.alloc (.cells #[.slice A9 k c9] 26)) (fun e w' => e = .returned (.bool want) ∧ Keeps (w6.alloc (.cells #[.slice A9 k c9] 26)) w') from by
          have hkb := ((Keeps.refl w5).alloc (.cells #[.slice C nz cc, .slice A nx ca, .slice B ny cb] 26)).trans hk6
          have h := distinct_any (some ⟨w6.heap.size, 0, none⟩) [(A9, c9, all)] 1 1 _ rfl (parts_one (q1 := (A9, c9, all)) (by simp only [unhide HL]; exact Blk.new w6 26 #[.slice A9 k c9]) ⟨((unhide HH5).keeps hkb).keeps ((Keeps.refl w6).alloc (.cells #[.slice A9 k c9] 26)), unhide HIN⟩) (by omega) (unhide HL3)
          rwa [unhide HR3] at h)
        clear hk6
        go_wp2_with fail
        with_reducible refine (unhide HO3).mono ?_
        rintro e w7 ⟨rfl, hk7⟩
        have HK7 := hide (((unhide HK6).alloc (.cells #[.slice A9 k c9] 26)).trans hk7)
        have hO4 := distinct_any none [] 0 0 w7 rfl (.inl rfl) (by omega) (by simp [flatT])
        rw [show decide (flatT []).Nodup = true from by simp [flatT]] at hO4
        have HO4 := hide hO4
        clear hk7 hO4
        go_wp2_with fail
        with_reducible refine (unhide HO4).mono ?_
        rintro e w8 ⟨rfl, hk8⟩
        have HK8 := hide ((unhide HK7).trans hk8)
        clear hk8
        go_wp2
        go_ret
        exact ⟨rfl, unhide HK8⟩
end Go.Proofs.Ytahnelbadefedaa
