/- The reader of package whole: small. -/
import Derived.Test.YtnbcehoddjcnoaaWhR3
import Derived.Test.YtnbcehoddjcnoaaTakeU
namespace Go.Proofs.Ytnbcehoddjcnoaa
open Go.ChangeShapes Go.WideShapes Go.ChangeAt Go.RowKit

/-- What a small number is: its value, the place behind it, the fault. -/
def smR (xs : List Int) (at_ : Nat) : Int × Nat × Int :=
  if 8 * xs.length < at_ + 1 then (0, at_, 3)
  else if rd xs at_ 1 = 0 then (if at_ + 7 ≤ 8 * xs.length then (rd xs (at_ + 1) 6, at_ + 7, 0) else (0, at_, 3))
  else if 8 * xs.length < at_ + 9 then (0, at_, 3)
  else if (rd xs (at_ + 1) 8).toNat = 0 ∨ 8 < (rd xs (at_ + 1) 8).toNat then (0, at_, 4)
  else if 8 * xs.length < at_ + 9 + 8 * (rd xs (at_ + 1) 8).toNat then (0, at_, 3)
  else if (takeU (rdO xs (at_ + 9) (rd xs (at_ + 1) 8).toNat)).2 ≠ 0 ∨ (takeU (rdO xs (at_ + 9) (rd xs (at_ + 1) 8).toNat)).1 < 64 ∨ 10000 < (takeU (rdO xs (at_ + 9) (rd xs (at_ + 1) 8).toNat)).1 then (0, at_, 4)
  else ((takeU (rdO xs (at_ + 9) (rd xs (at_ + 1) 8).toNat)).1, at_ + 9 + 8 * (rd xs (at_ + 1) 8).toNat, 0)
def SmP (w : World) (h : Nat) (A : Option Addr) (c : Nat) (xs : List Int) (at_ : Nat) (e : Ending) (w' : World) : Prop :=
  ∃ v a2 f2, e = .returned (.tuple #[.int .i64 v, .int .i64 (smR xs at_).2.2]) ∧ RV 82 w' h A c xs a2 f2 ∧ Fr h none w w' ∧ ((smR xs at_).2.2 = 0 → v = (smR xs at_).1 ∧ a2 = (smR xs at_).2.1 ∧ f2 = 0)
theorem smP_of {w w' : World} {h : Nat} {A : Option Addr} {c : Nat} {xs : List Int} {at_ : Nat} {e : Ending} {s : Int × Nat × Int} (hs : smR xs at_ = s) (v : Int) (a2 : Nat) (f2 : Int) (he : e = .returned (.tuple #[.int .i64 v, .int .i64 s.2.2])) (hr : RV 82 w' h A c xs a2 f2) (hf : Fr h none w w')
    (h0 : s.2.2 = 0 → v = s.1 ∧ a2 = s.2.1 ∧ f2 = 0) : SmP w h A c xs at_ e w' := by
  subst hs
  exact ⟨v, a2, f2, he, hr, hf, h0⟩

section
variable {w : World} {h : Nat} {A : Option Addr} {c : Nat} {xs : List Int} {at_ : Nat}
set_option maxRecDepth 100000 in
set_option maxHeartbeats 1000000 in
/-- Its first bit is 0, or not there. -/
theorem small0_any (hR : RV 82 w h A c xs at_ 0) (hx : B8 xs) (hl : xs.length ≤ 10000000) (ha : at_ ≤ 8 * xs.length) (h0 : rdVal xs at_ 0 1 = 0) :
    Calls Try.prog 68 #[.pointer (some ⟨h, 0, none⟩)] w (SmP w h A c xs at_) := by
  have HB1 := hide (rdBit_any hR hx hl ha)
  rw [h0] at HB1
  have ha1 := rdAt_le (f := 0) (n := 1) ha
  have HSM : Hid (∃ s : Int × Nat × Int, smR xs at_ = s ∧ s.2.2 = rdF (8 * xs.length) (rdAt (8 * xs.length) at_ 0 1) (rdF (8 * xs.length) at_ 0 1) 6 ∧ (s.2.2 = 0 → rdVal xs (rdAt (8 * xs.length) at_ 0 1) (rdF (8 * xs.length) at_ 0 1) 6 = s.1 ∧ rdAt (8 * xs.length) (rdAt (8 * xs.length) at_ 0 1) (rdF (8 * xs.length) at_ 0 1) 6 = s.2.1)) := by
    refine ⟨_, rfl, ?_⟩
    unfold smR
    by_cases hs : 8 * xs.length < at_ + 1
    · have e2 : rdF (8 * xs.length) at_ 0 1 = 3 := by unfold rdF; rw [if_pos rfl, if_neg (by omega)]
      rw [if_pos hs, e2]
      exact ⟨(if_neg (by decide)).symm, fun h => absurd (show (3 : Int) = 0 from h) (by decide)⟩
    · have e1 : rdAt (8 * xs.length) at_ 0 1 = at_ + 1 := if_pos ⟨rfl, by omega⟩
      have e2 : rdF (8 * xs.length) at_ 0 1 = 0 := by unfold rdF; rw [if_pos rfl, if_pos (by omega)]
      have e3 : rd xs at_ 1 = 0 := by
        have := h0
        unfold rdVal at this
        rwa [if_pos ⟨rfl, by omega⟩] at this
      rw [if_neg hs, if_pos e3, e1, e2]
      by_cases h7 : at_ + 7 ≤ 8 * xs.length
      · rw [if_pos h7]
        refine ⟨?_, fun _ => ⟨if_pos ⟨rfl, by omega⟩, ?_⟩⟩
        · unfold rdF; rw [if_pos rfl, if_pos (by omega)]
        · unfold rdAt; rw [if_pos ⟨rfl, by omega⟩]
      · rw [if_neg h7]
        refine ⟨?_, fun h => absurd (show (3 : Int) = 0 from h) (by decide)⟩
        unfold rdF; rw [if_pos rfl, if_neg (by omega)]
  generalize rdAt (8 * xs.length) at_ 0 1 = a1 at *
  generalize rdF (8 * xs.length) at_ 0 1 = f1 at *
  have hv2 := rdVal_range xs a1 f1 6 (by omega)
  have HB2F := hide fun (w1 : World) (hr : RV 82 w1 h A c xs a1 f1) => rdBits_any 6 6 (by omega) hr.drew hx hl ha1
  have hwr2 : IntKind.i64.wrap (rdVal xs a1 f1 6) = rdVal xs a1 f1 6 := by rw [IntKind.wrap_i64]; omega
  obtain ⟨hv20, hv21⟩ := hv2
  clear hR hx h0 ha
  generalize rdVal xs a1 f1 6 = v2 at *
  generalize hF2 : rdF (8 * xs.length) a1 f1 6 = f2 at *
  generalize hA2 : rdAt (8 * xs.length) a1 f1 6 = a2 at *
  clear hF2 hA2
  go_enter Try.func68, Try.ntmps68
  go_wp2_with fail
  with_reducible refine (unhide HB1).mono ?_
  rintro e w1 ⟨rfl, hr1, hf1⟩
  have HB2 := hide (unhide HB2F _ hr1)
  have HF1 := hide hf1
  clear hr1 hf1 HB2F
  go_wp2
  refine wp_region_held_drew (S := fun _ => True) (by kernel_rfl) trivial (fun hHeld => ?_)
  refine wpAnyH_take (i := 0) (oi := { dst := some 14, op := Op.move (Operand.tmp 0), type := 100, pos := "reader.go:51", after := #[], guard := none }) (v := ?_) rfl (by kernel_rfl) (by kernel_rfl) (by kernel_rfl) (fun _ _ _ h => h) (Or.inl ⟨by rfl, ?_⟩) (by assumption) ?_
  rotate_left
  · intro w hSw
    go_simp
    try with_reducible rfl
  try simp only [Act.put, List.setIfInBounds_toArray, List.set_cons_zero, List.set_cons_succ]
  refine wpAnyH_take (i := 1) (oi := { dst := some 15, op := Op.nilCheck (Operand.tmp 14), type := 0, pos := "reader.go:51", after := #[{ on := 0, ground := Ground.data }], guard := none }) (v := ?_) rfl (by kernel_rfl) (by kernel_rfl) (by kernel_rfl) (fun _ _ _ h => h) (Or.inl ⟨by rfl, ?_⟩) (by assumption) ?_
  rotate_left
  · intro w hSw
    go_simp
    try with_reducible rfl
  try simp only [Act.put, List.setIfInBounds_toArray, List.set_cons_zero, List.set_cons_succ]
  refine wpAnyH_take (i := 2) (oi := { dst := some 16, op := Op.fieldAddr 82 (Operand.tmp 15) 0, type := 0, pos := "reader.go:51", after := #[{ on := 1, ground := Ground.data }], guard := none }) (v := ?_) rfl (by kernel_rfl) (by kernel_rfl) (by kernel_rfl) (fun _ _ _ h => h) (Or.inl ⟨by rfl, ?_⟩) (by assumption) ?_
  rotate_left
  · intro w hSw
    go_simp
    try with_reducible rfl
  try simp only [Act.put, List.setIfInBounds_toArray, List.set_cons_zero, List.set_cons_succ]
  refine wpAnyH_take (i := 5) (oi := { dst := some 19, op := Op.move (Operand.tmp 0), type := 100, pos := "reader.go:51", after := #[], guard := none }) (v := ?_) rfl (by kernel_rfl) (by kernel_rfl) (by kernel_rfl) (fun _ _ _ h => h) (Or.inl ⟨by rfl, ?_⟩) (by assumption) ?_
  rotate_left
  · intro w hSw
    go_simp
    try with_reducible rfl
  try simp only [Act.put, List.setIfInBounds_toArray, List.set_cons_zero, List.set_cons_succ]
  refine wpAnyH_take (i := 6) (oi := { dst := some 20, op := Op.nilCheck (Operand.tmp 19), type := 0, pos := "reader.go:51", after := #[{ on := 5, ground := Ground.data }], guard := none }) (v := ?_) rfl (by kernel_rfl) (by kernel_rfl) (by kernel_rfl) (fun _ _ _ h => h) (Or.inl ⟨by rfl, ?_⟩) (by assumption) ?_
  rotate_left
  · intro w hSw
    go_simp
    try with_reducible rfl
  try simp only [Act.put, List.setIfInBounds_toArray, List.set_cons_zero, List.set_cons_succ]
  refine wpAnyH_take (i := 7) (oi := { dst := some 21, op := Op.fieldAddr 82 (Operand.tmp 20) 0, type := 0, pos := "reader.go:51", after := #[{ on := 6, ground := Ground.data }], guard := none }) (v := ?_) rfl (by kernel_rfl) (by kernel_rfl) (by kernel_rfl) (fun _ _ _ h => h) (Or.inl ⟨by rfl, ?_⟩) (by assumption) ?_
  rotate_left
  · intro w hSw
    go_simp
    try with_reducible rfl
  try simp only [Act.put, List.setIfInBounds_toArray, List.set_cons_zero, List.set_cons_succ]
  refine wpAnyH_ready (rs := [3]) (by kernel_rfl) (by simp) ?_
  refine AllReadyH.cons (o := { dst := some 17, op := Op.call { callee := Callee.value (Operand.func 59), args := #[Operand.tmp 16, Operand.const (Value.int IntKind.i64 6)], argTypes := #[75, 3] }, type := 71, pos := "reader.go:51", after := #[{ on := 2, ground := Ground.data }], guard := none }) rfl (fun K hK => ?_) AllReadyH.nil
  go_simp
  go_at_call 59
  refine (unhide HB2).mono ?_
  rintro e w2 ⟨rfl, hr2, hf2⟩
  have HR2 := hide hr2
  have HF2 := hide hf2
  clear hr2 hf2
  go_wp2_with fail
  refine hK.out _ _ ?_ (fun hHeld => ?_)
  · trivial
  clear hK K
  try simp only [Act.put, List.setIfInBounds_toArray, List.set_cons_zero, List.set_cons_succ]
  refine wpAnyH_take (i := 4) (oi := { dst := some 18, op := Op.convert 71 3 (Operand.tmp 17), type := 3, pos := "reader.go:51", after := #[{ on := 3, ground := Ground.data }], guard := none }) (v := ?_) rfl (by kernel_rfl) (by kernel_rfl) (by kernel_rfl) (fun _ _ _ h => h) (Or.inl ⟨by rfl, ?_⟩) (by assumption) ?_
  rotate_left
  · intro w hSw
    go_simp
    try with_reducible rfl
  try simp only [Act.put, List.setIfInBounds_toArray, List.set_cons_zero, List.set_cons_succ]
  refine wpAnyH_ready (rs := [8]) (by kernel_rfl) (by simp) ?_
  refine AllReadyH.cons (o := { dst := some 22, op := Op.call { callee := Callee.value (Operand.func 64), args := #[Operand.tmp 21], argTypes := #[75] }, type := 51, pos := "reader.go:51", after := #[{ on := 7, ground := Ground.data }, { on := 3, ground := Ground.chain }], guard := none }) rfl (fun K hK => ?_) AllReadyH.nil
  go_simp
  go_at_call 64
  refine (rdErr_any (unhide HR2)).mono ?_
  rintro e w3 ⟨rfl, rfl⟩
  go_wp2_with fail
  refine hK.out _ _ ?_ (fun hHeld => ?_)
  · trivial
  clear hK K
  try simp only [Act.put, List.setIfInBounds_toArray, List.set_cons_zero, List.set_cons_succ]
  refine wpAnyH_take (i := 9) (oi := { dst := some 2, op := Op.assign (Operand.tmp 18), type := 3, pos := "reader.go:51", after := #[{ on := 4, ground := Ground.data }, { on := 8, ground := Ground.chain }, { on := 0, ground := Ground.phase }, { on := 1, ground := Ground.phase }, { on := 2, ground := Ground.phase }, { on := 3, ground := Ground.phase }, { on := 4, ground := Ground.phase }, { on := 5, ground := Ground.textOnly Departure.lateStores }, { on := 6, ground := Ground.textOnly Departure.lateStores }, { on := 7, ground := Ground.textOnly Departure.lateStores }, { on := 8, ground := Ground.textOnly Departure.lateStoresUnsure }], guard := none }) (v := ?_) rfl (by kernel_rfl) (by kernel_rfl) (by kernel_rfl) (fun _ _ _ h => h) (Or.inl ⟨by rfl, ?_⟩) (by assumption) ?_
  rotate_left
  · intro w hSw
    go_simp
    try with_reducible rfl
  try simp only [Act.put, List.setIfInBounds_toArray, List.set_cons_zero, List.set_cons_succ]
  refine wpAnyH_take (i := 10) (oi := { dst := some 3, op := Op.assign (Operand.tmp 22), type := 51, pos := "reader.go:51", after := #[{ on := 8, ground := Ground.data }, { on := 9, ground := Ground.chain }, { on := 0, ground := Ground.phase }, { on := 1, ground := Ground.phase }, { on := 2, ground := Ground.phase }, { on := 3, ground := Ground.phase }, { on := 4, ground := Ground.phase }, { on := 5, ground := Ground.phase }, { on := 6, ground := Ground.phase }, { on := 7, ground := Ground.phase }, { on := 8, ground := Ground.phase }, { on := 9, ground := Ground.phase }], guard := none }) (v := ?_) rfl (by kernel_rfl) (by kernel_rfl) (by kernel_rfl) (fun _ _ _ h => h) (Or.inl ⟨by rfl, ?_⟩) (by assumption) ?_
  rotate_left
  · intro w hSw
    go_simp
    try with_reducible rfl
  try simp only [Act.put, List.setIfInBounds_toArray, List.set_cons_zero, List.set_cons_succ]
  refine wpAnyH_done (by kernel_rfl) ?_ _
  go_wp2
  go_ret2
  have hf := (unhide HF1).drew.trans (unhide HF2) (fun x e => by cases e)
  obtain ⟨s, hs1, hs2, hs3⟩ := unhide HSM
  exact smP_of hs1 v2 a2 f2 (by rw [hs2]; rfl) (unhide HR2) ⟨hf.1, hf.2.1, hf.2.2.1, hf.2.2.2.1, hf.2.2.2.2⟩ (fun h => ⟨(hs3 h).1, (hs3 h).2, by rw [← hs2]; exact h⟩)

set_option maxRecDepth 100000 in
set_option maxHeartbeats 1000000 in
/-- Its first bit is 1. -/
theorem small1_any (hR : RV 82 w h A c xs at_ 0) (hx : B8 xs) (hl : xs.length ≤ 10000000) (hc : xs.length ≤ c) (h1 : at_ + 1 ≤ 8 * xs.length) (h0 : rd xs at_ 1 = 1) :
    Calls Try.prog 68 #[.pointer (some ⟨h, 0, none⟩)] w (SmP w h A c xs at_) := by
  have HB1 := hide (rdBit_any hR hx hl (by omega))
  rw [show rdVal xs at_ 0 1 = 1 from by unfold rdVal; rw [if_pos ⟨rfl, h1⟩, h0], show rdAt (8 * xs.length) at_ 0 1 = at_ + 1 from if_pos ⟨rfl, h1⟩, show rdF (8 * xs.length) at_ 0 1 = 0 from by unfold rdF; rw [if_pos rfl, if_pos h1]] at HB1
  have HB2F := hide fun (w1 : World) (hr : RV 82 w1 h A c xs (at_ + 1) 0) => rdBits_any 8 8 (by omega) hr hx hl h1
  have n1 : ¬ 8 * xs.length < at_ + 1 := by omega
  have n2 : ¬ rd xs at_ 1 = 0 := by rw [h0]; decide
  by_cases h9 : at_ + 9 ≤ 8 * xs.length
  · obtain ⟨K, hK⟩ : ∃ K : Nat, rd xs (at_ + 1) 8 = (K : Int) := ⟨(rd xs (at_ + 1) 8).toNat, by have := (rd_range xs (at_ + 1) 8).1; omega⟩
    have hK2 : (K : Int) < 256 := by have := (rd_range xs (at_ + 1) 8).2; rw [hK] at this; exact this
    have hKn : (rd xs (at_ + 1) 8).toNat = K := by rw [hK]; exact Int.toNat_natCast K
    have n3 : ¬ 8 * xs.length < at_ + 9 := by omega
    rw [show rdVal xs (at_ + 1) 0 8 = (K : Int) from by unfold rdVal; rw [if_pos ⟨rfl, by omega⟩, hK], show rdAt (8 * xs.length) (at_ + 1) 0 8 = at_ + 9 from by unfold rdAt; rw [if_pos ⟨rfl, by omega⟩], show rdF (8 * xs.length) (at_ + 1) 0 8 = 0 from by unfold rdF; rw [if_pos rfl, if_pos (by omega)]] at HB2F
    by_cases hbad : K = 0 ∨ 8 < K
    · have HSM := hide (show smR xs at_ = (0, at_, 4) from by unfold smR; rw [if_neg n1, if_neg n2, if_neg n3, hKn, if_pos hbad])
      clear hR hx h0 h1 n1 n2 n3 hK hKn h9
      rcases hbad with rfl | hbad
      · go_enter Try.func68, Try.ntmps68
        go_wp2_with fail
        with_reducible refine (unhide HB1).mono ?_
        rintro e w1 ⟨rfl, hr1, hf1⟩
        have HB2 := hide (unhide HB2F _ hr1)
        have HF1 := hide hf1
        clear hr1 hf1 HB2F
        go_wp2_with fail
        refine (unhide HB2).mono ?_
        rintro e w2 ⟨rfl, hr2, hf2⟩
        have HR2 := hide hr2
        have HF12 := hide ((unhide HF1).trans hf2 (fun x e => by cases e))
        clear hr2 hf2
        go_wp2_with fail
        refine (rdErr_any (unhide HR2)).mono ?_
        rintro e w3 ⟨rfl, hw3⟩
        rw [hw3]
        clear hw3
        go_wp2
        go_ret2
        exact smP_of (unhide HSM) 0 (at_ + 9) 0 rfl (unhide HR2) (unhide HF12) (fun h => absurd (show (4 : Int) = 0 from h) (by decide))
      · go_enter Try.func68, Try.ntmps68
        go_wp2_with fail
        with_reducible refine (unhide HB1).mono ?_
        rintro e w1 ⟨rfl, hr1, hf1⟩
        have HB2 := hide (unhide HB2F _ hr1)
        have HF1 := hide hf1
        clear hr1 hf1 HB2F
        go_wp2_with fail
        refine (unhide HB2).mono ?_
        rintro e w2 ⟨rfl, hr2, hf2⟩
        have HR2 := hide hr2
        have HF12 := hide ((unhide HF1).trans hf2 (fun x e => by cases e))
        clear hr2 hf2
        go_wp2_with fail
        refine (rdErr_any (unhide HR2)).mono ?_
        rintro e w3 ⟨rfl, hw3⟩
        rw [hw3]
        clear hw3
        go_wp2
        go_ret2
        exact smP_of (unhide HSM) 0 (at_ + 9) 0 rfl (unhide HR2) (unhide HF12) (fun h => absurd (show (4 : Int) = 0 from h) (by decide))
    · have hK0 : 0 < K := by omega
      have hK8 : K ≤ 8 := by omega
      have eK : ((K : Int) == 0) = false := by rw [beq_eq_false_iff_ne]; omega
      have gK : ¬ (8 < (K : Int)) := by omega
      by_cases hlong : at_ + 9 + 8 * K ≤ 8 * xs.length
      · have HO := hide fun (w2 : World) (hr : RV 82 w2 h A c xs (at_ + 9) 0) => rdOctets_any (K : Int) K (by omega) hr hx hl (by omega) hc hlong (by omega)
        have HYL := hide (rdO_length xs (at_ + 9) K)
        have HYB := hide (rdO_bytes xs (at_ + 9) K)
        have n5 : ¬ 8 * xs.length < at_ + 9 + 8 * K := by omega
        have HSM := hide (show smR xs at_ = if (takeU (rdO xs (at_ + 9) K)).2 ≠ 0 ∨ (takeU (rdO xs (at_ + 9) K)).1 < 64 ∨ 10000 < (takeU (rdO xs (at_ + 9) K)).1 then (0, at_, 4) else ((takeU (rdO xs (at_ + 9) K)).1, at_ + 9 + 8 * K, 0) from by
          unfold smR; rw [if_neg n1, if_neg n2, if_neg n3, hKn, if_neg hbad, if_neg n5])
        clear hR hx h0 h1 n1 n2 n3 n5 hK hKn h9 hbad hlong
        generalize rdO xs (at_ + 9) K = ys at *
        generalize hA2 : at_ + 9 + 8 * K = a2 at *
        clear hA2
        go_enter Try.func68, Try.ntmps68
        go_wp2_with fail
        with_reducible refine (unhide HB1).mono ?_
        rintro e w1 ⟨rfl, hr1, hf1⟩
        have HB2 := hide (unhide HB2F _ hr1)
        have HF1 := hide hf1
        clear hr1 hf1 HB2F
        go_wp2_with fail
        refine (unhide HB2).mono ?_
        rintro e w2 ⟨rfl, hr2, hf2⟩
        have HR2 := hide hr2
        have HF12 := hide ((unhide HF1).trans hf2 (fun x e => by cases e))
        clear hr2 hf2
        go_wp2_with fail
        refine (rdErr_any (unhide HR2)).mono ?_
        rintro e w3 ⟨rfl, hw3⟩
        rw [hw3]
        clear hw3
        go_wp2_with fail
        refine (unhide HO _ (unhide HR2)).mono ?_
        rintro e w4 ⟨B, d, rfl, hd, hh, hwr, hr4, hf4⟩
        have HR4 := hide hr4
        have HF14 := hide ((unhide HF12).trans hf4 (fun x e => by cases e))
        have HH := hide hh
        clear hr4 hf4 hd hh hwr
        go_wp2_with fail
        refine (rdErr_any (unhide HR4)).mono ?_
        rintro e w5 ⟨rfl, hw5⟩
        rw [hw5]
        clear hw5
        have HTU := hide (takeUnsigned_any B ys d (unhide HYB) (by have := unhide HYL; unfold maxLen; omega) _ (unhide HH))
        generalize (takeU ys).1 = p1 at *
        generalize (takeU ys).2 = p2 at *
        by_cases hp2 : p2 = 0
        · subst hp2
          by_cases hp3 : p1 < 64
          · rw [if_pos (.inr (.inl hp3))] at HSM
            go_wp2_with fail
            refine (unhide HTU).mono ?_
            rintro e w5 ⟨rfl, hk5⟩
            have HK5 := hide hk5
            clear hk5
            go_wp2
            go_ret2
            exact smP_of (unhide HSM) 0 a2 0 rfl ((unhide HR4).keeps (unhide HK5)) ((unhide HF14).keeps (unhide HK5)) (fun h => absurd (show (4 : Int) = 0 from h) (by decide))
          · by_cases hp4 : 10000 < p1
            · rw [if_pos (.inr (.inr hp4))] at HSM
              go_wp2_with fail
              refine (unhide HTU).mono ?_
              rintro e w5 ⟨rfl, hk5⟩
              have HK5 := hide hk5
              clear hk5
              go_wp2
              go_ret2
              exact smP_of (unhide HSM) 0 a2 0 rfl ((unhide HR4).keeps (unhide HK5)) ((unhide HF14).keeps (unhide HK5)) (fun h => absurd (show (4 : Int) = 0 from h) (by decide))
            · rw [if_neg (fun h => by rcases h with h | h | h; exact h rfl; exact hp3 h; exact hp4 h)] at HSM
              go_wp2_with fail
              refine (unhide HTU).mono ?_
              rintro e w5 ⟨rfl, hk5⟩
              have HK5 := hide hk5
              clear hk5
              go_wp2
              go_ret2
              exact smP_of (unhide HSM) p1 a2 0 rfl ((unhide HR4).keeps (unhide HK5)) ((unhide HF14).keeps (unhide HK5)) (fun _ => ⟨rfl, rfl, rfl⟩)
        · rw [if_pos (.inl hp2)] at HSM
          have ep : (p2 != 0) = true := by rw [bne_iff_ne]; exact hp2
          go_wp2_with fail
          refine (unhide HTU).mono ?_
          rintro e w5 ⟨rfl, hk5⟩
          have HK5 := hide hk5
          clear hk5
          go_wp2
          go_ret2
          exact smP_of (unhide HSM) 0 a2 0 rfl ((unhide HR4).keeps (unhide HK5)) ((unhide HF14).keeps (unhide HK5)) (fun h => absurd (show (4 : Int) = 0 from h) (by decide))
      · have HO := hide fun (w2 : World) (hr : RV 82 w2 h A c xs (at_ + 9) 0) => rdOctetsNo_any (K : Int) hr hl (by omega) (by omega) (by omega) (.inr (by omega))
        rw [if_pos rfl] at HO
        have HSM := hide (show smR xs at_ = (0, at_, 3) from by unfold smR; rw [if_neg n1, if_neg n2, if_neg n3, hKn, if_neg hbad, if_pos (by omega)])
        clear hR hx h0 h1 n1 n2 n3 hK hKn h9 hbad hlong
        go_enter Try.func68, Try.ntmps68
        go_wp2_with fail
        with_reducible refine (unhide HB1).mono ?_
        rintro e w1 ⟨rfl, hr1, hf1⟩
        have HB2 := hide (unhide HB2F _ hr1)
        have HF1 := hide hf1
        clear hr1 hf1 HB2F
        go_wp2_with fail
        refine (unhide HB2).mono ?_
        rintro e w2 ⟨rfl, hr2, hf2⟩
        have HR2 := hide hr2
        have HF12 := hide ((unhide HF1).trans hf2 (fun x e => by cases e))
        clear hr2 hf2
        go_wp2_with fail
        refine (rdErr_any (unhide HR2)).mono ?_
        rintro e w3 ⟨rfl, hw3⟩
        rw [hw3]
        clear hw3
        go_wp2_with fail
        refine (unhide HO _ (unhide HR2)).mono ?_
        rintro e w4 ⟨B, d, rfl, hd, hh, hwr, hr4, hf4⟩
        have HR4 := hide hr4
        have HF14 := hide ((unhide HF12).trans hf4 (fun x e => by cases e))
        have HH := hide hh
        clear hr4 hf4 hd hh hwr
        go_wp2_with fail
        refine (rdErr_any (unhide HR4)).mono ?_
        rintro e w5 ⟨rfl, hw5⟩
        rw [hw5]
        clear hw5
        go_wp2
        go_ret2
        exact smP_of (unhide HSM) 0 (at_ + 9) 3 rfl (unhide HR4) (unhide HF14) (fun h => absurd (show (3 : Int) = 0 from h) (by decide))
  · have HSM := hide (show smR xs at_ = (0, at_, 3) from by unfold smR; rw [if_neg n1, if_neg n2, if_pos (by omega)])
    rw [show rdVal xs (at_ + 1) 0 8 = 0 from if_neg (fun h => by have := h.2; omega), show rdAt (8 * xs.length) (at_ + 1) 0 8 = at_ + 1 from if_neg (fun h => by have := h.2; omega), show rdF (8 * xs.length) (at_ + 1) 0 8 = 3 from by unfold rdF; rw [if_pos rfl, if_neg (by omega)]] at HB2F
    have HO := hide fun (w2 : World) (hr : RV 82 w2 h A c xs (at_ + 1) 3) => rdOctetsNo_any 0 hr hl h1 (by omega) (by omega) (.inl (by decide))
    rw [if_neg (by decide)] at HO
    clear hR hx h0 h1 n1 n2 h9
    go_enter Try.func68, Try.ntmps68
    go_wp2_with fail
    with_reducible refine (unhide HB1).mono ?_
    rintro e w1 ⟨rfl, hr1, hf1⟩
    have HB2 := hide (unhide HB2F _ hr1)
    have HF1 := hide hf1
    clear hr1 hf1 HB2F
    go_wp2_with fail
    refine (unhide HB2).mono ?_
    rintro e w2 ⟨rfl, hr2, hf2⟩
    have HR2 := hide hr2
    have HF12 := hide ((unhide HF1).trans hf2 (fun x e => by cases e))
    clear hr2 hf2
    go_wp2_with fail
    refine (rdErr_any (unhide HR2)).mono ?_
    rintro e w3 ⟨rfl, hw3⟩
    rw [hw3]
    clear hw3
    go_wp2_with fail
    refine (unhide HO _ (unhide HR2)).mono ?_
    rintro e w4 ⟨B, d, rfl, hd, hh, hwr, hr4, hf4⟩
    have HR4 := hide hr4
    have HF14 := hide ((unhide HF12).trans hf4 (fun x e => by cases e))
    have HH := hide hh
    clear hr4 hf4 hd hh hwr
    go_wp2_with fail
    refine (rdErr_any (unhide HR4)).mono ?_
    rintro e w5 ⟨rfl, hw5⟩
    rw [hw5]
    clear hw5
    go_wp2
    go_ret2
    exact smP_of (unhide HSM) 0 (at_ + 1) 3 rfl (unhide HR4) (unhide HF14) (fun h => absurd (show (3 : Int) = 0 from h) (by decide))
end
end Go.Proofs.Ytnbcehoddjcnoaa
