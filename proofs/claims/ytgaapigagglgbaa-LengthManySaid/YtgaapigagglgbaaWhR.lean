/- The reader of package whole: ready, Fail, Left, Err, number, settle. -/
import Derived.Test.YtgaapigagglgbaaWhNil
import Derived.Test.YtgaapigagglgbaaBitsRdB
import Derived.Deep.RegionHeld3
namespace Go.Proofs.Ytgaapigagglgbaa
open Go.ChangeShapes Go.WideShapes Go.ChangeAt Go.RowKit

/-- The reader at g: its octets xs lie at A, it stands at a place, and has a fault. -/
def WRV (w : World) (g : Nat) (A : Option Addr) (c : Nat) (xs : List Int) (at_ : Nat) (f : Int) : Prop :=
  Blk w g 78 (srcCells A xs.length c at_ [.int .i64 0, .int .i64 (xs.length : Nat), .int .i64 f]) ∧ Holds w A xs ∧ ∀ b, rowOf A = some b → b < g
theorem WRV.keeps {w w' : World} {g : Nat} {A : Option Addr} {c : Nat} {xs : List Int} {at_ : Nat} {f : Int} (h : WRV w g A c xs at_ f) (hk : Keeps w w') : WRV w' g A c xs at_ f := ⟨h.1.keeps hk, h.2.1.keeps hk, h.2.2⟩
theorem WRV.fr {w w' : World} {g : Nat} {A : Option Addr} {c : Nat} {xs : List Int} {at_ : Nat} {f : Int} (h : WRV w g A c xs at_ f) {g' : Nat} {row' : Option Nat} (hf : Fr g' row' w w') (hg : g ≠ g') (hr : row' ≠ some g) (hA : ∀ b, rowOf A = some b → b ≠ g' ∧ row' ≠ some b) : WRV w' g A c xs at_ f :=
  ⟨fr_blk hf h.1 hg hr, h.2.1.fr hf hA, h.2.2⟩
theorem WRV.fault {w : World} {g : Nat} {A : Option Addr} {c : Nat} {xs : List Int} {at_ : Nat} {f : Int} (h : WRV w g A c xs at_ f) (f2 : Int) : WRV (w.setCell ⟨g, 4, none⟩ (.int .i64 f2)) g A c xs at_ f2 := by
  refine ⟨by simpa [srcCells] using h.1.set_ 4 (.int .i64 f2), h.2.1.fr ((Fr.refl g none w).setCell _ _ (.inl rfl)) (fun b e => ⟨Nat.ne_of_lt (h.2.2 b e), fun e => by cases e⟩), h.2.2⟩

section
variable {w : World} {g : Nat} {A : Option Addr} {c : Nat} {xs : List Int} {at_ : Nat} {f : Int}
theorem ready_any (hR : WRV w g A c xs at_ f) :
    Calls Try.prog 45 #[.pointer (some ⟨g, 0, none⟩)] w fun e w' => e = .returned (.bool (f == 0)) ∧ w' = w := by
  have hg4 : w.cell? ⟨g, 4, none⟩ = some (.int .i64 f) := hR.1.cell 4
  clear hR
  go_enter Try.func45, Try.ntmps45
  go_wp2
  go_ret
  exact ⟨rfl, rfl⟩
theorem fail0_any (e2 : Int) (hR : WRV w g A c xs at_ 0) :
    Calls Try.prog 61 #[.pointer (some ⟨g, 0, none⟩), .int .i64 e2] w fun e w' => e = .returned (.tuple #[]) ∧ WRV w' g A c xs at_ e2 ∧ Fr g none w w' := by
  have HRD := hide (ready_any hR)
  have HF := hide (hR.fault e2)
  have HW := hide ((Fr.refl g none w).setCell (⟨g, 4, none⟩ : Addr) (.int .i64 e2) (.inl rfl))
  obtain ⟨hgc, hgf, hgl⟩ := hR.1.facts
  have hg4 : w.cell? ⟨g, 4, none⟩ = some (.int .i64 0) := hgc 4
  clear hR hgc
  go_enter Try.func61, Try.ntmps61
  go_wp2_with fail
  with_reducible refine (unhide HRD).mono ?_
  rintro e w1 ⟨rfl, rfl⟩
  go_wp2
  go_end0
  exact ⟨rfl, unhide HF, unhide HW⟩
theorem failF_any (e2 : Int) (hR : WRV w g A c xs at_ f) (hf : f ≠ 0) :
    Calls Try.prog 61 #[.pointer (some ⟨g, 0, none⟩), .int .i64 e2] w fun e w' => e = .returned (.tuple #[]) ∧ w' = w := by
  have HRD := hide (ready_any hR)
  rw [beq_eq_false_iff_ne.2 hf] at HRD
  clear hR
  go_enter Try.func61, Try.ntmps61
  go_wp2_with fail
  with_reducible refine (unhide HRD).mono ?_
  rintro e w1 ⟨rfl, rfl⟩
  go_wp2
  go_end0
  exact ⟨rfl, rfl⟩
theorem left58_any (t : TypeId) (L : Nat) (rest : List Value) (hb : Blk w g t (srcCells A L c at_ rest)) (hl : L ≤ 10000000) (ha : at_ ≤ 8 * L) :
    Calls Try.prog 50 #[.pointer (some ⟨g, 0, none⟩)] w fun e w' => e = .returned (.int .i64 ((8 * L - at_ : Nat) : Int)) ∧ w' = w.drew := by
  have HL := hide (left_any g t A L c at_ rest w hb hl ha)
  clear hb
  go_enter Try.func50, Try.ntmps50
  go_wp2_with fail
  with_reducible refine (unhide HL).mono ?_
  rintro e w1 ⟨rfl, rfl⟩
  go_wp2
  go_ret
  exact ⟨rfl, rfl⟩
theorem wrErr_any (hR : WRV w g A c xs at_ f) :
    Calls Try.prog 24 #[.pointer (some ⟨g, 0, none⟩)] w fun e w' => e = .returned (.int .i64 f) ∧ w' = w := by
  have hg4 : w.cell? ⟨g, 4, none⟩ = some (.int .i64 f) := hR.1.cell 4
  clear hR
  go_enter Try.func24, Try.ntmps24
  go_wp2
  go_ret
  exact ⟨rfl, rfl⟩
end

theorem rdVal_range (xs : List Int) (at_ : Nat) (f : Int) (n : Nat) (h : n ≤ 32) : 0 ≤ rdVal xs at_ f n ∧ rdVal xs at_ f n ≤ 4294967295 := by
  unfold rdVal
  split
  · have := rd_range xs at_ n
    have h2 : (2 : Int) ^ n ≤ 2 ^ 32 := by
      have h3 : (2 : Nat) ^ n ≤ 2 ^ 32 := Nat.pow_le_pow_right (by omega) h
      exact_mod_cast h3
    rw [show (2 : Int) ^ 32 = 4294967296 from by decide] at h2
    omega
  · omega
theorem or_parts (a b : Int) (ha0 : 0 ≤ a) (ha : a ≤ 4294967295) (hb0 : 0 ≤ b) (hb : b ≤ 4294967295) : bits .or .u64 (a * 4294967296) b = a * 4294967296 + b := by
  obtain ⟨x, rfl⟩ := Int.eq_ofNat_of_zero_le ha0
  obtain ⟨y, rfl⟩ := Int.eq_ofNat_of_zero_le hb0
  have := u64_or_nat (x * 4294967296) y (by omega) (by omega)
  have h2 : x * 4294967296 ||| y = x * 4294967296 + y := by
    have := Nat.two_pow_add_eq_or_of_lt (i := 32) (b := y) (by omega) x
    rw [Nat.mul_comm] at this
    exact this.symm
  rw [h2] at this
  rw [show ((x : Int) * 4294967296) = ((x * 4294967296 : Nat) : Int) from by omega, this]
  omega

/-- The value of J bits, read in two. -/
def numV (xs : List Int) (at_ J : Nat) : Int := rdVal xs at_ 0 (J - 32) * 4294967296 + rdVal xs (rdAt (8 * xs.length) at_ 0 (J - 32)) (rdF (8 * xs.length) at_ 0 (J - 32)) (min J 32)
def numA (T at_ J : Nat) : Nat := rdAt T (rdAt T at_ 0 (J - 32)) (rdF T at_ 0 (J - 32)) (min J 32)
theorem numF (T at_ J : Nat) : rdF T (rdAt T at_ 0 (J - 32)) (rdF T at_ 0 (J - 32)) (min J 32) = if at_ + J ≤ T then 0 else 3 := by
  unfold rdF rdAt
  by_cases h1 : at_ + (J - 32) ≤ T
  · by_cases h2 : at_ + J ≤ T
    · simp [h1, h2]; omega
    · simp [h1, h2]; omega
  · have h2 : ¬ at_ + J ≤ T := by omega
    simp [h1, h2]
theorem numA_ok {T at_ J : Nat} (h : at_ + J ≤ T) : numA T at_ J = at_ + J := by
  have h1 : at_ + (J - 32) ≤ T := by omega
  have e1 : rdAt T at_ 0 (J - 32) = at_ + (J - 32) := if_pos ⟨rfl, h1⟩
  have e2 : rdF T at_ 0 (J - 32) = 0 := by unfold rdF; rw [if_pos rfl, if_pos h1]
  unfold numA
  rw [e1, e2]
  unfold rdAt
  rw [if_pos ⟨rfl, by omega⟩]
  omega
theorem numV_ok {xs : List Int} {at_ J : Nat} (h : at_ + J ≤ 8 * xs.length) : numV xs at_ J = rd xs at_ J := by
  have h1 : at_ + (J - 32) ≤ 8 * xs.length := by omega
  have e1 : rdAt (8 * xs.length) at_ 0 (J - 32) = at_ + (J - 32) := if_pos ⟨rfl, h1⟩
  have e2 : rdF (8 * xs.length) at_ 0 (J - 32) = 0 := by unfold rdF; rw [if_pos rfl, if_pos h1]
  unfold numV
  rw [e1, e2]
  unfold rdVal
  rw [if_pos ⟨rfl, h1⟩, if_pos ⟨rfl, by omega⟩]
  rcases Nat.le_total J 32 with h2 | h2
  · rw [show J - 32 = 0 from by omega, rd_zero, Nat.min_eq_left h2]; simp
  · have := rd_add xs at_ (J - 32) 32 (by omega)
    rw [show J - 32 + 32 = J from by omega] at this
    rw [this, Nat.min_eq_right h2]
    rfl

set_option maxRecDepth 100000 in
set_option maxHeartbeats 4000000 in
theorem number_any (J : Nat) (hJ : J ≤ 64) {w : World} {h : Nat} {A : Option Addr} {c : Nat} {xs : List Int} {at_ : Nat} (hR : RV 80 w h A c xs at_ 0) (hx : B8 xs) (hl : xs.length ≤ 10000000) (ha : at_ ≤ 8 * xs.length) :
    Calls Try.prog 46 #[.pointer (some ⟨h, 0, none⟩), .int .i64 (J : Nat)] w fun e w' => e = .returned (.tuple #[.int .u64 (numV xs at_ J), .int .i64 (if at_ + J ≤ 8 * xs.length then 0 else 3)]) ∧
      RV 80 w' h A c xs (numA (8 * xs.length) at_ J) (if at_ + J ≤ 8 * xs.length then 0 else 3) ∧ Fr h none w w' := by
  rw [← numF (8 * xs.length) at_ J]
  unfold numV numA
  have HB1 := hide (rdBits_any ((J : Int) - 32) (J - 32) (by omega) hR hx hl ha)
  have ha1 := rdAt_le (f := 0) (n := J - 32) ha
  have hv1 := rdVal_range xs at_ 0 (J - 32) (by omega)
  generalize rdAt (8 * xs.length) at_ 0 (J - 32) = a1 at *
  generalize rdF (8 * xs.length) at_ 0 (J - 32) = f1 at *
  generalize rdVal xs at_ 0 (J - 32) = v1 at *
  have hv2 := rdVal_range xs a1 f1 (min J 32) (by omega)
  have HB2F := hide fun (w1 : World) (hr : RV 80 w1 h A c xs a1 f1) => rdBits_any (J : Int) (min J 32) (by omega) hr.drew hx hl ha1
  clear hR hx
  have hor := or_parts v1 (rdVal xs a1 f1 (min J 32)) hv1.1 hv1.2 hv2.1 hv2.2
  have hwr : IntKind.u64.wrap (v1 * 4294967296) = v1 * 4294967296 := by rw [IntKind.wrap_u64]; omega
  have hwr2 : IntKind.u64.wrap (rdVal xs a1 f1 (min J 32)) = rdVal xs a1 f1 (min J 32) := by rw [IntKind.wrap_u64]; omega
  obtain ⟨hv10, hv11⟩ := hv1
  obtain ⟨hv20, hv21⟩ := hv2
  go_enter Try.func46, Try.ntmps46
  go_wp2_with fail
  with_reducible refine (unhide HB1).mono ?_
  rintro e w1 ⟨rfl, hr1, hf1⟩
  have HB2 := hide (unhide HB2F _ hr1)
  have HF1 := hide hf1
  clear hr1 hf1 HB2F
  go_wp2
  refine wp_region_held_drew (S := fun _ => True) (by kernel_rfl) trivial (fun hHeld => ?_)
  refine wpAnyH_take (i := 0) (oi := { dst := some 14, op := Op.move (Operand.tmp 6), type := 40, pos := "reader.go:45", after := #[], guard := none }) (v := ?_) rfl (by kernel_rfl) (by kernel_rfl) (by kernel_rfl) (fun _ _ _ h => h) (Or.inl ⟨by rfl, ?_⟩) (by assumption) ?_
  rotate_left
  · intro w hSw
    go_simp
    try with_reducible rfl
  try simp only [Act.put, List.setIfInBounds_toArray, List.set_cons_zero, List.set_cons_succ]
  refine wpAnyH_take (i := 1) (oi := { dst := some 15, op := Op.binOp BinOp.shl 40 (Operand.tmp 14) (Operand.const (Value.int IntKind.u64 32)) 38, type := 40, pos := "reader.go:45", after := #[{ on := 0, ground := Ground.data }], guard := none }) (v := ?_) rfl (by kernel_rfl) (by kernel_rfl) (by kernel_rfl) (fun _ _ _ h => h) (Or.inl ⟨by rfl, ?_⟩) (by assumption) ?_
  rotate_left
  · intro w hSw
    go_simp
    try with_reducible rfl
  try simp only [Act.put, List.setIfInBounds_toArray, List.set_cons_zero, List.set_cons_succ]
  refine wpAnyH_take (i := 2) (oi := { dst := some 16, op := Op.move (Operand.tmp 0), type := 95, pos := "reader.go:45", after := #[], guard := none }) (v := ?_) rfl (by kernel_rfl) (by kernel_rfl) (by kernel_rfl) (fun _ _ _ h => h) (Or.inl ⟨by rfl, ?_⟩) (by assumption) ?_
  rotate_left
  · intro w hSw
    go_simp
    try with_reducible rfl
  try simp only [Act.put, List.setIfInBounds_toArray, List.set_cons_zero, List.set_cons_succ]
  refine wpAnyH_take (i := 3) (oi := { dst := some 17, op := Op.nilCheck (Operand.tmp 16), type := 0, pos := "reader.go:45", after := #[{ on := 2, ground := Ground.data }], guard := none }) (v := ?_) rfl (by kernel_rfl) (by kernel_rfl) (by kernel_rfl) (fun _ _ _ h => h) (Or.inl ⟨by rfl, ?_⟩) (by assumption) ?_
  rotate_left
  · intro w hSw
    go_simp
    try with_reducible rfl
  try simp only [Act.put, List.setIfInBounds_toArray, List.set_cons_zero, List.set_cons_succ]
  refine wpAnyH_take (i := 4) (oi := { dst := some 18, op := Op.fieldAddr 80 (Operand.tmp 17) 0, type := 0, pos := "reader.go:45", after := #[{ on := 3, ground := Ground.data }], guard := none }) (v := ?_) rfl (by kernel_rfl) (by kernel_rfl) (by kernel_rfl) (fun _ _ _ h => h) (Or.inl ⟨by rfl, ?_⟩) (by assumption) ?_
  rotate_left
  · intro w hSw
    go_simp
    try with_reducible rfl
  try simp only [Act.put, List.setIfInBounds_toArray, List.set_cons_zero, List.set_cons_succ]
  refine wpAnyH_take (i := 5) (oi := { dst := some 19, op := Op.move (Operand.tmp 1), type := 3, pos := "reader.go:45", after := #[], guard := none }) (v := ?_) rfl (by kernel_rfl) (by kernel_rfl) (by kernel_rfl) (fun _ _ _ h => h) (Or.inl ⟨by rfl, ?_⟩) (by assumption) ?_
  rotate_left
  · intro w hSw
    go_simp
    try with_reducible rfl
  try simp only [Act.put, List.setIfInBounds_toArray, List.set_cons_zero, List.set_cons_succ]
  refine wpAnyH_take (i := 9) (oi := { dst := some 23, op := Op.move (Operand.tmp 0), type := 95, pos := "reader.go:45", after := #[], guard := none }) (v := ?_) rfl (by kernel_rfl) (by kernel_rfl) (by kernel_rfl) (fun _ _ _ h => h) (Or.inl ⟨by rfl, ?_⟩) (by assumption) ?_
  rotate_left
  · intro w hSw
    go_simp
    try with_reducible rfl
  try simp only [Act.put, List.setIfInBounds_toArray, List.set_cons_zero, List.set_cons_succ]
  refine wpAnyH_take (i := 10) (oi := { dst := some 24, op := Op.nilCheck (Operand.tmp 23), type := 0, pos := "reader.go:45", after := #[{ on := 9, ground := Ground.data }], guard := none }) (v := ?_) rfl (by kernel_rfl) (by kernel_rfl) (by kernel_rfl) (fun _ _ _ h => h) (Or.inl ⟨by rfl, ?_⟩) (by assumption) ?_
  rotate_left
  · intro w hSw
    go_simp
    try with_reducible rfl
  try simp only [Act.put, List.setIfInBounds_toArray, List.set_cons_zero, List.set_cons_succ]
  refine wpAnyH_take (i := 11) (oi := { dst := some 25, op := Op.fieldAddr 80 (Operand.tmp 24) 0, type := 0, pos := "reader.go:45", after := #[{ on := 10, ground := Ground.data }], guard := none }) (v := ?_) rfl (by kernel_rfl) (by kernel_rfl) (by kernel_rfl) (fun _ _ _ h => h) (Or.inl ⟨by rfl, ?_⟩) (by assumption) ?_
  rotate_left
  · intro w hSw
    go_simp
    try with_reducible rfl
  try simp only [Act.put, List.setIfInBounds_toArray, List.set_cons_zero, List.set_cons_succ]
  refine wpAnyH_ready (rs := [6]) (by kernel_rfl) (by simp) ?_
  refine AllReadyH.cons (o := { dst := some 20, op := Op.call { callee := Callee.value (Operand.func 51), args := #[Operand.tmp 18, Operand.tmp 19], argTypes := #[74, 3] }, type := 67, pos := "reader.go:45", after := #[{ on := 4, ground := Ground.data }, { on := 5, ground := Ground.data }], guard := none }) rfl (fun K hK => ?_) AllReadyH.nil
  go_simp
  go_at_call 51
  refine (unhide HB2).mono ?_
  rintro e w2 ⟨rfl, hr2, hf2⟩
  have HR2 := hide hr2
  have HF2 := hide hf2
  clear hr2 hf2
  generalize hV2 : rdVal xs a1 f1 (min J 32) = v2 at *
  have HV2 := hide hV2
  clear hV2
  go_wp2_with fail
  refine hK.out _ _ ?_ (fun hHeld => ?_)
  · trivial
  clear hK K
  try simp only [Act.put, List.setIfInBounds_toArray, List.set_cons_zero, List.set_cons_succ]
  refine wpAnyH_take (i := 7) (oi := { dst := some 21, op := Op.convert 67 40 (Operand.tmp 20), type := 40, pos := "reader.go:45", after := #[{ on := 6, ground := Ground.data }], guard := none }) (v := ?_) rfl (by kernel_rfl) (by kernel_rfl) (by kernel_rfl) (fun _ _ _ h => h) (Or.inl ⟨by rfl, ?_⟩) (by assumption) ?_
  rotate_left
  · intro w hSw
    go_simp
    try with_reducible rfl
  try simp only [Act.put, List.setIfInBounds_toArray, List.set_cons_zero, List.set_cons_succ]
  refine wpAnyH_take (i := 8) (oi := { dst := some 22, op := Op.binOp BinOp.or 40 (Operand.tmp 15) (Operand.tmp 21) 40, type := 40, pos := "reader.go:45", after := #[{ on := 1, ground := Ground.data }, { on := 7, ground := Ground.data }], guard := none }) (v := ?_) rfl (by kernel_rfl) (by kernel_rfl) (by kernel_rfl) (fun _ _ _ h => h) (Or.inl ⟨by rfl, ?_⟩) (by assumption) ?_
  rotate_left
  · intro w hSw
    go_simp
    try with_reducible rfl
  try simp only [Act.put, List.setIfInBounds_toArray, List.set_cons_zero, List.set_cons_succ]
  refine wpAnyH_ready (rs := [12]) (by kernel_rfl) (by simp) ?_
  refine AllReadyH.cons (o := { dst := some 26, op := Op.call { callee := Callee.value (Operand.func 60), args := #[Operand.tmp 25], argTypes := #[74] }, type := 52, pos := "reader.go:45", after := #[{ on := 11, ground := Ground.data }, { on := 6, ground := Ground.chain }], guard := none }) rfl (fun K hK => ?_) AllReadyH.nil
  go_simp
  go_at_call 60
  refine (rdErr_any (unhide HR2)).mono ?_
  rintro e w3 ⟨rfl, rfl⟩
  go_wp2_with fail
  refine hK.out _ _ ?_ (fun hHeld => ?_)
  · trivial
  clear hK K
  try simp only [Act.put, List.setIfInBounds_toArray, List.set_cons_zero, List.set_cons_succ]
  refine wpAnyH_take (i := 13) (oi := { dst := some 4, op := Op.assign (Operand.tmp 22), type := 40, pos := "reader.go:45", after := #[{ on := 8, ground := Ground.data }, { on := 12, ground := Ground.chain }, { on := 0, ground := Ground.phase }, { on := 1, ground := Ground.phase }, { on := 2, ground := Ground.phase }, { on := 3, ground := Ground.phase }, { on := 4, ground := Ground.phase }, { on := 5, ground := Ground.phase }, { on := 6, ground := Ground.phase }, { on := 7, ground := Ground.phase }, { on := 8, ground := Ground.phase }, { on := 9, ground := Ground.textOnly Departure.lateStores }, { on := 10, ground := Ground.textOnly Departure.lateStores }, { on := 11, ground := Ground.textOnly Departure.lateStores }, { on := 12, ground := Ground.textOnly Departure.lateStoresUnsure }], guard := none }) (v := ?_) rfl (by kernel_rfl) (by kernel_rfl) (by kernel_rfl) (fun _ _ _ h => h) (Or.inl ⟨by rfl, ?_⟩) (by assumption) ?_
  rotate_left
  · intro w hSw
    go_simp
    try with_reducible rfl
  try simp only [Act.put, List.setIfInBounds_toArray, List.set_cons_zero, List.set_cons_succ]
  refine wpAnyH_take (i := 14) (oi := { dst := some 5, op := Op.assign (Operand.tmp 26), type := 52, pos := "reader.go:45", after := #[{ on := 12, ground := Ground.data }, { on := 13, ground := Ground.chain }, { on := 0, ground := Ground.phase }, { on := 1, ground := Ground.phase }, { on := 2, ground := Ground.phase }, { on := 3, ground := Ground.phase }, { on := 4, ground := Ground.phase }, { on := 5, ground := Ground.phase }, { on := 6, ground := Ground.phase }, { on := 7, ground := Ground.phase }, { on := 8, ground := Ground.phase }, { on := 9, ground := Ground.phase }, { on := 10, ground := Ground.phase }, { on := 11, ground := Ground.phase }, { on := 12, ground := Ground.phase }, { on := 13, ground := Ground.phase }], guard := none }) (v := ?_) rfl (by kernel_rfl) (by kernel_rfl) (by kernel_rfl) (fun _ _ _ h => h) (Or.inl ⟨by rfl, ?_⟩) (by assumption) ?_
  rotate_left
  · intro w hSw
    go_simp
    try with_reducible rfl
  try simp only [Act.put, List.setIfInBounds_toArray, List.set_cons_zero, List.set_cons_succ]
  refine wpAnyH_done (by kernel_rfl) ?_ _
  go_wp2
  go_ret2
  have hf := (unhide HF1).drew.trans (unhide HF2) (fun x e => by cases e)
  refine ⟨?_, unhide HR2, ⟨hf.1, hf.2.1, hf.2.2.1, hf.2.2.2.1, hf.2.2.2.2⟩⟩
  rw [unhide HV2, ← hor]
  rfl
end Go.Proofs.Ytgaapigagglgbaa
