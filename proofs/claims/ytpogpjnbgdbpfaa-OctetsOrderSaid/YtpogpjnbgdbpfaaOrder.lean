/- The walk of OctetsOrder. -/
import Derived.Test.YtpogpjnbgdbpfaaLess
import Derived.Test.YtpogpjnbgdbpfaaBack
import Derived.BigRegion
namespace Go.Proofs.Ytpogpjnbgdbpfaa
open Go.ChangeShapes Go.WideShapes Go.ChangeAt Go.RowKit

theorem less_any (X Y : Option Addr) (xs ys : List Int) (c d ga gb : Nat) (a b : Int) (w : World) (bx : Bytes8 xs) (bz : Bytes8 ys) (h0 : 0 ≤ a) (h1 : b ≤ 18446744073709551615) (hab : a ≤ b) (hl : xs.length ≤ ys.length) (hq : xs.length = ys.length → cmpI xs ys = cmpZ a b)
    (ca : w.cell? ⟨ga, 0, none⟩ = some (.int .u64 a)) (cb : w.cell? ⟨gb, 0, none⟩ = some (.int .u64 b)) (hx : Holds w X xs) (hy : Holds w Y ys) (sa : ga < w.heap.size) (sb : gb < w.heap.size) :
    Calls Try.prog 36 #[.slice X xs.length c, .slice Y ys.length d, .pointer (some ⟨gb, 0, none⟩), .pointer (some ⟨ga, 0, none⟩)] w fun e w' => e = .returned (.bool true) ∧ Keeps w w' := by
  have hS : LessS w X xs Y ys ga gb w.drew := ⟨hx, hy, sa, sb, (Keeps.refl _).drew⟩
  rcases Nat.lt_or_ge xs.length ys.length with h | h
  · exact lessL_any X Y _ _ c d ga gb w h
  · have e : xs.length = ys.length := by omega
    have hc := hq e
    rw [← e]
    rcases Int.lt_or_eq_of_le hab with h2 | h2
    · exact lessE_lt X Y xs ys _ c d ga gb a b w rfl e.symm bx bz h0 h1 h2 ca cb hS (by rw [hc]; unfold cmpZ; rw [if_pos h2])
    · subst h2
      exact lessE_eq X Y xs ys _ c d ga gb a w rfl e.symm bx bz ca cb hS (by rw [hc]; unfold cmpZ; rw [if_neg (by omega), if_neg (by omega)])

def OrdS (w0 : World) (w' : World) : Prop := w0.heap.size + 1 < w'.heap.size ∧ Keeps w0 w'
theorem ord_step {w0 w w' : World} {u v : Value} (h : w.cell? ⟨w0.heap.size, 0, none⟩ = some u ∧ w.cell? ⟨w0.heap.size + 1, 0, none⟩ = some v ∧ OrdS w0 w) (hk : Keeps w w') :
    w'.cell? ⟨w0.heap.size, 0, none⟩ = some u ∧ w'.cell? ⟨w0.heap.size + 1, 0, none⟩ = some v ∧ OrdS w0 w' := by
  obtain ⟨h1, h2, h3, h4⟩ := h
  exact ⟨(Below.cell (p := ⟨w0.heap.size, 0, none⟩) hk (Nat.lt_trans (Nat.lt_succ_self _) h3)).trans h1, (Below.cell (p := ⟨w0.heap.size + 1, 0, none⟩) hk h3).trans h2, Nat.lt_of_lt_of_le h3 hk.size, h4.trans hk⟩
theorem ord_start (w : World) (u v : Value) :
    ((w.alloc (.cells #[u] 22)).alloc (.cells #[v] 22)).drew.cell? ⟨w.heap.size, 0, none⟩ = some u ∧ ((w.alloc (.cells #[u] 22)).alloc (.cells #[v] 22)).drew.cell? ⟨w.heap.size + 1, 0, none⟩ = some v ∧ OrdS w ((w.alloc (.cells #[u] 22)).alloc (.cells #[v] 22)).drew := by
  have hb := (Blk.new w 22 #[u]).alloc (.cells #[v] 22)
  have hb2 := Blk.new (w.alloc (.cells #[u] 22)) 22 #[v]
  rw [show (w.alloc (.cells #[u] 22)).heap.size = w.heap.size + 1 from by simp] at hb2
  exact ⟨hb.cell 0, hb2.cell 0, hb2.lt, (((Keeps.refl w).alloc _).alloc _).drew⟩

set_option maxRecDepth 100000 in
set_option maxHeartbeats 8000000 in
theorem orderLt_any (a b : Int) (h1 : 0 ≤ a) (h2 : b ≤ 18446744073709551615) (hab : a < b) (w : World) :
    Calls Try.prog 6 #[.int .u64 a, .int .u64 b] w fun e w' => e = .returned (.bool true) ∧ Keeps w w' := by
  have hu := uOct_cmp a b (by omega) (by omega) (by omega)
  have hg := gOct_cmp a b (by omega) (by omega) (by omega)
  rw [← uOct_length, ← uOct_length] at hu
  rw [← gOct_length, ← gOct_length] at hg
  have HU := hide hu
  have HG := hide hg
  have hst := ord_start w (.int .u64 a) (.int .u64 b)
  have HST := hide hst
  clear hu hg hst
  have n1 : ¬ (b < a) := by omega
  go_enter Try.func6, Try.ntmps6
  go_wp2
  go_region
  have hst := unhide HST
  clear HST
  generalize ((w.alloc (.cells #[.int .u64 a] 22)).alloc (.cells #[.int .u64 b] 22)).drew = w1 at *
  go_wp2_with fail
  refine wp_region_held_drew (S := fun w' => w'.cell? ⟨w.heap.size, 0, none⟩ = some (.int .u64 a) ∧ w'.cell? ⟨w.heap.size + 1, 0, none⟩ = some (.int .u64 b) ∧ OrdS w w') (by kernel_rfl) ?_ (fun hHeld => ?_)
  · exact ord_step hst (Keeps.refl _).drew
  refine wpAnyH_take (i := 0) (oi := { dst := some 16, op := Op.load 22 (Operand.tmp 2), type := 22, pos := "law.go:69", after := #[], guard := none }) (v := ?_) rfl (by kernel_rfl) (by kernel_rfl) (by kernel_rfl) (fun _ _ _ h => h) (Or.inl ⟨by rfl, ?_⟩) (by assumption) ?_
  rotate_left
  · intro w hSw
    go_simp
    try with_reducible rfl
  try simp only [Act.put, List.setIfInBounds_toArray, List.set_cons_zero, List.set_cons_succ]
  refine wpAnyH_take (i := 2) (oi := { dst := some 18, op := Op.load 22 (Operand.tmp 3), type := 22, pos := "law.go:69", after := #[], guard := none }) (v := ?_) rfl (by kernel_rfl) (by kernel_rfl) (by kernel_rfl) (fun _ _ _ h => h) (Or.inl ⟨by rfl, ?_⟩) (by assumption) ?_
  rotate_left
  · intro w hSw
    go_simp
    try with_reducible rfl
  try simp only [Act.put, List.setIfInBounds_toArray, List.set_cons_zero, List.set_cons_succ]
  refine wpAnyH_ready (rs := [1]) (by kernel_rfl) (by simp) ?_
  refine AllReadyH.cons (o := { dst := some 17, op := Op.call { callee := Callee.value (Operand.func 21), args := #[Operand.tmp 16], argTypes := #[22] }, type := 24, pos := "law.go:69", after := #[{ on := 0, ground := Ground.data }], guard := none }) rfl (fun K hK => ?_) AllReadyH.nil
  go_simp
  go_at_call 21
  refine (unsigned_any a (by omega) (by omega) _).mono ?_
  rintro e wn ⟨A1, c1, rfl, hcc1, hfc1⟩
  have hx1 := hfc1.holds
  go_wp2_with fail
  refine hK.out _ _ ?_ (fun hHeld => ?_)
  · exact ord_step hHeld hfc1.2
  clear hK K
  try simp only [Act.put, List.setIfInBounds_toArray, List.set_cons_zero, List.set_cons_succ]
  refine wpAnyH_ready (rs := [3]) (by kernel_rfl) (by simp) ?_
  refine AllReadyH.cons (o := { dst := some 19, op := Op.call { callee := Callee.value (Operand.func 21), args := #[Operand.tmp 18], argTypes := #[22] }, type := 24, pos := "law.go:69", after := #[{ on := 2, ground := Ground.data }, { on := 1, ground := Ground.chain }], guard := none }) rfl (fun K hK => ?_) AllReadyH.nil
  go_simp
  go_at_call 21
  refine (unsigned_any b (by omega) (by omega) _).mono ?_
  rintro e wn ⟨A2, c2, rfl, hcc2, hfc2⟩
  have hx2 := hfc2.holds
  go_wp2_with fail
  refine hK.out _ _ ?_ (fun hHeld => ?_)
  · exact ord_step hHeld hfc2.2
  clear hK K
  try simp only [Act.put, List.setIfInBounds_toArray, List.set_cons_zero, List.set_cons_succ]
  replace hx1 := hx1.keeps hfc2.2
  refine wpAnyH_take (i := 4) (oi := { dst := some 5, op := Op.assign (Operand.tmp 17), type := 24, pos := "law.go:69", after := #[{ on := 1, ground := Ground.data }, { on := 3, ground := Ground.chain }, { on := 0, ground := Ground.phase }, { on := 1, ground := Ground.phase }, { on := 2, ground := Ground.textOnly Departure.lateStores }, { on := 3, ground := Ground.textOnly Departure.lateStoresUnsure }], guard := none }) (v := ?_) rfl (by kernel_rfl) (by kernel_rfl) (by kernel_rfl) (fun _ _ _ h => h) (Or.inl ⟨by rfl, ?_⟩) (by assumption) ?_
  rotate_left
  · intro w hSw
    go_simp
    try with_reducible rfl
  try simp only [Act.put, List.setIfInBounds_toArray, List.set_cons_zero, List.set_cons_succ]
  refine wpAnyH_take (i := 5) (oi := { dst := some 6, op := Op.assign (Operand.tmp 19), type := 24, pos := "law.go:69", after := #[{ on := 3, ground := Ground.data }, { on := 4, ground := Ground.chain }, { on := 0, ground := Ground.phase }, { on := 1, ground := Ground.phase }, { on := 2, ground := Ground.phase }, { on := 3, ground := Ground.phase }, { on := 4, ground := Ground.phase }], guard := none }) (v := ?_) rfl (by kernel_rfl) (by kernel_rfl) (by kernel_rfl) (fun _ _ _ h => h) (Or.inl ⟨by rfl, ?_⟩) (by assumption) ?_
  rotate_left
  · intro w hSw
    go_simp
    try with_reducible rfl
  try simp only [Act.put, List.setIfInBounds_toArray, List.set_cons_zero, List.set_cons_succ]
  refine wpAnyH_done (by kernel_rfl) ?_ _
  have hst2 := hHeld
  clear hst hHeld
  have hst := hst2
  clear hst2
  go_wp2_with fail
  refine wp_region_held_drew (S := fun w' => w'.cell? ⟨w.heap.size, 0, none⟩ = some (.int .u64 a) ∧ w'.cell? ⟨w.heap.size + 1, 0, none⟩ = some (.int .u64 b) ∧ OrdS w w') (by kernel_rfl) ?_ (fun hHeld => ?_)
  · exact ord_step hst (Keeps.refl _).drew
  refine wpAnyH_take (i := 0) (oi := { dst := some 20, op := Op.load 22 (Operand.tmp 2), type := 22, pos := "law.go:70", after := #[], guard := none }) (v := ?_) rfl (by kernel_rfl) (by kernel_rfl) (by kernel_rfl) (fun _ _ _ h => h) (Or.inl ⟨by rfl, ?_⟩) (by assumption) ?_
  rotate_left
  · intro w hSw
    go_simp
    try with_reducible rfl
  try simp only [Act.put, List.setIfInBounds_toArray, List.set_cons_zero, List.set_cons_succ]
  refine wpAnyH_take (i := 2) (oi := { dst := some 22, op := Op.load 22 (Operand.tmp 3), type := 22, pos := "law.go:70", after := #[], guard := none }) (v := ?_) rfl (by kernel_rfl) (by kernel_rfl) (by kernel_rfl) (fun _ _ _ h => h) (Or.inl ⟨by rfl, ?_⟩) (by assumption) ?_
  rotate_left
  · intro w hSw
    go_simp
    try with_reducible rfl
  try simp only [Act.put, List.setIfInBounds_toArray, List.set_cons_zero, List.set_cons_succ]
  refine wpAnyH_ready (rs := [1]) (by kernel_rfl) (by simp) ?_
  refine AllReadyH.cons (o := { dst := some 21, op := Op.call { callee := Callee.value (Operand.func 23), args := #[Operand.tmp 20], argTypes := #[22] }, type := 24, pos := "law.go:70", after := #[{ on := 0, ground := Ground.data }], guard := none }) rfl (fun K hK => ?_) AllReadyH.nil
  go_simp
  go_at_call 23
  refine (groups_any a (by omega) (by omega) _).mono ?_
  rintro e wn ⟨A3, c3, rfl, hcc3, hfc3⟩
  have hx3 := hfc3.holds
  go_wp2_with fail
  refine hK.out _ _ ?_ (fun hHeld => ?_)
  · exact ord_step hHeld hfc3.2
  clear hK K
  try simp only [Act.put, List.setIfInBounds_toArray, List.set_cons_zero, List.set_cons_succ]
  refine wpAnyH_ready (rs := [3]) (by kernel_rfl) (by simp) ?_
  refine AllReadyH.cons (o := { dst := some 23, op := Op.call { callee := Callee.value (Operand.func 23), args := #[Operand.tmp 22], argTypes := #[22] }, type := 24, pos := "law.go:70", after := #[{ on := 2, ground := Ground.data }, { on := 1, ground := Ground.chain }], guard := none }) rfl (fun K hK => ?_) AllReadyH.nil
  go_simp
  go_at_call 23
  refine (groups_any b (by omega) (by omega) _).mono ?_
  rintro e wn ⟨A4, c4, rfl, hcc4, hfc4⟩
  have hx4 := hfc4.holds
  go_wp2_with fail
  refine hK.out _ _ ?_ (fun hHeld => ?_)
  · exact ord_step hHeld hfc4.2
  clear hK K
  try simp only [Act.put, List.setIfInBounds_toArray, List.set_cons_zero, List.set_cons_succ]
  replace hx3 := hx3.keeps hfc4.2
  refine wpAnyH_take (i := 4) (oi := { dst := some 7, op := Op.assign (Operand.tmp 21), type := 24, pos := "law.go:70", after := #[{ on := 1, ground := Ground.data }, { on := 3, ground := Ground.chain }, { on := 0, ground := Ground.phase }, { on := 1, ground := Ground.phase }, { on := 2, ground := Ground.textOnly Departure.lateStores }, { on := 3, ground := Ground.textOnly Departure.lateStoresUnsure }], guard := none }) (v := ?_) rfl (by kernel_rfl) (by kernel_rfl) (by kernel_rfl) (fun _ _ _ h => h) (Or.inl ⟨by rfl, ?_⟩) (by assumption) ?_
  rotate_left
  · intro w hSw
    go_simp
    try with_reducible rfl
  try simp only [Act.put, List.setIfInBounds_toArray, List.set_cons_zero, List.set_cons_succ]
  refine wpAnyH_take (i := 5) (oi := { dst := some 8, op := Op.assign (Operand.tmp 23), type := 24, pos := "law.go:70", after := #[{ on := 3, ground := Ground.data }, { on := 4, ground := Ground.chain }, { on := 0, ground := Ground.phase }, { on := 1, ground := Ground.phase }, { on := 2, ground := Ground.phase }, { on := 3, ground := Ground.phase }, { on := 4, ground := Ground.phase }], guard := none }) (v := ?_) rfl (by kernel_rfl) (by kernel_rfl) (by kernel_rfl) (fun _ _ _ h => h) (Or.inl ⟨by rfl, ?_⟩) (by assumption) ?_
  rotate_left
  · intro w hSw
    go_simp
    try with_reducible rfl
  try simp only [Act.put, List.setIfInBounds_toArray, List.set_cons_zero, List.set_cons_succ]
  refine wpAnyH_done (by kernel_rfl) ?_ _
  have hkk := ((Keeps.refl _).drew.trans hfc3.2).trans hfc4.2
  replace hx1 := hx1.keeps hkk
  replace hx2 := hx2.keeps hkk
  clear hfc1 hfc2 hfc3 hfc4 hst hkk
  go_wp2_with fail
  refine (awake02_any _).mono ?_
  rintro e w5 ⟨rfl, hk5⟩
  have hs5 := ord_step hHeld hk5
  clear hHeld
  go_wp2_with fail
  refine (less_any A1 A2 (uOct a) (uOct b) c1 c2 w.heap.size (w.heap.size + 1) a b _ (lo_range _ _) (lo_range _ _) (by omega) (by omega) (by omega) (unhide HU).1 (unhide HU).2 hs5.1 hs5.2.1 (hx1.keeps hk5) (hx2.keeps hk5) (Nat.lt_trans (Nat.lt_succ_self _) hs5.2.2.1) hs5.2.2.1).mono ?_
  rintro e w6 ⟨rfl, hk6⟩
  have hs6 := ord_step hs5 hk6
  clear hs5
  go_wp2_with fail
  refine (less_any A3 A4 (gOct a) (gOct b) c3 c4 w.heap.size (w.heap.size + 1) a b _ (gOct_bytes _ (by omega)) (gOct_bytes _ (by omega)) (by omega) (by omega) (by omega) (unhide HG).1 (unhide HG).2 hs6.1 hs6.2.1 (hx3.keeps (hk5.trans hk6)) (hx4.keeps (hk5.trans hk6)) (Nat.lt_trans (Nat.lt_succ_self _) hs6.2.2.1) hs6.2.2.1).mono ?_
  rintro e w7 ⟨rfl, hk7⟩
  go_wp2
  go_ret
  exact ⟨rfl, hs6.2.2.2.trans hk7⟩

set_option maxRecDepth 100000 in
set_option maxHeartbeats 8000000 in
theorem orderEq_any (a : Int) (h1 : 0 ≤ a) (h2 : a ≤ 18446744073709551615) (w : World) :
    Calls Try.prog 6 #[.int .u64 a, .int .u64 a] w fun e w' => e = .returned (.bool true) ∧ Keeps w w' := by
  have hu := uOct_cmp a a (by omega) (by omega) (by omega)
  have hg := gOct_cmp a a (by omega) (by omega) (by omega)
  rw [← uOct_length] at hu
  rw [← gOct_length] at hg
  have HU := hide hu
  have HG := hide hg
  have hst := ord_start w (.int .u64 a) (.int .u64 a)
  have HST := hide hst
  clear hu hg hst
  go_enter Try.func6, Try.ntmps6
  go_wp2
  go_region
  have hst := unhide HST
  clear HST
  generalize ((w.alloc (.cells #[.int .u64 a] 22)).alloc (.cells #[.int .u64 a] 22)).drew = w1 at *
  go_wp2_with fail
  refine wp_region_held_drew (S := fun w' => w'.cell? ⟨w.heap.size, 0, none⟩ = some (.int .u64 a) ∧ w'.cell? ⟨w.heap.size + 1, 0, none⟩ = some (.int .u64 a) ∧ OrdS w w') (by kernel_rfl) ?_ (fun hHeld => ?_)
  · exact ord_step hst (Keeps.refl _).drew
  refine wpAnyH_take (i := 0) (oi := { dst := some 16, op := Op.load 22 (Operand.tmp 2), type := 22, pos := "law.go:69", after := #[], guard := none }) (v := ?_) rfl (by kernel_rfl) (by kernel_rfl) (by kernel_rfl) (fun _ _ _ h => h) (Or.inl ⟨by rfl, ?_⟩) (by assumption) ?_
  rotate_left
  · intro w hSw
    go_simp
    try with_reducible rfl
  try simp only [Act.put, List.setIfInBounds_toArray, List.set_cons_zero, List.set_cons_succ]
  refine wpAnyH_take (i := 2) (oi := { dst := some 18, op := Op.load 22 (Operand.tmp 3), type := 22, pos := "law.go:69", after := #[], guard := none }) (v := ?_) rfl (by kernel_rfl) (by kernel_rfl) (by kernel_rfl) (fun _ _ _ h => h) (Or.inl ⟨by rfl, ?_⟩) (by assumption) ?_
  rotate_left
  · intro w hSw
    go_simp
    try with_reducible rfl
  try simp only [Act.put, List.setIfInBounds_toArray, List.set_cons_zero, List.set_cons_succ]
  refine wpAnyH_ready (rs := [1]) (by kernel_rfl) (by simp) ?_
  refine AllReadyH.cons (o := { dst := some 17, op := Op.call { callee := Callee.value (Operand.func 21), args := #[Operand.tmp 16], argTypes := #[22] }, type := 24, pos := "law.go:69", after := #[{ on := 0, ground := Ground.data }], guard := none }) rfl (fun K hK => ?_) AllReadyH.nil
  go_simp
  go_at_call 21
  refine (unsigned_any a (by omega) (by omega) _).mono ?_
  rintro e wn ⟨A1, c1, rfl, hcc1, hfc1⟩
  have hx1 := hfc1.holds
  go_wp2_with fail
  refine hK.out _ _ ?_ (fun hHeld => ?_)
  · exact ord_step hHeld hfc1.2
  clear hK K
  try simp only [Act.put, List.setIfInBounds_toArray, List.set_cons_zero, List.set_cons_succ]
  refine wpAnyH_ready (rs := [3]) (by kernel_rfl) (by simp) ?_
  refine AllReadyH.cons (o := { dst := some 19, op := Op.call { callee := Callee.value (Operand.func 21), args := #[Operand.tmp 18], argTypes := #[22] }, type := 24, pos := "law.go:69", after := #[{ on := 2, ground := Ground.data }, { on := 1, ground := Ground.chain }], guard := none }) rfl (fun K hK => ?_) AllReadyH.nil
  go_simp
  go_at_call 21
  refine (unsigned_any a (by omega) (by omega) _).mono ?_
  rintro e wn ⟨A2, c2, rfl, hcc2, hfc2⟩
  have hx2 := hfc2.holds
  go_wp2_with fail
  refine hK.out _ _ ?_ (fun hHeld => ?_)
  · exact ord_step hHeld hfc2.2
  clear hK K
  try simp only [Act.put, List.setIfInBounds_toArray, List.set_cons_zero, List.set_cons_succ]
  replace hx1 := hx1.keeps hfc2.2
  refine wpAnyH_take (i := 4) (oi := { dst := some 5, op := Op.assign (Operand.tmp 17), type := 24, pos := "law.go:69", after := #[{ on := 1, ground := Ground.data }, { on := 3, ground := Ground.chain }, { on := 0, ground := Ground.phase }, { on := 1, ground := Ground.phase }, { on := 2, ground := Ground.textOnly Departure.lateStores }, { on := 3, ground := Ground.textOnly Departure.lateStoresUnsure }], guard := none }) (v := ?_) rfl (by kernel_rfl) (by kernel_rfl) (by kernel_rfl) (fun _ _ _ h => h) (Or.inl ⟨by rfl, ?_⟩) (by assumption) ?_
  rotate_left
  · intro w hSw
    go_simp
    try with_reducible rfl
  try simp only [Act.put, List.setIfInBounds_toArray, List.set_cons_zero, List.set_cons_succ]
  refine wpAnyH_take (i := 5) (oi := { dst := some 6, op := Op.assign (Operand.tmp 19), type := 24, pos := "law.go:69", after := #[{ on := 3, ground := Ground.data }, { on := 4, ground := Ground.chain }, { on := 0, ground := Ground.phase }, { on := 1, ground := Ground.phase }, { on := 2, ground := Ground.phase }, { on := 3, ground := Ground.phase }, { on := 4, ground := Ground.phase }], guard := none }) (v := ?_) rfl (by kernel_rfl) (by kernel_rfl) (by kernel_rfl) (fun _ _ _ h => h) (Or.inl ⟨by rfl, ?_⟩) (by assumption) ?_
  rotate_left
  · intro w hSw
    go_simp
    try with_reducible rfl
  try simp only [Act.put, List.setIfInBounds_toArray, List.set_cons_zero, List.set_cons_succ]
  refine wpAnyH_done (by kernel_rfl) ?_ _
  have hst2 := hHeld
  clear hst hHeld
  have hst := hst2
  clear hst2
  go_wp2_with fail
  refine wp_region_held_drew (S := fun w' => w'.cell? ⟨w.heap.size, 0, none⟩ = some (.int .u64 a) ∧ w'.cell? ⟨w.heap.size + 1, 0, none⟩ = some (.int .u64 a) ∧ OrdS w w') (by kernel_rfl) ?_ (fun hHeld => ?_)
  · exact ord_step hst (Keeps.refl _).drew
  refine wpAnyH_take (i := 0) (oi := { dst := some 20, op := Op.load 22 (Operand.tmp 2), type := 22, pos := "law.go:70", after := #[], guard := none }) (v := ?_) rfl (by kernel_rfl) (by kernel_rfl) (by kernel_rfl) (fun _ _ _ h => h) (Or.inl ⟨by rfl, ?_⟩) (by assumption) ?_
  rotate_left
  · intro w hSw
    go_simp
    try with_reducible rfl
  try simp only [Act.put, List.setIfInBounds_toArray, List.set_cons_zero, List.set_cons_succ]
  refine wpAnyH_take (i := 2) (oi := { dst := some 22, op := Op.load 22 (Operand.tmp 3), type := 22, pos := "law.go:70", after := #[], guard := none }) (v := ?_) rfl (by kernel_rfl) (by kernel_rfl) (by kernel_rfl) (fun _ _ _ h => h) (Or.inl ⟨by rfl, ?_⟩) (by assumption) ?_
  rotate_left
  · intro w hSw
    go_simp
    try with_reducible rfl
  try simp only [Act.put, List.setIfInBounds_toArray, List.set_cons_zero, List.set_cons_succ]
  refine wpAnyH_ready (rs := [1]) (by kernel_rfl) (by simp) ?_
  refine AllReadyH.cons (o := { dst := some 21, op := Op.call { callee := Callee.value (Operand.func 23), args := #[Operand.tmp 20], argTypes := #[22] }, type := 24, pos := "law.go:70", after := #[{ on := 0, ground := Ground.data }], guard := none }) rfl (fun K hK => ?_) AllReadyH.nil
  go_simp
  go_at_call 23
  refine (groups_any a (by omega) (by omega) _).mono ?_
  rintro e wn ⟨A3, c3, rfl, hcc3, hfc3⟩
  have hx3 := hfc3.holds
  go_wp2_with fail
  refine hK.out _ _ ?_ (fun hHeld => ?_)
  · exact ord_step hHeld hfc3.2
  clear hK K
  try simp only [Act.put, List.setIfInBounds_toArray, List.set_cons_zero, List.set_cons_succ]
  refine wpAnyH_ready (rs := [3]) (by kernel_rfl) (by simp) ?_
  refine AllReadyH.cons (o := { dst := some 23, op := Op.call { callee := Callee.value (Operand.func 23), args := #[Operand.tmp 22], argTypes := #[22] }, type := 24, pos := "law.go:70", after := #[{ on := 2, ground := Ground.data }, { on := 1, ground := Ground.chain }], guard := none }) rfl (fun K hK => ?_) AllReadyH.nil
  go_simp
  go_at_call 23
  refine (groups_any a (by omega) (by omega) _).mono ?_
  rintro e wn ⟨A4, c4, rfl, hcc4, hfc4⟩
  have hx4 := hfc4.holds
  go_wp2_with fail
  refine hK.out _ _ ?_ (fun hHeld => ?_)
  · exact ord_step hHeld hfc4.2
  clear hK K
  try simp only [Act.put, List.setIfInBounds_toArray, List.set_cons_zero, List.set_cons_succ]
  replace hx3 := hx3.keeps hfc4.2
  refine wpAnyH_take (i := 4) (oi := { dst := some 7, op := Op.assign (Operand.tmp 21), type := 24, pos := "law.go:70", after := #[{ on := 1, ground := Ground.data }, { on := 3, ground := Ground.chain }, { on := 0, ground := Ground.phase }, { on := 1, ground := Ground.phase }, { on := 2, ground := Ground.textOnly Departure.lateStores }, { on := 3, ground := Ground.textOnly Departure.lateStoresUnsure }], guard := none }) (v := ?_) rfl (by kernel_rfl) (by kernel_rfl) (by kernel_rfl) (fun _ _ _ h => h) (Or.inl ⟨by rfl, ?_⟩) (by assumption) ?_
  rotate_left
  · intro w hSw
    go_simp
    try with_reducible rfl
  try simp only [Act.put, List.setIfInBounds_toArray, List.set_cons_zero, List.set_cons_succ]
  refine wpAnyH_take (i := 5) (oi := { dst := some 8, op := Op.assign (Operand.tmp 23), type := 24, pos := "law.go:70", after := #[{ on := 3, ground := Ground.data }, { on := 4, ground := Ground.chain }, { on := 0, ground := Ground.phase }, { on := 1, ground := Ground.phase }, { on := 2, ground := Ground.phase }, { on := 3, ground := Ground.phase }, { on := 4, ground := Ground.phase }], guard := none }) (v := ?_) rfl (by kernel_rfl) (by kernel_rfl) (by kernel_rfl) (fun _ _ _ h => h) (Or.inl ⟨by rfl, ?_⟩) (by assumption) ?_
  rotate_left
  · intro w hSw
    go_simp
    try with_reducible rfl
  try simp only [Act.put, List.setIfInBounds_toArray, List.set_cons_zero, List.set_cons_succ]
  refine wpAnyH_done (by kernel_rfl) ?_ _
  have hkk := ((Keeps.refl _).drew.trans hfc3.2).trans hfc4.2
  replace hx1 := hx1.keeps hkk
  replace hx2 := hx2.keeps hkk
  clear hfc1 hfc2 hfc3 hfc4 hst hkk
  go_wp2_with fail
  refine (awake02_any _).mono ?_
  rintro e w5 ⟨rfl, hk5⟩
  have hs5 := ord_step hHeld hk5
  clear hHeld
  go_wp2_with fail
  refine (less_any A1 A2 (uOct a) (uOct a) c1 c2 w.heap.size (w.heap.size + 1) a a _ (lo_range _ _) (lo_range _ _) (by omega) (by omega) (by omega) (unhide HU).1 (fun _ => (unhide HU).2 trivial) hs5.1 hs5.2.1 (hx1.keeps hk5) (hx2.keeps hk5) (Nat.lt_trans (Nat.lt_succ_self _) hs5.2.2.1) hs5.2.2.1).mono ?_
  rintro e w6 ⟨rfl, hk6⟩
  have hs6 := ord_step hs5 hk6
  clear hs5
  go_wp2_with fail
  refine (less_any A3 A4 (gOct a) (gOct a) c3 c4 w.heap.size (w.heap.size + 1) a a _ (gOct_bytes _ (by omega)) (gOct_bytes _ (by omega)) (by omega) (by omega) (by omega) (unhide HG).1 (fun _ => (unhide HG).2 trivial) hs6.1 hs6.2.1 (hx3.keeps (hk5.trans hk6)) (hx4.keeps (hk5.trans hk6)) (Nat.lt_trans (Nat.lt_succ_self _) hs6.2.2.1) hs6.2.2.1).mono ?_
  rintro e w7 ⟨rfl, hk7⟩
  go_wp2
  go_ret
  exact ⟨rfl, hs6.2.2.2.trans hk7⟩

set_option maxRecDepth 100000 in
set_option maxHeartbeats 8000000 in
theorem orderGt_any (a b : Int) (h1 : 0 ≤ a) (h2 : b ≤ 18446744073709551615) (hab : a < b) (w : World) :
    Calls Try.prog 6 #[.int .u64 b, .int .u64 a] w fun e w' => e = .returned (.bool true) ∧ Keeps w w' := by
  have hu := uOct_cmp a b (by omega) (by omega) (by omega)
  have hg := gOct_cmp a b (by omega) (by omega) (by omega)
  rw [← uOct_length, ← uOct_length] at hu
  rw [← gOct_length, ← gOct_length] at hg
  have HU := hide hu
  have HG := hide hg
  have hst := ord_start w (.int .u64 a) (.int .u64 b)
  have HST := hide hst
  clear hu hg hst
  have n1 : ¬ (b < a) := by omega
  go_enter Try.func6, Try.ntmps6
  go_wp2
  go_region
  have hst := unhide HST
  clear HST
  generalize ((w.alloc (.cells #[.int .u64 a] 22)).alloc (.cells #[.int .u64 b] 22)).drew = w1 at *
  go_wp2_with fail
  refine wp_region_held_drew (S := fun w' => w'.cell? ⟨w.heap.size, 0, none⟩ = some (.int .u64 a) ∧ w'.cell? ⟨w.heap.size + 1, 0, none⟩ = some (.int .u64 b) ∧ OrdS w w') (by kernel_rfl) ?_ (fun hHeld => ?_)
  · exact ord_step hst (Keeps.refl _).drew
  refine wpAnyH_take (i := 0) (oi := { dst := some 16, op := Op.load 22 (Operand.tmp 2), type := 22, pos := "law.go:69", after := #[], guard := none }) (v := ?_) rfl (by kernel_rfl) (by kernel_rfl) (by kernel_rfl) (fun _ _ _ h => h) (Or.inl ⟨by rfl, ?_⟩) (by assumption) ?_
  rotate_left
  · intro w hSw
    go_simp
    try with_reducible rfl
  try simp only [Act.put, List.setIfInBounds_toArray, List.set_cons_zero, List.set_cons_succ]
  refine wpAnyH_take (i := 2) (oi := { dst := some 18, op := Op.load 22 (Operand.tmp 3), type := 22, pos := "law.go:69", after := #[], guard := none }) (v := ?_) rfl (by kernel_rfl) (by kernel_rfl) (by kernel_rfl) (fun _ _ _ h => h) (Or.inl ⟨by rfl, ?_⟩) (by assumption) ?_
  rotate_left
  · intro w hSw
    go_simp
    try with_reducible rfl
  try simp only [Act.put, List.setIfInBounds_toArray, List.set_cons_zero, List.set_cons_succ]
  refine wpAnyH_ready (rs := [1]) (by kernel_rfl) (by simp) ?_
  refine AllReadyH.cons (o := { dst := some 17, op := Op.call { callee := Callee.value (Operand.func 21), args := #[Operand.tmp 16], argTypes := #[22] }, type := 24, pos := "law.go:69", after := #[{ on := 0, ground := Ground.data }], guard := none }) rfl (fun K hK => ?_) AllReadyH.nil
  go_simp
  go_at_call 21
  refine (unsigned_any a (by omega) (by omega) _).mono ?_
  rintro e wn ⟨A1, c1, rfl, hcc1, hfc1⟩
  have hx1 := hfc1.holds
  go_wp2_with fail
  refine hK.out _ _ ?_ (fun hHeld => ?_)
  · exact ord_step hHeld hfc1.2
  clear hK K
  try simp only [Act.put, List.setIfInBounds_toArray, List.set_cons_zero, List.set_cons_succ]
  refine wpAnyH_ready (rs := [3]) (by kernel_rfl) (by simp) ?_
  refine AllReadyH.cons (o := { dst := some 19, op := Op.call { callee := Callee.value (Operand.func 21), args := #[Operand.tmp 18], argTypes := #[22] }, type := 24, pos := "law.go:69", after := #[{ on := 2, ground := Ground.data }, { on := 1, ground := Ground.chain }], guard := none }) rfl (fun K hK => ?_) AllReadyH.nil
  go_simp
  go_at_call 21
  refine (unsigned_any b (by omega) (by omega) _).mono ?_
  rintro e wn ⟨A2, c2, rfl, hcc2, hfc2⟩
  have hx2 := hfc2.holds
  go_wp2_with fail
  refine hK.out _ _ ?_ (fun hHeld => ?_)
  · exact ord_step hHeld hfc2.2
  clear hK K
  try simp only [Act.put, List.setIfInBounds_toArray, List.set_cons_zero, List.set_cons_succ]
  replace hx1 := hx1.keeps hfc2.2
  refine wpAnyH_take (i := 4) (oi := { dst := some 5, op := Op.assign (Operand.tmp 17), type := 24, pos := "law.go:69", after := #[{ on := 1, ground := Ground.data }, { on := 3, ground := Ground.chain }, { on := 0, ground := Ground.phase }, { on := 1, ground := Ground.phase }, { on := 2, ground := Ground.textOnly Departure.lateStores }, { on := 3, ground := Ground.textOnly Departure.lateStoresUnsure }], guard := none }) (v := ?_) rfl (by kernel_rfl) (by kernel_rfl) (by kernel_rfl) (fun _ _ _ h => h) (Or.inl ⟨by rfl, ?_⟩) (by assumption) ?_
  rotate_left
  · intro w hSw
    go_simp
    try with_reducible rfl
  try simp only [Act.put, List.setIfInBounds_toArray, List.set_cons_zero, List.set_cons_succ]
  refine wpAnyH_take (i := 5) (oi := { dst := some 6, op := Op.assign (Operand.tmp 19), type := 24, pos := "law.go:69", after := #[{ on := 3, ground := Ground.data }, { on := 4, ground := Ground.chain }, { on := 0, ground := Ground.phase }, { on := 1, ground := Ground.phase }, { on := 2, ground := Ground.phase }, { on := 3, ground := Ground.phase }, { on := 4, ground := Ground.phase }], guard := none }) (v := ?_) rfl (by kernel_rfl) (by kernel_rfl) (by kernel_rfl) (fun _ _ _ h => h) (Or.inl ⟨by rfl, ?_⟩) (by assumption) ?_
  rotate_left
  · intro w hSw
    go_simp
    try with_reducible rfl
  try simp only [Act.put, List.setIfInBounds_toArray, List.set_cons_zero, List.set_cons_succ]
  refine wpAnyH_done (by kernel_rfl) ?_ _
  have hst2 := hHeld
  clear hst hHeld
  have hst := hst2
  clear hst2
  go_wp2_with fail
  refine wp_region_held_drew (S := fun w' => w'.cell? ⟨w.heap.size, 0, none⟩ = some (.int .u64 a) ∧ w'.cell? ⟨w.heap.size + 1, 0, none⟩ = some (.int .u64 b) ∧ OrdS w w') (by kernel_rfl) ?_ (fun hHeld => ?_)
  · exact ord_step hst (Keeps.refl _).drew
  refine wpAnyH_take (i := 0) (oi := { dst := some 20, op := Op.load 22 (Operand.tmp 2), type := 22, pos := "law.go:70", after := #[], guard := none }) (v := ?_) rfl (by kernel_rfl) (by kernel_rfl) (by kernel_rfl) (fun _ _ _ h => h) (Or.inl ⟨by rfl, ?_⟩) (by assumption) ?_
  rotate_left
  · intro w hSw
    go_simp
    try with_reducible rfl
  try simp only [Act.put, List.setIfInBounds_toArray, List.set_cons_zero, List.set_cons_succ]
  refine wpAnyH_take (i := 2) (oi := { dst := some 22, op := Op.load 22 (Operand.tmp 3), type := 22, pos := "law.go:70", after := #[], guard := none }) (v := ?_) rfl (by kernel_rfl) (by kernel_rfl) (by kernel_rfl) (fun _ _ _ h => h) (Or.inl ⟨by rfl, ?_⟩) (by assumption) ?_
  rotate_left
  · intro w hSw
    go_simp
    try with_reducible rfl
  try simp only [Act.put, List.setIfInBounds_toArray, List.set_cons_zero, List.set_cons_succ]
  refine wpAnyH_ready (rs := [1]) (by kernel_rfl) (by simp) ?_
  refine AllReadyH.cons (o := { dst := some 21, op := Op.call { callee := Callee.value (Operand.func 23), args := #[Operand.tmp 20], argTypes := #[22] }, type := 24, pos := "law.go:70", after := #[{ on := 0, ground := Ground.data }], guard := none }) rfl (fun K hK => ?_) AllReadyH.nil
  go_simp
  go_at_call 23
  refine (groups_any a (by omega) (by omega) _).mono ?_
  rintro e wn ⟨A3, c3, rfl, hcc3, hfc3⟩
  have hx3 := hfc3.holds
  go_wp2_with fail
  refine hK.out _ _ ?_ (fun hHeld => ?_)
  · exact ord_step hHeld hfc3.2
  clear hK K
  try simp only [Act.put, List.setIfInBounds_toArray, List.set_cons_zero, List.set_cons_succ]
  refine wpAnyH_ready (rs := [3]) (by kernel_rfl) (by simp) ?_
  refine AllReadyH.cons (o := { dst := some 23, op := Op.call { callee := Callee.value (Operand.func 23), args := #[Operand.tmp 22], argTypes := #[22] }, type := 24, pos := "law.go:70", after := #[{ on := 2, ground := Ground.data }, { on := 1, ground := Ground.chain }], guard := none }) rfl (fun K hK => ?_) AllReadyH.nil
  go_simp
  go_at_call 23
  refine (groups_any b (by omega) (by omega) _).mono ?_
  rintro e wn ⟨A4, c4, rfl, hcc4, hfc4⟩
  have hx4 := hfc4.holds
  go_wp2_with fail
  refine hK.out _ _ ?_ (fun hHeld => ?_)
  · exact ord_step hHeld hfc4.2
  clear hK K
  try simp only [Act.put, List.setIfInBounds_toArray, List.set_cons_zero, List.set_cons_succ]
  replace hx3 := hx3.keeps hfc4.2
  refine wpAnyH_take (i := 4) (oi := { dst := some 7, op := Op.assign (Operand.tmp 21), type := 24, pos := "law.go:70", after := #[{ on := 1, ground := Ground.data }, { on := 3, ground := Ground.chain }, { on := 0, ground := Ground.phase }, { on := 1, ground := Ground.phase }, { on := 2, ground := Ground.textOnly Departure.lateStores }, { on := 3, ground := Ground.textOnly Departure.lateStoresUnsure }], guard := none }) (v := ?_) rfl (by kernel_rfl) (by kernel_rfl) (by kernel_rfl) (fun _ _ _ h => h) (Or.inl ⟨by rfl, ?_⟩) (by assumption) ?_
  rotate_left
  · intro w hSw
    go_simp
    try with_reducible rfl
  try simp only [Act.put, List.setIfInBounds_toArray, List.set_cons_zero, List.set_cons_succ]
  refine wpAnyH_take (i := 5) (oi := { dst := some 8, op := Op.assign (Operand.tmp 23), type := 24, pos := "law.go:70", after := #[{ on := 3, ground := Ground.data }, { on := 4, ground := Ground.chain }, { on := 0, ground := Ground.phase }, { on := 1, ground := Ground.phase }, { on := 2, ground := Ground.phase }, { on := 3, ground := Ground.phase }, { on := 4, ground := Ground.phase }], guard := none }) (v := ?_) rfl (by kernel_rfl) (by kernel_rfl) (by kernel_rfl) (fun _ _ _ h => h) (Or.inl ⟨by rfl, ?_⟩) (by assumption) ?_
  rotate_left
  · intro w hSw
    go_simp
    try with_reducible rfl
  try simp only [Act.put, List.setIfInBounds_toArray, List.set_cons_zero, List.set_cons_succ]
  refine wpAnyH_done (by kernel_rfl) ?_ _
  have hkk := ((Keeps.refl _).drew.trans hfc3.2).trans hfc4.2
  replace hx1 := hx1.keeps hkk
  replace hx2 := hx2.keeps hkk
  clear hfc1 hfc2 hfc3 hfc4 hst hkk
  go_wp2_with fail
  refine (awake02_any _).mono ?_
  rintro e w5 ⟨rfl, hk5⟩
  have hs5 := ord_step hHeld hk5
  clear hHeld
  go_wp2_with fail
  refine (less_any A1 A2 (uOct a) (uOct b) c1 c2 w.heap.size (w.heap.size + 1) a b _ (lo_range _ _) (lo_range _ _) (by omega) (by omega) (by omega) (unhide HU).1 (unhide HU).2 hs5.1 hs5.2.1 (hx1.keeps hk5) (hx2.keeps hk5) (Nat.lt_trans (Nat.lt_succ_self _) hs5.2.2.1) hs5.2.2.1).mono ?_
  rintro e w6 ⟨rfl, hk6⟩
  have hs6 := ord_step hs5 hk6
  clear hs5
  go_wp2_with fail
  refine (less_any A3 A4 (gOct a) (gOct b) c3 c4 w.heap.size (w.heap.size + 1) a b _ (gOct_bytes _ (by omega)) (gOct_bytes _ (by omega)) (by omega) (by omega) (by omega) (unhide HG).1 (unhide HG).2 hs6.1 hs6.2.1 (hx3.keeps (hk5.trans hk6)) (hx4.keeps (hk5.trans hk6)) (Nat.lt_trans (Nat.lt_succ_self _) hs6.2.2.1) hs6.2.2.1).mono ?_
  rintro e w7 ⟨rfl, hk7⟩
  go_wp2
  go_ret
  exact ⟨rfl, hs6.2.2.2.trans hk7⟩

theorem order_any (a b : Int) (h1 : 0 ≤ a) (h2 : a ≤ 18446744073709551615) (h3 : 0 ≤ b) (h4 : b ≤ 18446744073709551615) (w : World) :
    Calls Try.prog 6 #[.int .u64 a, .int .u64 b] w fun e w' => e = .returned (.bool true) ∧ Keeps w w' := by
  rcases Int.lt_trichotomy a b with h | h | h
  · exact orderLt_any a b h1 h4 h w
  · subst h; exact orderEq_any a h1 h2 w
  · exact orderGt_any b a h3 h2 h w

end Go.Proofs.Ytpogpjnbgdbpfaa
