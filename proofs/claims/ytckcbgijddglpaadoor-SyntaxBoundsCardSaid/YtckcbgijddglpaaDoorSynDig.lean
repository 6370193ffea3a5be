/- The help's Digits and Number. -/
import Derived.Test.YtckcbgijddglpaaDoorSynQ
import Derived.Test.YtckcbgijddglpaaDoorStr
import Derived.Deep.RegionHeld3
import Derived.Laws.BytesArg
import Derived.Laws.BytesString
namespace Go.Proofs.YtckcbgijddglpaaDoor
open Go.ChangeShapes Go.WideShapes Go.ChangeAt Go.RowKit Go.PlainAid
set_option linter.unusedVariables false
set_option linter.unusedSimpArgs false

theorem mod_nat (n : Int) (k : Nat) (hk : 0 < k) (hk2 : k ≤ 100) : ∃ m : Nat, m < k ∧ wrap64 ((IntKind.u64.wrap n).tmod (k : Int)) = (m : Int) := by
  have h0 : 0 ≤ IntKind.u64.wrap n := by rw [IntKind.wrap_u64]; omega
  obtain ⟨x, hx⟩ := Int.eq_ofNat_of_zero_le h0
  rw [hx]
  have e : ((x : Int)).tmod (k : Int) = ((x % k : Nat) : Int) := by rw [Int.tmod_eq_emod_of_nonneg (by omega)]; rfl
  have hl := Nat.mod_lt x hk
  refine ⟨x % k, hl, ?_⟩
  rw [e]
  generalize x % k = y at *
  unfold wrap64
  omega
theorem one_byte (w : World) (c : Int) : (convert 57 9 (.slice (some ⟨w.heap.size, 0, none⟩) 1 1)).run Tryd.prog (w.alloc (.cells #[.int .u8 c] 5)) = .ok (.string (strOfNums [c])) (w.alloc (.cells #[.int .u8 c] 5)) := by
  refine run_convert_bytes_arg _ _ _ Tryd.underlying57 Tryd.underlying5 _ 0 _ 1 [c] rfl (fun i hi => ?_) _ Tryd.underlying9
  have hb := Blk.new w 5 #[.int .u8 c]
  have : i = 0 := by simpa using hi
  subst this
  exact hb.cell 0
theorem one_byteK {w w1 : World} {c : Int} (hk : Keeps (w.alloc (.cells #[.int .u8 c] 5)) w1) : (convert 57 9 (.slice (some ⟨w.heap.size, 0, none⟩) 1 1)).run Tryd.prog w1 = .ok (.string (strOfNums [c])) w1 := by
  refine run_convert_bytes_arg _ _ _ Tryd.underlying57 Tryd.underlying5 _ 0 _ 1 [c] rfl (fun i hi => ?_) _ Tryd.underlying9
  have hb := (Blk.new w 5 #[.int .u8 c]).keeps hk
  have : i = 0 := by simpa using hi
  subst this
  simpa using hb.cell 0
theorem wrap_u8_ (n : Int) : IntKind.u8.wrap n = n % 256 := by simp [IntKind.wrap, IntKind.bits, IntKind.signed]
theorem strOne (c : Nat) : strOfNums [((48 : Int) + (c : Int))] = ⟨#[UInt8.ofNat (48 + c)]⟩ := by
  apply ba_ext
  rw [strOfNums_data]
  show [UInt8.ofNat ((48 : Int) + (c : Int)).toNat] = [UInt8.ofNat (48 + c)]
  rw [show ((48 : Int) + (c : Int)).toNat = 48 + c by omega]

set_option maxRecDepth 100000 in
set_option maxHeartbeats 8000000 in
theorem digits_any : ∀ (n v : Nat), v ≤ n → v < 18446744073709551616 → ∀ (w : World), Calls Tryd.prog 11 #[.int .u64 (v : Nat)] w fun e w' => e = .returned (.string (decB v)) ∧ Keeps w w'
  | n, v, hv, hmax, w => by
    by_cases h10 : v < 10
    · have hD := hide (decB_small h10)
      have hI : (v : Int) < 10 := by omega
      have h0 : (0 : Int) ≤ (v : Int) := by omega
      have hcv := one_byte w ((48 : Int) + (v : Int))
      go_enter Tryd.func11, Tryd.ntmps11
      go_wp2
      go_ret
      exact ⟨by rw [unhide hD]; exact congrArg (fun x => Ending.returned (.string x)) (strOne v), (Keeps.refl _).alloc _⟩
    · cases n with
      | zero => omega
      | succ n =>
        have hD := hide (decB_step h10 (Nat.lt_of_lt_of_le hmax (by decide)))
        have hI : ¬ (v : Int) < 10 := by omega
        have h0 : (0 : Int) ≤ (v : Int) := by omega
        have hq : (v : Int) / 10 = ((v / 10 : Nat) : Int) := by omega
        have HC := hide (fun w => (show Calls Tryd.prog 11 #[.int .u64 (IntKind.u64.wrap ((v : Int) / 10))] w fun e w' => e = .returned (.string (decB (v / 10))) ∧ Keeps w w' by rw [show IntKind.u64.wrap ((v : Int) / 10) = ((v / 10 : Nat) : Int) by rw [IntKind.wrap_u64]; omega]; exact digits_any n (v / 10) (by omega) (by omega) w))
        have HR := hide (show strOfNums [(IntKind.u8.wrap (IntKind.u64.wrap ((48 : Int) + (v : Int).tmod 10)))] = ⟨#[UInt8.ofNat (48 + v % 10)]⟩ by
          have ht : (v : Int).tmod 10 = ((v % 10 : Nat) : Int) := by rw [Int.tmod_eq_emod_of_nonneg (by omega)]; omega
          have := strOne (v % 10)
          rwa [show (IntKind.u8.wrap (IntKind.u64.wrap ((48 : Int) + (v : Int).tmod 10))) = (48 : Int) + ((v % 10 : Nat) : Int) by rw [ht]; have h2 : v % 10 < 10 := Nat.mod_lt _ (by omega); generalize v % 10 = r at *; rw [IntKind.wrap_u64, wrap_u8_]; omega])
        have hsum : ¬ (9223372036854775807 < (decB (v / 10)).size + (strOfNums [(IntKind.u8.wrap (IntKind.u64.wrap ((48 : Int) + (v : Int).tmod 10)))]).size) := by
          have h1 : (strOfNums [(IntKind.u8.wrap (IntKind.u64.wrap ((48 : Int) + (v : Int).tmod 10)))]).size = 1 := by rw [unhide HR]; rfl
          have h2 : (decB (v / 10)).size ≤ 20 := by rw [Lib.size_eq]; exact dec_len 19 _
          omega
        clear hq
        go_enter Tryd.func11, Tryd.ntmps11
        go_wp2
        refine wp_region_held_drew (S := fun _ => True) (by kernel_rfl) trivial (fun hHeld => ?_)
        refine wpAnyH_take (i := 0) (oi := { dst := some 10, op := Op.move (Operand.tmp 0), type := 45, pos := "same.go:114", after := #[], guard := none }) (v := ?_) rfl (by kernel_rfl) (by kernel_rfl) (by kernel_rfl) (fun _ _ _ h => h) (Or.inl ⟨by rfl, ?_⟩) (by assumption) ?_
        rotate_left
        · intro w hSw
          go_simp
          try with_reducible rfl
        try simp only [Act.put, List.setIfInBounds_toArray, List.set_cons_zero, List.set_cons_succ]
        refine wpAnyH_take (i := 1) (oi := { dst := some 11, op := Op.binOp BinOp.quo 45 (Operand.tmp 10) (Operand.const (Value.int IntKind.u64 10)) 45, type := 45, pos := "same.go:114", after := #[{ on := 0, ground := Ground.data }], guard := none }) (v := ?_) rfl (by kernel_rfl) (by kernel_rfl) (by kernel_rfl) (fun _ _ _ h => h) (Or.inl ⟨by rfl, ?_⟩) (by assumption) ?_
        rotate_left
        · intro w hSw
          go_simp
          try with_reducible rfl
        try simp only [Act.put, List.setIfInBounds_toArray, List.set_cons_zero, List.set_cons_succ]
        refine wpAnyH_take (i := 3) (oi := { dst := some 13, op := Op.move (Operand.tmp 0), type := 45, pos := "same.go:114", after := #[], guard := none }) (v := ?_) rfl (by kernel_rfl) (by kernel_rfl) (by kernel_rfl) (fun _ _ _ h => h) (Or.inl ⟨by rfl, ?_⟩) (by assumption) ?_
        rotate_left
        · intro w hSw
          go_simp
          try with_reducible rfl
        try simp only [Act.put, List.setIfInBounds_toArray, List.set_cons_zero, List.set_cons_succ]
        refine wpAnyH_take (i := 4) (oi := { dst := some 14, op := Op.binOp BinOp.rem 45 (Operand.tmp 13) (Operand.const (Value.int IntKind.u64 10)) 45, type := 45, pos := "same.go:114", after := #[{ on := 3, ground := Ground.data }], guard := none }) (v := ?_) rfl (by kernel_rfl) (by kernel_rfl) (by kernel_rfl) (fun _ _ _ h => h) (Or.inl ⟨by rfl, ?_⟩) (by assumption) ?_
        rotate_left
        · intro w hSw
          go_simp
          try with_reducible rfl
        try simp only [Act.put, List.setIfInBounds_toArray, List.set_cons_zero, List.set_cons_succ]
        refine wpAnyH_take (i := 5) (oi := { dst := some 15, op := Op.binOp BinOp.add 45 (Operand.const (Value.int IntKind.u64 48)) (Operand.tmp 14) 45, type := 45, pos := "same.go:114", after := #[{ on := 4, ground := Ground.data }], guard := none }) (v := ?_) rfl (by kernel_rfl) (by kernel_rfl) (by kernel_rfl) (fun _ _ _ h => h) (Or.inl ⟨by rfl, ?_⟩) (by assumption) ?_
        rotate_left
        · intro w hSw
          go_simp
          try with_reducible rfl
        try simp only [Act.put, List.setIfInBounds_toArray, List.set_cons_zero, List.set_cons_succ]
        refine wpAnyH_take (i := 6) (oi := { dst := some 16, op := Op.convert 45 5 (Operand.tmp 15), type := 5, pos := "same.go:114", after := #[{ on := 5, ground := Ground.data }], guard := none }) (v := ?_) rfl (by kernel_rfl) (by kernel_rfl) (by kernel_rfl) (fun _ _ _ h => h) (Or.inl ⟨by rfl, ?_⟩) (by assumption) ?_
        rotate_left
        · intro w hSw
          go_simp
          try with_reducible rfl
        try simp only [Act.put, List.setIfInBounds_toArray, List.set_cons_zero, List.set_cons_succ]
        refine wpAnyH_ready (rs := [2, 7]) (by kernel_rfl) (by simp) ?_
        refine AllReadyH.cons (o := { dst := some 12, op := Op.call { callee := Callee.value (Operand.func 11), args := #[Operand.tmp 11], argTypes := #[45] }, type := 9, pos := "same.go:114", after := #[{ on := 1, ground := Ground.data }], guard := none }) rfl (fun K hK => ?_) (AllReadyH.cons (o := { dst := some 17, op := Op.buildSlice 57 1 #[(0, Operand.tmp 16)], type := 57, pos := "same.go:114", after := #[{ on := 6, ground := Ground.data }], guard := none }) rfl (fun K hK => ?_) AllReadyH.nil)
        · go_simp
          go_at_call 11
          with_reducible refine (unhide HC w.drew).mono ?_
          rintro e w1 ⟨rfl, hk1⟩
          have HK1 := hide hk1
          clear hk1
          go_wp2_with fail
          refine hK.out _ _ trivial (fun hHeld => ?_)
          clear hK K hHeld
          try simp only [Act.put, List.setIfInBounds_toArray, List.set_cons_zero, List.set_cons_succ]
          refine wpAnyH_ready (rs := [7]) (by kernel_rfl) (by simp) ?_
          refine AllReadyH.cons (o := { dst := some 17, op := Op.buildSlice 57 1 #[(0, Operand.tmp 16)], type := 57, pos := "same.go:114", after := #[{ on := 6, ground := Ground.data }], guard := none }) rfl (fun K hK => ?_) AllReadyH.nil
          go_simp
          refine hK.out _ _ trivial (fun hHeld => ?_)
          clear hK K hHeld
          try simp only [Act.put, List.setIfInBounds_toArray, List.set_cons_zero, List.set_cons_succ]
          have hcv := one_byte w1 (IntKind.u8.wrap (IntKind.u64.wrap ((48 : Int) + (v : Int).tmod 10)))
          refine wpAnyH_ready (rs := [8]) (by kernel_rfl) (by simp) ?_
          refine AllReadyH.cons (o := { dst := some 18, op := Op.convert 57 9 (Operand.tmp 17), type := 9, pos := "same.go:114", after := #[{ on := 7, ground := Ground.data }], guard := none }) rfl (fun K hK => ?_) AllReadyH.nil
          go_simp
          refine hK.out _ _ trivial (fun hHeld => ?_)
          clear hK K hHeld
          try simp only [Act.put, List.setIfInBounds_toArray, List.set_cons_zero, List.set_cons_succ]
          refine wpAnyH_take (i := 9) (oi := { dst := some 19, op := Op.binOp BinOp.add 9 (Operand.tmp 12) (Operand.tmp 18) 9, type := 9, pos := "same.go:114", after := #[{ on := 2, ground := Ground.data }, { on := 8, ground := Ground.data }], guard := none }) (v := ?_) rfl (by kernel_rfl) (by kernel_rfl) (by kernel_rfl) (fun _ _ _ h => h) (Or.inl ⟨by rfl, ?_⟩) (by assumption) ?_
          rotate_left
          · intro w hSw
            go_simp
            try with_reducible rfl
          try simp only [Act.put, List.setIfInBounds_toArray, List.set_cons_zero, List.set_cons_succ]
          refine wpAnyH_take (i := 10) (oi := { dst := some 2, op := Op.assign (Operand.tmp 19), type := 9, pos := "same.go:114", after := #[{ on := 9, ground := Ground.data }, { on := 2, ground := Ground.chain }, { on := 0, ground := Ground.phase }, { on := 1, ground := Ground.phase }, { on := 2, ground := Ground.phase }, { on := 3, ground := Ground.phase }, { on := 4, ground := Ground.phase }, { on := 5, ground := Ground.phase }, { on := 6, ground := Ground.phase }, { on := 7, ground := Ground.phase }, { on := 8, ground := Ground.phase }, { on := 9, ground := Ground.phase }], guard := none }) (v := ?_) rfl (by kernel_rfl) (by kernel_rfl) (by kernel_rfl) (fun _ _ _ h => h) (Or.inl ⟨by rfl, ?_⟩) (by assumption) ?_
          rotate_left
          · intro w hSw
            go_simp
            try with_reducible rfl
          try simp only [Act.put, List.setIfInBounds_toArray, List.set_cons_zero, List.set_cons_succ]
          refine wpAnyH_done (by kernel_rfl) ?_ _
          go_wp2
          go_ret
          refine ⟨by rw [unhide hD, ← unhide HR]; rfl, ?_⟩
          exact ((Keeps.refl w).drew.trans (unhide HK1)).alloc _
        · go_simp
          refine hK.out _ _ trivial (fun hHeld => ?_)
          clear hK K hHeld
          try simp only [Act.put, List.setIfInBounds_toArray, List.set_cons_zero, List.set_cons_succ]
          have hcv := one_byteK (w := w) (c := (IntKind.u8.wrap (IntKind.u64.wrap ((48 : Int) + (v : Int).tmod 10)))) ((Keeps.refl _).drew)
          refine wpAnyH_ready (rs := [2, 8]) (by kernel_rfl) (by simp) ?_
          refine AllReadyH.cons (o := { dst := some 12, op := Op.call { callee := Callee.value (Operand.func 11), args := #[Operand.tmp 11], argTypes := #[45] }, type := 9, pos := "same.go:114", after := #[{ on := 1, ground := Ground.data }], guard := none }) rfl (fun K hK => ?_) (AllReadyH.cons (o := { dst := some 18, op := Op.convert 57 9 (Operand.tmp 17), type := 9, pos := "same.go:114", after := #[{ on := 7, ground := Ground.data }], guard := none }) rfl (fun K hK => ?_) AllReadyH.nil)
          · go_simp
            go_at_call 11
            with_reducible refine (unhide HC (w.alloc (.cells #[.int .u8 (IntKind.u8.wrap (IntKind.u64.wrap ((48 : Int) + (v : Int).tmod 10)))] 5)).drew).mono ?_
            rintro e w1 ⟨rfl, hk1⟩
            have HK1 := hide hk1
            clear hk1
            go_wp2_with fail
            refine hK.out _ _ trivial (fun hHeld => ?_)
            clear hK K hHeld
            try simp only [Act.put, List.setIfInBounds_toArray, List.set_cons_zero, List.set_cons_succ]
            have hcv1 := one_byteK (((Keeps.refl _).drew).trans (unhide HK1))
            refine wpAnyH_ready (rs := [8]) (by kernel_rfl) (by simp) ?_
            refine AllReadyH.cons (o := { dst := some 18, op := Op.convert 57 9 (Operand.tmp 17), type := 9, pos := "same.go:114", after := #[{ on := 7, ground := Ground.data }], guard := none }) rfl (fun K hK => ?_) AllReadyH.nil
            go_simp
            refine hK.out _ _ trivial (fun hHeld => ?_)
            clear hK K hHeld
            try simp only [Act.put, List.setIfInBounds_toArray, List.set_cons_zero, List.set_cons_succ]
            refine wpAnyH_take (i := 9) (oi := { dst := some 19, op := Op.binOp BinOp.add 9 (Operand.tmp 12) (Operand.tmp 18) 9, type := 9, pos := "same.go:114", after := #[{ on := 2, ground := Ground.data }, { on := 8, ground := Ground.data }], guard := none }) (v := ?_) rfl (by kernel_rfl) (by kernel_rfl) (by kernel_rfl) (fun _ _ _ h => h) (Or.inl ⟨by rfl, ?_⟩) (by assumption) ?_
            rotate_left
            · intro w hSw
              go_simp
              try with_reducible rfl
            try simp only [Act.put, List.setIfInBounds_toArray, List.set_cons_zero, List.set_cons_succ]
            refine wpAnyH_take (i := 10) (oi := { dst := some 2, op := Op.assign (Operand.tmp 19), type := 9, pos := "same.go:114", after := #[{ on := 9, ground := Ground.data }, { on := 2, ground := Ground.chain }, { on := 0, ground := Ground.phase }, { on := 1, ground := Ground.phase }, { on := 2, ground := Ground.phase }, { on := 3, ground := Ground.phase }, { on := 4, ground := Ground.phase }, { on := 5, ground := Ground.phase }, { on := 6, ground := Ground.phase }, { on := 7, ground := Ground.phase }, { on := 8, ground := Ground.phase }, { on := 9, ground := Ground.phase }], guard := none }) (v := ?_) rfl (by kernel_rfl) (by kernel_rfl) (by kernel_rfl) (fun _ _ _ h => h) (Or.inl ⟨by rfl, ?_⟩) (by assumption) ?_
            rotate_left
            · intro w hSw
              go_simp
              try with_reducible rfl
            try simp only [Act.put, List.setIfInBounds_toArray, List.set_cons_zero, List.set_cons_succ]
            refine wpAnyH_done (by kernel_rfl) ?_ _
            go_wp2
            go_ret
            refine ⟨by rw [unhide hD, ← unhide HR]; rfl, ?_⟩
            exact (((Keeps.refl w).alloc _).drew).trans (unhide HK1)
          · go_simp
            refine hK.out _ _ trivial (fun hHeld => ?_)
            clear hK K hHeld
            try simp only [Act.put, List.setIfInBounds_toArray, List.set_cons_zero, List.set_cons_succ]
            refine wpAnyH_ready (rs := [2]) (by kernel_rfl) (by simp) ?_
            refine AllReadyH.cons (o := { dst := some 12, op := Op.call { callee := Callee.value (Operand.func 11), args := #[Operand.tmp 11], argTypes := #[45] }, type := 9, pos := "same.go:114", after := #[{ on := 1, ground := Ground.data }], guard := none }) rfl (fun K hK => ?_) AllReadyH.nil
            go_simp
            go_at_call 11
            with_reducible refine (unhide HC (w.alloc (.cells #[.int .u8 (IntKind.u8.wrap (IntKind.u64.wrap ((48 : Int) + (v : Int).tmod 10)))] 5)).drew).mono ?_
            rintro e w1 ⟨rfl, hk1⟩
            have HK1 := hide hk1
            clear hk1
            go_wp2_with fail
            refine hK.out _ _ trivial (fun hHeld => ?_)
            clear hK K hHeld
            try simp only [Act.put, List.setIfInBounds_toArray, List.set_cons_zero, List.set_cons_succ]
            refine wpAnyH_take (i := 9) (oi := { dst := some 19, op := Op.binOp BinOp.add 9 (Operand.tmp 12) (Operand.tmp 18) 9, type := 9, pos := "same.go:114", after := #[{ on := 2, ground := Ground.data }, { on := 8, ground := Ground.data }], guard := none }) (v := ?_) rfl (by kernel_rfl) (by kernel_rfl) (by kernel_rfl) (fun _ _ _ h => h) (Or.inl ⟨by rfl, ?_⟩) (by assumption) ?_
            rotate_left
            · intro w hSw
              go_simp
              try with_reducible rfl
            try simp only [Act.put, List.setIfInBounds_toArray, List.set_cons_zero, List.set_cons_succ]
            refine wpAnyH_take (i := 10) (oi := { dst := some 2, op := Op.assign (Operand.tmp 19), type := 9, pos := "same.go:114", after := #[{ on := 9, ground := Ground.data }, { on := 2, ground := Ground.chain }, { on := 0, ground := Ground.phase }, { on := 1, ground := Ground.phase }, { on := 2, ground := Ground.phase }, { on := 3, ground := Ground.phase }, { on := 4, ground := Ground.phase }, { on := 5, ground := Ground.phase }, { on := 6, ground := Ground.phase }, { on := 7, ground := Ground.phase }, { on := 8, ground := Ground.phase }, { on := 9, ground := Ground.phase }], guard := none }) (v := ?_) rfl (by kernel_rfl) (by kernel_rfl) (by kernel_rfl) (fun _ _ _ h => h) (Or.inl ⟨by rfl, ?_⟩) (by assumption) ?_
            rotate_left
            · intro w hSw
              go_simp
              try with_reducible rfl
            try simp only [Act.put, List.setIfInBounds_toArray, List.set_cons_zero, List.set_cons_succ]
            refine wpAnyH_done (by kernel_rfl) ?_ _
            go_wp2
            go_ret
            refine ⟨by rw [unhide hD, ← unhide HR]; rfl, ?_⟩
            exact (((Keeps.refl w).alloc _).drew).trans (unhide HK1)
theorem number_help (v : Int) (h0 : -9223372036854775808 ≤ v) (h1 : v ≤ 9223372036854775807) (w : World) : Calls Tryd.prog 7 #[.int .i64 v] w fun e w' => e = .returned (.string (numB v)) ∧ Keeps w w' := by
  have HC := hide (fun (x : Int) (n : Nat) (hx : x = (n : Nat)) (hn : n < 18446744073709551616) (w : World) => (show Calls Tryd.prog 11 #[.int .u64 x] w fun e w' => e = .returned (.string (decB n)) ∧ Keeps w w' by subst hx; exact digits_any n n (Nat.le_refl _) hn w))
  by_cases hneg : v < 0
  · have HN := hide (show numB v = (⟨#[45]⟩ : ByteArray) ++ decB v.natAbs by rw [numB, if_pos hneg])
    have hsz : ¬ (9223372036854775807 < (⟨#[45]⟩ : ByteArray).size + (decB v.natAbs).size) := by
      have h2 : (decB v.natAbs).size ≤ 20 := by rw [Lib.size_eq]; exact dec_len 19 _
      have h3 : (⟨#[45]⟩ : ByteArray).size = 1 := rfl
      omega
    have hsz2 : (decB v.natAbs).size ≤ 20 := by rw [Lib.size_eq]; exact dec_len 19 _
    go_enter Tryd.func7, Tryd.ntmps7
    go_wp2_with fail
    refine (unhide HC _ v.natAbs (by omega) (by omega) _).mono ?_
    rintro e w1 ⟨rfl, hk⟩
    have HK := hide hk
    clear hk
    go_wp2
    go_ret
    exact ⟨by rw [unhide HN]; rfl, unhide HK⟩
  · have HN := hide (show numB v = decB v.natAbs by rw [numB, if_neg hneg])
    go_enter Tryd.func7, Tryd.ntmps7
    go_wp2_with fail
    refine (unhide HC _ v.natAbs (by omega) (by omega) _).mono ?_
    rintro e w1 ⟨rfl, hk⟩
    have HK := hide hk
    clear hk
    go_wp2
    go_ret
    exact ⟨by rw [unhide HN]; rfl, unhide HK⟩
end Go.Proofs.YtckcbgijddglpaaDoor
