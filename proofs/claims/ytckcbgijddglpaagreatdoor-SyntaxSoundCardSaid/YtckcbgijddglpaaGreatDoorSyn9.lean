/- The parser: bounds. -/
import Derived.Test.YtckcbgijddglpaaGreatDoorSyn8
import Derived.BigRegion
import Derived.BigQuiet
import Derived.Deep.QuietTactic
namespace Go.Proofs.YtckcbgijddglpaaGreatDoor
open Go.ChangeShapes Go.WideShapes Go.ChangeAt Go.RowKit Go.PlainAid
set_option linter.unusedVariables false
set_option linter.unusedSimpArgs false
section
variable {w : World} {g : Nat} {A : Option Addr} {c : Nat} {l : List Tok} {i : Nat} {m0 m1 m2 m3 m4 : Value}
theorem PQ.drew (h : PQ w g A c l i m0 m1 m2 m3 m4) : PQ w.drew g A c l i m0 m1 m2 m3 m4 := h.keeps (Keeps.refl w).drew
set_option maxRecDepth 100000 in
set_option maxHeartbeats 16000000 in
theorem bounds_q (h : PQ w g A c l i m0 m1 m2 m3 m4) (hN : NumsL l) {n : Nat} {t : TypeId} {a0 a1 a2 a3 a4 b0 b1 b2 b3 b4 : Value} (hB : Blk w n t #[a0, a1, a2, a3, a4, .bool false, .bool false, .bool false, .bool false, .int .i64 0, .int .i64 0, b0, b1, b2, b3, b4]) (hn : g < n) :
    Calls Tryz.prog 120 #[.pointer (some ⟨g, 0, none⟩), .pointer (some ⟨n, 5, none⟩)] w
      (PostT (boundsT l i) g (S2 g n) w (fun r e w' => Yes e ∧ PQ w' g A c l r.2 m0 m1 m2 m3 m4 ∧ Blk w' n t #[a0, a1, a2, a3, a4, .bool r.1.has, .bool r.1.hasLow, .bool r.1.hasHigh, .bool r.1.more, .int .i64 r.1.low, .int .i64 r.1.high, b0, b1, b2, b3, b4]) No) := by
  obtain ⟨c0, f0, _⟩ := hB.facts
  have HP1 := hide (h.far hn 5 (.bool true))
  have HB1 : Hid (Blk _ n t #[a0, a1, a2, a3, a4, .bool true, .bool false, .bool false, .bool false, .int .i64 0, .int .i64 0, b0, b1, b2, b3, b4]) := hB.set_ 5 (.bool true)
  have HF1 := hide ((FS.refl (S2 g n) w).set2 5 (.bool true))
  clear h hB
  go_enter Tryz.func120, Tryz.ntmps120
  go_wp2
  clear c0 f0
  rcases Bool.eq_false_or_eq_true (isT l i wMIN) with hb11 | hb11
  · have E11 := hide hb11
    clear hb11
    refine wp_region_held_drew (S := fun _ => True) (by kernel_rfl) trivial (fun hHeld => ?_)
    refine wpAnyH_take (i := 0) (oi := { dst := some 8, op := Op.move (Operand.tmp 0), type := 83, pos := "types.go:130", after := #[], guard := none }) (v := ?_) rfl (by kernel_rfl) (by kernel_rfl) (by kernel_rfl) (fun _ _ _ h => h) (Or.inl ⟨by rfl, ?_⟩) (by assumption) ?_
    rotate_left
    · intro w hSw
      go_simp
      try with_reducible rfl
    try simp only [Act.put, List.setIfInBounds_toArray, List.set_cons_zero, List.set_cons_succ]
    refine wpAnyH_take (i := 1) (oi := { dst := some 9, op := Op.nilCheck (Operand.tmp 8), type := 0, pos := "types.go:130", after := #[{ on := 0, ground := Ground.data }], guard := none }) (v := ?_) rfl (by kernel_rfl) (by kernel_rfl) (by kernel_rfl) (fun _ _ _ h => h) (Or.inl ⟨by rfl, ?_⟩) (by assumption) ?_
    rotate_left
    · intro w hSw
      go_simp
      try with_reducible rfl
    try simp only [Act.put, List.setIfInBounds_toArray, List.set_cons_zero, List.set_cons_succ]
    refine wpAnyH_take (i := 2) (oi := { dst := some 10, op := Op.fieldAddr 59 (Operand.tmp 9) 0, type := 0, pos := "types.go:130", after := #[{ on := 1, ground := Ground.data }], guard := none }) (v := ?_) rfl (by kernel_rfl) (by kernel_rfl) (by kernel_rfl) (fun _ _ _ h => h) (Or.inl ⟨by rfl, ?_⟩) (by assumption) ?_
    rotate_left
    · intro w hSw
      go_simp
      try with_reducible rfl
    try simp only [Act.put, List.setIfInBounds_toArray, List.set_cons_zero, List.set_cons_succ]
    refine wpAnyH_ready (rs := [3]) (by kernel_rfl) (by simp) ?_
    refine AllReadyH.cons (o := { dst := some 11, op := Op.call { callee := Callee.value (Operand.func 68), args := #[Operand.tmp 10, Operand.const (Value.string { data := #[77, 73, 78] })], argTypes := #[56, 9] }, type := 4, pos := "types.go:130", after := #[{ on := 2, ground := Ground.data }], guard := none }) rfl (fun K hK => ?_) AllReadyH.nil
    go_simp
    go_at_call 68
    refine (take_y (unhide HP1).drew (unhide E11)).mono ?_
    rintro e w12 ⟨rfl, hp, hf⟩
    have HP12 := hide hp
    have HF12 := hide ((unhide HF1).drew.fr2 hf)
    have HB12 : Hid (Blk _ n t #[a0, a1, a2, a3, a4, .bool true, .bool false, .bool false, .bool false, .int .i64 0, .int .i64 0, b0, b1, b2, b3, b4]) := hf.blk (unhide HB1).drew hn
    clear hp hf
    go_wp2_with fail
    refine hK.out _ _ ?_ (fun hHeld => ?_)
    · trivial
    clear hK K
    try simp only [Act.put, List.setIfInBounds_toArray, List.set_cons_zero, List.set_cons_succ]
    refine wpAnyH_take (i := 4) (oi := { dst := some 12, op := Op.unOp UnOp.not 4 (Operand.tmp 11), type := 4, pos := "types.go:130", after := #[{ on := 3, ground := Ground.data }], guard := none }) (v := ?_) rfl (by kernel_rfl) (by kernel_rfl) (by kernel_rfl) (fun _ _ _ h => h) (Or.inl ⟨by rfl, ?_⟩) (by assumption) ?_
    rotate_left
    · intro w hSw
      go_simp
      try with_reducible rfl
    try simp only [Act.put, List.setIfInBounds_toArray, List.set_cons_zero, List.set_cons_succ]
    refine wpAnyH_take (i := 5) (oi := { dst := some 13, op := Op.move (Operand.tmp 12), type := 4, pos := "types.go:130", after := #[{ on := 4, ground := Ground.data }, { on := 3, ground := Ground.chain }], guard := none }) (v := ?_) rfl (by kernel_rfl) (by kernel_rfl) (by kernel_rfl) (fun _ _ _ h => h) (Or.inl ⟨by rfl, ?_⟩) (by assumption) ?_
    rotate_left
    · intro w hSw
      go_simp
      try with_reducible rfl
    try simp only [Act.put, List.setIfInBounds_toArray, List.set_cons_zero, List.set_cons_succ]
    refine wpAnyH_take (i := 6) (oi := { dst := some 14, op := Op.move (Operand.tmp 0), type := 83, pos := "types.go:130", after := #[{ on := 5, ground := Ground.guard }], guard := some (5, true) }) rfl (by kernel_rfl) (by kernel_rfl) (by kernel_rfl) (fun _ _ _ h => h) (Or.inr ⟨by rfl, rfl⟩) (by assumption) ?_
    try simp only [Act.put, List.setIfInBounds_toArray, List.set_cons_zero, List.set_cons_succ]
    refine wpAnyH_take (i := 7) (oi := { dst := some 15, op := Op.move (Operand.tmp 1), type := 155, pos := "types.go:130", after := #[{ on := 5, ground := Ground.guard }], guard := some (5, true) }) rfl (by kernel_rfl) (by kernel_rfl) (by kernel_rfl) (fun _ _ _ h => h) (Or.inr ⟨by rfl, rfl⟩) (by assumption) ?_
    try simp only [Act.put, List.setIfInBounds_toArray, List.set_cons_zero, List.set_cons_succ]
    refine wpAnyH_take (i := 8) (oi := { dst := some 16, op := Op.nilCheck (Operand.tmp 15), type := 0, pos := "types.go:130", after := #[{ on := 7, ground := Ground.data }, { on := 5, ground := Ground.guard }], guard := some (5, true) }) rfl (by kernel_rfl) (by kernel_rfl) (by kernel_rfl) (fun _ _ _ h => h) (Or.inr ⟨by rfl, rfl⟩) (by assumption) ?_
    try simp only [Act.put, List.setIfInBounds_toArray, List.set_cons_zero, List.set_cons_succ]
    refine wpAnyH_take (i := 9) (oi := { dst := some 17, op := Op.fieldAddr 36 (Operand.tmp 16) 4, type := 0, pos := "types.go:130", after := #[{ on := 8, ground := Ground.data }, { on := 5, ground := Ground.guard }], guard := some (5, true) }) rfl (by kernel_rfl) (by kernel_rfl) (by kernel_rfl) (fun _ _ _ h => h) (Or.inr ⟨by rfl, rfl⟩) (by assumption) ?_
    try simp only [Act.put, List.setIfInBounds_toArray, List.set_cons_zero, List.set_cons_succ]
    refine wpAnyH_take (i := 10) (oi := { dst := some 18, op := Op.move (Operand.tmp 1), type := 155, pos := "types.go:130", after := #[{ on := 5, ground := Ground.guard }], guard := some (5, true) }) rfl (by kernel_rfl) (by kernel_rfl) (by kernel_rfl) (fun _ _ _ h => h) (Or.inr ⟨by rfl, rfl⟩) (by assumption) ?_
    try simp only [Act.put, List.setIfInBounds_toArray, List.set_cons_zero, List.set_cons_succ]
    refine wpAnyH_take (i := 11) (oi := { dst := some 19, op := Op.nilCheck (Operand.tmp 18), type := 0, pos := "types.go:130", after := #[{ on := 10, ground := Ground.data }, { on := 5, ground := Ground.guard }], guard := some (5, true) }) rfl (by kernel_rfl) (by kernel_rfl) (by kernel_rfl) (fun _ _ _ h => h) (Or.inr ⟨by rfl, rfl⟩) (by assumption) ?_
    try simp only [Act.put, List.setIfInBounds_toArray, List.set_cons_zero, List.set_cons_succ]
    refine wpAnyH_take (i := 12) (oi := { dst := some 20, op := Op.fieldAddr 36 (Operand.tmp 19) 1, type := 0, pos := "types.go:130", after := #[{ on := 11, ground := Ground.data }, { on := 5, ground := Ground.guard }], guard := some (5, true) }) rfl (by kernel_rfl) (by kernel_rfl) (by kernel_rfl) (fun _ _ _ h => h) (Or.inr ⟨by rfl, rfl⟩) (by assumption) ?_
    try simp only [Act.put, List.setIfInBounds_toArray, List.set_cons_zero, List.set_cons_succ]
    refine wpAnyH_take (i := 13) (oi := { dst := some 21, op := Op.call { callee := Callee.value (Operand.func 130), args := #[Operand.tmp 14, Operand.tmp 17, Operand.tmp 20], argTypes := #[83, 174, 175] }, type := 4, pos := "types.go:130", after := #[{ on := 6, ground := Ground.data }, { on := 9, ground := Ground.data }, { on := 12, ground := Ground.data }, { on := 5, ground := Ground.chain }, { on := 5, ground := Ground.guard }], guard := some (5, true) }) rfl (by kernel_rfl) (by kernel_rfl) (by kernel_rfl) (fun _ _ _ h => h) (Or.inr ⟨by rfl, rfl⟩) (by assumption) ?_
    try simp only [Act.put, List.setIfInBounds_toArray, List.set_cons_zero, List.set_cons_succ]
    refine wpAnyH_take (i := 14) (oi := { dst := some 22, op := Op.unOp UnOp.not 4 (Operand.tmp 21), type := 4, pos := "types.go:130", after := #[{ on := 13, ground := Ground.data }, { on := 5, ground := Ground.guard }], guard := some (5, true) }) rfl (by kernel_rfl) (by kernel_rfl) (by kernel_rfl) (fun _ _ _ h => h) (Or.inr ⟨by rfl, rfl⟩) (by assumption) ?_
    try simp only [Act.put, List.setIfInBounds_toArray, List.set_cons_zero, List.set_cons_succ]
    refine wpAnyH_take (i := 15) (oi := { dst := some 23, op := Op.pick (Operand.tmp 13) (Operand.tmp 22) (Operand.const (Value.bool false)), type := 4, pos := "types.go:130", after := #[{ on := 5, ground := Ground.data }, { on := 14, ground := Ground.data }], guard := none }) (v := ?_) rfl (by kernel_rfl) (by kernel_rfl) (by kernel_rfl) (fun _ _ _ h => h) (Or.inl ⟨by rfl, ?_⟩) (by assumption) ?_
    rotate_left
    · intro w hSw
      go_simp
      try with_reducible rfl
    try simp only [Act.put, List.setIfInBounds_toArray, List.set_cons_zero, List.set_cons_succ]
    refine wpAnyH_done (by kernel_rfl) ?_ _
    rcases Bool.eq_false_or_eq_true (isT l (i + 1) s_dd) with hb13 | hb13
    · have E13 := hide hb13
      clear hb13
      go_wp2_with fail
      refine (take_y (unhide HP12) (unhide E13)).mono ?_
      rintro e w14 ⟨rfl, hp, hf⟩
      have HP14 := hide hp
      have HF14 := hide ((unhide HF12).fr2 hf)
      have HB14 : Hid (Blk _ n t #[a0, a1, a2, a3, a4, .bool true, .bool false, .bool false, .bool false, .int .i64 0, .int .i64 0, b0, b1, b2, b3, b4]) := hf.blk (unhide HB12) hn
      clear hp hf
      go_wp2
      rcases Bool.eq_false_or_eq_true (isT l ((i + 1) + 1) wMAX) with hb15 | hb15
      · have E15 := hide hb15
        clear hb15
        refine wp_region_held_drew (S := fun _ => True) (by kernel_rfl) trivial (fun hHeld => ?_)
        refine wpAnyH_take (i := 0) (oi := { dst := some 43, op := Op.move (Operand.tmp 0), type := 83, pos := "types.go:135", after := #[], guard := none }) (v := ?_) rfl (by kernel_rfl) (by kernel_rfl) (by kernel_rfl) (fun _ _ _ h => h) (Or.inl ⟨by rfl, ?_⟩) (by assumption) ?_
        rotate_left
        · intro w hSw
          go_simp
          try with_reducible rfl
        try simp only [Act.put, List.setIfInBounds_toArray, List.set_cons_zero, List.set_cons_succ]
        refine wpAnyH_take (i := 1) (oi := { dst := some 44, op := Op.nilCheck (Operand.tmp 43), type := 0, pos := "types.go:135", after := #[{ on := 0, ground := Ground.data }], guard := none }) (v := ?_) rfl (by kernel_rfl) (by kernel_rfl) (by kernel_rfl) (fun _ _ _ h => h) (Or.inl ⟨by rfl, ?_⟩) (by assumption) ?_
        rotate_left
        · intro w hSw
          go_simp
          try with_reducible rfl
        try simp only [Act.put, List.setIfInBounds_toArray, List.set_cons_zero, List.set_cons_succ]
        refine wpAnyH_take (i := 2) (oi := { dst := some 45, op := Op.fieldAddr 59 (Operand.tmp 44) 0, type := 0, pos := "types.go:135", after := #[{ on := 1, ground := Ground.data }], guard := none }) (v := ?_) rfl (by kernel_rfl) (by kernel_rfl) (by kernel_rfl) (fun _ _ _ h => h) (Or.inl ⟨by rfl, ?_⟩) (by assumption) ?_
        rotate_left
        · intro w hSw
          go_simp
          try with_reducible rfl
        try simp only [Act.put, List.setIfInBounds_toArray, List.set_cons_zero, List.set_cons_succ]
        refine wpAnyH_ready (rs := [3]) (by kernel_rfl) (by simp) ?_
        refine AllReadyH.cons (o := { dst := some 46, op := Op.call { callee := Callee.value (Operand.func 68), args := #[Operand.tmp 45, Operand.const (Value.string { data := #[77, 65, 88] })], argTypes := #[56, 9] }, type := 4, pos := "types.go:135", after := #[{ on := 2, ground := Ground.data }], guard := none }) rfl (fun K hK => ?_) AllReadyH.nil
        go_simp
        go_at_call 68
        refine (take_y (unhide HP14).drew (unhide E15)).mono ?_
        rintro e w16 ⟨rfl, hp, hf⟩
        have HP16 := hide hp
        have HF16 := hide ((unhide HF14).drew.fr2 hf)
        have HB16 : Hid (Blk _ n t #[a0, a1, a2, a3, a4, .bool true, .bool false, .bool false, .bool false, .int .i64 0, .int .i64 0, b0, b1, b2, b3, b4]) := hf.blk (unhide HB14).drew hn
        clear hp hf
        go_wp2_with fail
        refine hK.out _ _ ?_ (fun hHeld => ?_)
        · trivial
        clear hK K
        try simp only [Act.put, List.setIfInBounds_toArray, List.set_cons_zero, List.set_cons_succ]
        refine wpAnyH_take (i := 4) (oi := { dst := some 47, op := Op.unOp UnOp.not 4 (Operand.tmp 46), type := 4, pos := "types.go:135", after := #[{ on := 3, ground := Ground.data }], guard := none }) (v := ?_) rfl (by kernel_rfl) (by kernel_rfl) (by kernel_rfl) (fun _ _ _ h => h) (Or.inl ⟨by rfl, ?_⟩) (by assumption) ?_
        rotate_left
        · intro w hSw
          go_simp
          try with_reducible rfl
        try simp only [Act.put, List.setIfInBounds_toArray, List.set_cons_zero, List.set_cons_succ]
        refine wpAnyH_take (i := 5) (oi := { dst := some 48, op := Op.move (Operand.tmp 47), type := 4, pos := "types.go:135", after := #[{ on := 4, ground := Ground.data }, { on := 3, ground := Ground.chain }], guard := none }) (v := ?_) rfl (by kernel_rfl) (by kernel_rfl) (by kernel_rfl) (fun _ _ _ h => h) (Or.inl ⟨by rfl, ?_⟩) (by assumption) ?_
        rotate_left
        · intro w hSw
          go_simp
          try with_reducible rfl
        try simp only [Act.put, List.setIfInBounds_toArray, List.set_cons_zero, List.set_cons_succ]
        refine wpAnyH_take (i := 6) (oi := { dst := some 49, op := Op.move (Operand.tmp 0), type := 83, pos := "types.go:135", after := #[{ on := 5, ground := Ground.guard }], guard := some (5, true) }) rfl (by kernel_rfl) (by kernel_rfl) (by kernel_rfl) (fun _ _ _ h => h) (Or.inr ⟨by rfl, rfl⟩) (by assumption) ?_
        try simp only [Act.put, List.setIfInBounds_toArray, List.set_cons_zero, List.set_cons_succ]
        refine wpAnyH_take (i := 7) (oi := { dst := some 50, op := Op.move (Operand.tmp 1), type := 155, pos := "types.go:135", after := #[{ on := 5, ground := Ground.guard }], guard := some (5, true) }) rfl (by kernel_rfl) (by kernel_rfl) (by kernel_rfl) (fun _ _ _ h => h) (Or.inr ⟨by rfl, rfl⟩) (by assumption) ?_
        try simp only [Act.put, List.setIfInBounds_toArray, List.set_cons_zero, List.set_cons_succ]
        refine wpAnyH_take (i := 8) (oi := { dst := some 51, op := Op.nilCheck (Operand.tmp 50), type := 0, pos := "types.go:135", after := #[{ on := 7, ground := Ground.data }, { on := 5, ground := Ground.guard }], guard := some (5, true) }) rfl (by kernel_rfl) (by kernel_rfl) (by kernel_rfl) (fun _ _ _ h => h) (Or.inr ⟨by rfl, rfl⟩) (by assumption) ?_
        try simp only [Act.put, List.setIfInBounds_toArray, List.set_cons_zero, List.set_cons_succ]
        refine wpAnyH_take (i := 9) (oi := { dst := some 52, op := Op.fieldAddr 36 (Operand.tmp 51) 5, type := 0, pos := "types.go:135", after := #[{ on := 8, ground := Ground.data }, { on := 5, ground := Ground.guard }], guard := some (5, true) }) rfl (by kernel_rfl) (by kernel_rfl) (by kernel_rfl) (fun _ _ _ h => h) (Or.inr ⟨by rfl, rfl⟩) (by assumption) ?_
        try simp only [Act.put, List.setIfInBounds_toArray, List.set_cons_zero, List.set_cons_succ]
        refine wpAnyH_take (i := 10) (oi := { dst := some 53, op := Op.move (Operand.tmp 1), type := 155, pos := "types.go:135", after := #[{ on := 5, ground := Ground.guard }], guard := some (5, true) }) rfl (by kernel_rfl) (by kernel_rfl) (by kernel_rfl) (fun _ _ _ h => h) (Or.inr ⟨by rfl, rfl⟩) (by assumption) ?_
        try simp only [Act.put, List.setIfInBounds_toArray, List.set_cons_zero, List.set_cons_succ]
        refine wpAnyH_take (i := 11) (oi := { dst := some 54, op := Op.nilCheck (Operand.tmp 53), type := 0, pos := "types.go:135", after := #[{ on := 10, ground := Ground.data }, { on := 5, ground := Ground.guard }], guard := some (5, true) }) rfl (by kernel_rfl) (by kernel_rfl) (by kernel_rfl) (fun _ _ _ h => h) (Or.inr ⟨by rfl, rfl⟩) (by assumption) ?_
        try simp only [Act.put, List.setIfInBounds_toArray, List.set_cons_zero, List.set_cons_succ]
        refine wpAnyH_take (i := 12) (oi := { dst := some 55, op := Op.fieldAddr 36 (Operand.tmp 54) 2, type := 0, pos := "types.go:135", after := #[{ on := 11, ground := Ground.data }, { on := 5, ground := Ground.guard }], guard := some (5, true) }) rfl (by kernel_rfl) (by kernel_rfl) (by kernel_rfl) (fun _ _ _ h => h) (Or.inr ⟨by rfl, rfl⟩) (by assumption) ?_
        try simp only [Act.put, List.setIfInBounds_toArray, List.set_cons_zero, List.set_cons_succ]
        refine wpAnyH_take (i := 13) (oi := { dst := some 56, op := Op.call { callee := Callee.value (Operand.func 130), args := #[Operand.tmp 49, Operand.tmp 52, Operand.tmp 55], argTypes := #[83, 174, 175] }, type := 4, pos := "types.go:135", after := #[{ on := 6, ground := Ground.data }, { on := 9, ground := Ground.data }, { on := 12, ground := Ground.data }, { on := 5, ground := Ground.chain }, { on := 5, ground := Ground.guard }], guard := some (5, true) }) rfl (by kernel_rfl) (by kernel_rfl) (by kernel_rfl) (fun _ _ _ h => h) (Or.inr ⟨by rfl, rfl⟩) (by assumption) ?_
        try simp only [Act.put, List.setIfInBounds_toArray, List.set_cons_zero, List.set_cons_succ]
        refine wpAnyH_take (i := 14) (oi := { dst := some 57, op := Op.unOp UnOp.not 4 (Operand.tmp 56), type := 4, pos := "types.go:135", after := #[{ on := 13, ground := Ground.data }, { on := 5, ground := Ground.guard }], guard := some (5, true) }) rfl (by kernel_rfl) (by kernel_rfl) (by kernel_rfl) (fun _ _ _ h => h) (Or.inr ⟨by rfl, rfl⟩) (by assumption) ?_
        try simp only [Act.put, List.setIfInBounds_toArray, List.set_cons_zero, List.set_cons_succ]
        refine wpAnyH_take (i := 15) (oi := { dst := some 58, op := Op.pick (Operand.tmp 48) (Operand.tmp 57) (Operand.const (Value.bool false)), type := 4, pos := "types.go:135", after := #[{ on := 5, ground := Ground.data }, { on := 14, ground := Ground.data }], guard := none }) (v := ?_) rfl (by kernel_rfl) (by kernel_rfl) (by kernel_rfl) (fun _ _ _ h => h) (Or.inl ⟨by rfl, ?_⟩) (by assumption) ?_
        rotate_left
        · intro w hSw
          go_simp
          try with_reducible rfl
        try simp only [Act.put, List.setIfInBounds_toArray, List.set_cons_zero, List.set_cons_succ]
        refine wpAnyH_done (by kernel_rfl) ?_ _
        rcases Bool.eq_false_or_eq_true (isT l (((i + 1) + 1) + 1) s_cm) with hb17 | hb17
        · have E17 := hide hb17
          clear hb17
          go_wp2_with fail
          refine (take_y (unhide HP16) (unhide E17)).mono ?_
          rintro e w18 ⟨rfl, hp, hf⟩
          have HP18 := hide hp
          have HF18 := hide ((unhide HF16).fr2 hf)
          have HB18 : Hid (Blk _ n t #[a0, a1, a2, a3, a4, .bool true, .bool false, .bool false, .bool false, .int .i64 0, .int .i64 0, b0, b1, b2, b3, b4]) := hf.blk (unhide HB16) hn
          clear hp hf
          obtain ⟨hc19, hf19, _⟩ := (unhide HB18).facts
          have HP19 := hide ((unhide HP18).far hn 8 (.bool true))
          have HB19 : Hid (Blk _ n t #[a0, a1, a2, a3, a4, .bool true, .bool false, .bool false, .bool true, .int .i64 0, .int .i64 0, b0, b1, b2, b3, b4]) := (unhide HB18).set_ 8 (.bool true)
          have HF19 := hide ((unhide HF18).set2 8 (.bool true))
          rcases hr21 : wantT l ((((i + 1) + 1) + 1) + 1) s_dots with ⟨p21, x21⟩ | k20
          · have E21 := hide hr21
            clear hr21
            go_wp2_with fail
            clear hc19 hf19
            refine (want_n (unhide HP19) (unhide E21)).mono ?_
            rintro e w20 ⟨rfl, hp, hf⟩
            have HP20 := hide hp
            have HF20 := hide ((unhide HF19).fs2 hf)
            clear hp hf
            go_wp2
            go_ret
            have hE : boundsT l i = .error (p21, x21) := by simp [boundsT, unhide E11, unhide E13, unhide E15, unhide E17, unhide E21, bind, Except.bind, pure, Except.pure]
            rw [hE]
            exact ⟨⟨rfl, unhide HP20⟩, unhide HF20⟩
          · have E21 := hide hr21
            clear hr21
            go_wp2_with fail
            clear hc19 hf19
            refine (want_y (unhide HP19) (unhide E21)).mono ?_
            rintro e w20 ⟨rfl, hp, hf⟩
            have HP20 := hide hp
            have HF20 := hide ((unhide HF19).fs2 hf)
            have HB20 : Hid (Blk _ n t #[a0, a1, a2, a3, a4, .bool true, .bool false, .bool false, .bool true, .int .i64 0, .int .i64 0, b0, b1, b2, b3, b4]) := hf.blk1 (unhide HB19) hn
            clear hp hf
            go_wp2
            go_ret
            have hE : boundsT l i = .ok (⟨true, false, false, true, 0, 0⟩, k20) := by simp [boundsT, unhide E11, unhide E13, unhide E15, unhide E17, unhide E21, bind, Except.bind, pure, Except.pure]
            rw [hE]
            exact ⟨⟨rfl, unhide HP20, unhide HB20⟩, unhide HF20⟩
        · have E17 := hide hb17
          clear hb17
          go_wp2_with fail
          refine (take_n (unhide HP16) (unhide E17)).mono ?_
          rintro e w22 ⟨rfl, hp, hf⟩
          have HP22 := hide hp
          have HF22 := hide ((unhide HF16).fr2 hf)
          have HB22 : Hid (Blk _ n t #[a0, a1, a2, a3, a4, .bool true, .bool false, .bool false, .bool false, .int .i64 0, .int .i64 0, b0, b1, b2, b3, b4]) := hf.blk (unhide HB16) hn
          clear hp hf
          go_wp2
          go_ret
          have hE : boundsT l i = .ok (⟨true, false, false, false, 0, 0⟩, (((i + 1) + 1) + 1)) := by simp [boundsT, unhide E11, unhide E13, unhide E15, unhide E17, bind, Except.bind, pure, Except.pure]
          rw [hE]
          exact ⟨⟨rfl, unhide HP22, unhide HB22⟩, unhide HF22⟩
      · have E15 := hide hb15
        clear hb15
        rcases hr25 : numberT l ((i + 1) + 1) with ⟨p25, x25⟩ | ⟨v24, j24⟩
        · have E25 := hide hr25
          clear hr25
          refine wp_region_held_drew (S := fun _ => True) (by kernel_rfl) trivial (fun hHeld => ?_)
          refine wpAnyH_take (i := 0) (oi := { dst := some 43, op := Op.move (Operand.tmp 0), type := 83, pos := "types.go:135", after := #[], guard := none }) (v := ?_) rfl (by kernel_rfl) (by kernel_rfl) (by kernel_rfl) (fun _ _ _ h => h) (Or.inl ⟨by rfl, ?_⟩) (by assumption) ?_
          rotate_left
          · intro w hSw
            go_simp
            try with_reducible rfl
          try simp only [Act.put, List.setIfInBounds_toArray, List.set_cons_zero, List.set_cons_succ]
          refine wpAnyH_take (i := 1) (oi := { dst := some 44, op := Op.nilCheck (Operand.tmp 43), type := 0, pos := "types.go:135", after := #[{ on := 0, ground := Ground.data }], guard := none }) (v := ?_) rfl (by kernel_rfl) (by kernel_rfl) (by kernel_rfl) (fun _ _ _ h => h) (Or.inl ⟨by rfl, ?_⟩) (by assumption) ?_
          rotate_left
          · intro w hSw
            go_simp
            try with_reducible rfl
          try simp only [Act.put, List.setIfInBounds_toArray, List.set_cons_zero, List.set_cons_succ]
          refine wpAnyH_take (i := 2) (oi := { dst := some 45, op := Op.fieldAddr 59 (Operand.tmp 44) 0, type := 0, pos := "types.go:135", after := #[{ on := 1, ground := Ground.data }], guard := none }) (v := ?_) rfl (by kernel_rfl) (by kernel_rfl) (by kernel_rfl) (fun _ _ _ h => h) (Or.inl ⟨by rfl, ?_⟩) (by assumption) ?_
          rotate_left
          · intro w hSw
            go_simp
            try with_reducible rfl
          try simp only [Act.put, List.setIfInBounds_toArray, List.set_cons_zero, List.set_cons_succ]
          refine wpAnyH_ready (rs := [3]) (by kernel_rfl) (by simp) ?_
          refine AllReadyH.cons (o := { dst := some 46, op := Op.call { callee := Callee.value (Operand.func 68), args := #[Operand.tmp 45, Operand.const (Value.string { data := #[77, 65, 88] })], argTypes := #[56, 9] }, type := 4, pos := "types.go:135", after := #[{ on := 2, ground := Ground.data }], guard := none }) rfl (fun K hK => ?_) AllReadyH.nil
          go_simp
          go_at_call 68
          refine (take_n (unhide HP14).drew (unhide E15)).mono ?_
          rintro e w23 ⟨rfl, hp, hf⟩
          have HP23 := hide hp
          have HF23 := hide ((unhide HF14).drew.fr2 hf)
          have HB23 : Hid (Blk _ n t #[a0, a1, a2, a3, a4, .bool true, .bool false, .bool false, .bool false, .int .i64 0, .int .i64 0, b0, b1, b2, b3, b4]) := hf.blk (unhide HB14).drew hn
          clear hp hf
          go_wp2_with fail
          refine hK.out _ _ ?_ (fun hHeld => ?_)
          · trivial
          clear hK K
          try simp only [Act.put, List.setIfInBounds_toArray, List.set_cons_zero, List.set_cons_succ]
          refine wpAnyH_take (i := 4) (oi := { dst := some 47, op := Op.unOp UnOp.not 4 (Operand.tmp 46), type := 4, pos := "types.go:135", after := #[{ on := 3, ground := Ground.data }], guard := none }) (v := ?_) rfl (by kernel_rfl) (by kernel_rfl) (by kernel_rfl) (fun _ _ _ h => h) (Or.inl ⟨by rfl, ?_⟩) (by assumption) ?_
          rotate_left
          · intro w hSw
            go_simp
            try with_reducible rfl
          try simp only [Act.put, List.setIfInBounds_toArray, List.set_cons_zero, List.set_cons_succ]
          refine wpAnyH_take (i := 5) (oi := { dst := some 48, op := Op.move (Operand.tmp 47), type := 4, pos := "types.go:135", after := #[{ on := 4, ground := Ground.data }, { on := 3, ground := Ground.chain }], guard := none }) (v := ?_) rfl (by kernel_rfl) (by kernel_rfl) (by kernel_rfl) (fun _ _ _ h => h) (Or.inl ⟨by rfl, ?_⟩) (by assumption) ?_
          rotate_left
          · intro w hSw
            go_simp
            try with_reducible rfl
          try simp only [Act.put, List.setIfInBounds_toArray, List.set_cons_zero, List.set_cons_succ]
          refine wpAnyH_take (i := 6) (oi := { dst := some 49, op := Op.move (Operand.tmp 0), type := 83, pos := "types.go:135", after := #[{ on := 5, ground := Ground.guard }], guard := some (5, true) }) (v := ?_) rfl (by kernel_rfl) (by kernel_rfl) (by kernel_rfl) (fun _ _ _ h => h) (Or.inl ⟨by rfl, ?_⟩) (by assumption) ?_
          rotate_left
          · intro w hSw
            go_simp
            try with_reducible rfl
          try simp only [Act.put, List.setIfInBounds_toArray, List.set_cons_zero, List.set_cons_succ]
          refine wpAnyH_take (i := 7) (oi := { dst := some 50, op := Op.move (Operand.tmp 1), type := 155, pos := "types.go:135", after := #[{ on := 5, ground := Ground.guard }], guard := some (5, true) }) (v := ?_) rfl (by kernel_rfl) (by kernel_rfl) (by kernel_rfl) (fun _ _ _ h => h) (Or.inl ⟨by rfl, ?_⟩) (by assumption) ?_
          rotate_left
          · intro w hSw
            go_simp
            try with_reducible rfl
          try simp only [Act.put, List.setIfInBounds_toArray, List.set_cons_zero, List.set_cons_succ]
          refine wpAnyH_take (i := 8) (oi := { dst := some 51, op := Op.nilCheck (Operand.tmp 50), type := 0, pos := "types.go:135", after := #[{ on := 7, ground := Ground.data }, { on := 5, ground := Ground.guard }], guard := some (5, true) }) (v := ?_) rfl (by kernel_rfl) (by kernel_rfl) (by kernel_rfl) (fun _ _ _ h => h) (Or.inl ⟨by rfl, ?_⟩) (by assumption) ?_
          rotate_left
          · intro w hSw
            go_simp
            try with_reducible rfl
          try simp only [Act.put, List.setIfInBounds_toArray, List.set_cons_zero, List.set_cons_succ]
          refine wpAnyH_take (i := 9) (oi := { dst := some 52, op := Op.fieldAddr 36 (Operand.tmp 51) 5, type := 0, pos := "types.go:135", after := #[{ on := 8, ground := Ground.data }, { on := 5, ground := Ground.guard }], guard := some (5, true) }) (v := ?_) rfl (by kernel_rfl) (by kernel_rfl) (by kernel_rfl) (fun _ _ _ h => h) (Or.inl ⟨by rfl, ?_⟩) (by assumption) ?_
          rotate_left
          · intro w hSw
            go_simp
            try with_reducible rfl
          try simp only [Act.put, List.setIfInBounds_toArray, List.set_cons_zero, List.set_cons_succ]
          refine wpAnyH_take (i := 10) (oi := { dst := some 53, op := Op.move (Operand.tmp 1), type := 155, pos := "types.go:135", after := #[{ on := 5, ground := Ground.guard }], guard := some (5, true) }) (v := ?_) rfl (by kernel_rfl) (by kernel_rfl) (by kernel_rfl) (fun _ _ _ h => h) (Or.inl ⟨by rfl, ?_⟩) (by assumption) ?_
          rotate_left
          · intro w hSw
            go_simp
            try with_reducible rfl
          try simp only [Act.put, List.setIfInBounds_toArray, List.set_cons_zero, List.set_cons_succ]
          refine wpAnyH_take (i := 11) (oi := { dst := some 54, op := Op.nilCheck (Operand.tmp 53), type := 0, pos := "types.go:135", after := #[{ on := 10, ground := Ground.data }, { on := 5, ground := Ground.guard }], guard := some (5, true) }) (v := ?_) rfl (by kernel_rfl) (by kernel_rfl) (by kernel_rfl) (fun _ _ _ h => h) (Or.inl ⟨by rfl, ?_⟩) (by assumption) ?_
          rotate_left
          · intro w hSw
            go_simp
            try with_reducible rfl
          try simp only [Act.put, List.setIfInBounds_toArray, List.set_cons_zero, List.set_cons_succ]
          refine wpAnyH_take (i := 12) (oi := { dst := some 55, op := Op.fieldAddr 36 (Operand.tmp 54) 2, type := 0, pos := "types.go:135", after := #[{ on := 11, ground := Ground.data }, { on := 5, ground := Ground.guard }], guard := some (5, true) }) (v := ?_) rfl (by kernel_rfl) (by kernel_rfl) (by kernel_rfl) (fun _ _ _ h => h) (Or.inl ⟨by rfl, ?_⟩) (by assumption) ?_
          rotate_left
          · intro w hSw
            go_simp
            try with_reducible rfl
          try simp only [Act.put, List.setIfInBounds_toArray, List.set_cons_zero, List.set_cons_succ]
          refine wpAnyH_ready (rs := [13]) (by kernel_rfl) (by simp) ?_
          refine AllReadyH.cons (o := { dst := some 56, op := Op.call { callee := Callee.value (Operand.func 130), args := #[Operand.tmp 49, Operand.tmp 52, Operand.tmp 55], argTypes := #[83, 174, 175] }, type := 4, pos := "types.go:135", after := #[{ on := 6, ground := Ground.data }, { on := 9, ground := Ground.data }, { on := 12, ground := Ground.data }, { on := 5, ground := Ground.chain }, { on := 5, ground := Ground.guard }], guard := some (5, true) }) rfl (fun K hK => ?_) AllReadyH.nil
          go_simp
          go_at_call 130
          have HQ26 := hide (bound_q (unhide HP23) hN (unhide HB23) hn (o1 := 10) (o2 := 7) (by simp) (by simp))
          rw [unhide E25] at HQ26
          refine (unhide HQ26).mono ?_
          rintro e w26 ⟨⟨rfl, hp⟩, hf⟩
          have HP26 := hide hp
          have HF26 := hide ((unhide HF23).trans hf)
          clear hp hf HQ26
          go_wp2_with fail
          refine hK.out _ _ ?_ (fun hHeld => ?_)
          · trivial
          clear hK K
          try simp only [Act.put, List.setIfInBounds_toArray, List.set_cons_zero, List.set_cons_succ]
          refine wpAnyH_take (i := 14) (oi := { dst := some 57, op := Op.unOp UnOp.not 4 (Operand.tmp 56), type := 4, pos := "types.go:135", after := #[{ on := 13, ground := Ground.data }, { on := 5, ground := Ground.guard }], guard := some (5, true) }) (v := ?_) rfl (by kernel_rfl) (by kernel_rfl) (by kernel_rfl) (fun _ _ _ h => h) (Or.inl ⟨by rfl, ?_⟩) (by assumption) ?_
          rotate_left
          · intro w hSw
            go_simp
            try with_reducible rfl
          try simp only [Act.put, List.setIfInBounds_toArray, List.set_cons_zero, List.set_cons_succ]
          refine wpAnyH_take (i := 15) (oi := { dst := some 58, op := Op.pick (Operand.tmp 48) (Operand.tmp 57) (Operand.const (Value.bool false)), type := 4, pos := "types.go:135", after := #[{ on := 5, ground := Ground.data }, { on := 14, ground := Ground.data }], guard := none }) (v := ?_) rfl (by kernel_rfl) (by kernel_rfl) (by kernel_rfl) (fun _ _ _ h => h) (Or.inl ⟨by rfl, ?_⟩) (by assumption) ?_
          rotate_left
          · intro w hSw
            go_simp
            try with_reducible rfl
          try simp only [Act.put, List.setIfInBounds_toArray, List.set_cons_zero, List.set_cons_succ]
          refine wpAnyH_done (by kernel_rfl) ?_ _
          go_wp2
          go_ret
          have hE : boundsT l i = .error (p25, x25) := by simp [boundsT, unhide E11, unhide E13, unhide E15, unhide E25, bind, Except.bind, pure, Except.pure]
          rw [hE]
          exact ⟨⟨rfl, unhide HP26⟩, unhide HF26⟩
        · have E25 := hide hr25
          clear hr25
          refine wp_region_held_drew (S := fun _ => True) (by kernel_rfl) trivial (fun hHeld => ?_)
          refine wpAnyH_take (i := 0) (oi := { dst := some 43, op := Op.move (Operand.tmp 0), type := 83, pos := "types.go:135", after := #[], guard := none }) (v := ?_) rfl (by kernel_rfl) (by kernel_rfl) (by kernel_rfl) (fun _ _ _ h => h) (Or.inl ⟨by rfl, ?_⟩) (by assumption) ?_
          rotate_left
          · intro w hSw
            go_simp
            try with_reducible rfl
          try simp only [Act.put, List.setIfInBounds_toArray, List.set_cons_zero, List.set_cons_succ]
          refine wpAnyH_take (i := 1) (oi := { dst := some 44, op := Op.nilCheck (Operand.tmp 43), type := 0, pos := "types.go:135", after := #[{ on := 0, ground := Ground.data }], guard := none }) (v := ?_) rfl (by kernel_rfl) (by kernel_rfl) (by kernel_rfl) (fun _ _ _ h => h) (Or.inl ⟨by rfl, ?_⟩) (by assumption) ?_
          rotate_left
          · intro w hSw
            go_simp
            try with_reducible rfl
          try simp only [Act.put, List.setIfInBounds_toArray, List.set_cons_zero, List.set_cons_succ]
          refine wpAnyH_take (i := 2) (oi := { dst := some 45, op := Op.fieldAddr 59 (Operand.tmp 44) 0, type := 0, pos := "types.go:135", after := #[{ on := 1, ground := Ground.data }], guard := none }) (v := ?_) rfl (by kernel_rfl) (by kernel_rfl) (by kernel_rfl) (fun _ _ _ h => h) (Or.inl ⟨by rfl, ?_⟩) (by assumption) ?_
          rotate_left
          · intro w hSw
            go_simp
            try with_reducible rfl
          try simp only [Act.put, List.setIfInBounds_toArray, List.set_cons_zero, List.set_cons_succ]
          refine wpAnyH_ready (rs := [3]) (by kernel_rfl) (by simp) ?_
          refine AllReadyH.cons (o := { dst := some 46, op := Op.call { callee := Callee.value (Operand.func 68), args := #[Operand.tmp 45, Operand.const (Value.string { data := #[77, 65, 88] })], argTypes := #[56, 9] }, type := 4, pos := "types.go:135", after := #[{ on := 2, ground := Ground.data }], guard := none }) rfl (fun K hK => ?_) AllReadyH.nil
          go_simp
          go_at_call 68
          refine (take_n (unhide HP14).drew (unhide E15)).mono ?_
          rintro e w23 ⟨rfl, hp, hf⟩
          have HP23 := hide hp
          have HF23 := hide ((unhide HF14).drew.fr2 hf)
          have HB23 : Hid (Blk _ n t #[a0, a1, a2, a3, a4, .bool true, .bool false, .bool false, .bool false, .int .i64 0, .int .i64 0, b0, b1, b2, b3, b4]) := hf.blk (unhide HB14).drew hn
          clear hp hf
          go_wp2_with fail
          refine hK.out _ _ ?_ (fun hHeld => ?_)
          · trivial
          clear hK K
          try simp only [Act.put, List.setIfInBounds_toArray, List.set_cons_zero, List.set_cons_succ]
          refine wpAnyH_take (i := 4) (oi := { dst := some 47, op := Op.unOp UnOp.not 4 (Operand.tmp 46), type := 4, pos := "types.go:135", after := #[{ on := 3, ground := Ground.data }], guard := none }) (v := ?_) rfl (by kernel_rfl) (by kernel_rfl) (by kernel_rfl) (fun _ _ _ h => h) (Or.inl ⟨by rfl, ?_⟩) (by assumption) ?_
          rotate_left
          · intro w hSw
            go_simp
            try with_reducible rfl
          try simp only [Act.put, List.setIfInBounds_toArray, List.set_cons_zero, List.set_cons_succ]
          refine wpAnyH_take (i := 5) (oi := { dst := some 48, op := Op.move (Operand.tmp 47), type := 4, pos := "types.go:135", after := #[{ on := 4, ground := Ground.data }, { on := 3, ground := Ground.chain }], guard := none }) (v := ?_) rfl (by kernel_rfl) (by kernel_rfl) (by kernel_rfl) (fun _ _ _ h => h) (Or.inl ⟨by rfl, ?_⟩) (by assumption) ?_
          rotate_left
          · intro w hSw
            go_simp
            try with_reducible rfl
          try simp only [Act.put, List.setIfInBounds_toArray, List.set_cons_zero, List.set_cons_succ]
          refine wpAnyH_take (i := 6) (oi := { dst := some 49, op := Op.move (Operand.tmp 0), type := 83, pos := "types.go:135", after := #[{ on := 5, ground := Ground.guard }], guard := some (5, true) }) (v := ?_) rfl (by kernel_rfl) (by kernel_rfl) (by kernel_rfl) (fun _ _ _ h => h) (Or.inl ⟨by rfl, ?_⟩) (by assumption) ?_
          rotate_left
          · intro w hSw
            go_simp
            try with_reducible rfl
          try simp only [Act.put, List.setIfInBounds_toArray, List.set_cons_zero, List.set_cons_succ]
          refine wpAnyH_take (i := 7) (oi := { dst := some 50, op := Op.move (Operand.tmp 1), type := 155, pos := "types.go:135", after := #[{ on := 5, ground := Ground.guard }], guard := some (5, true) }) (v := ?_) rfl (by kernel_rfl) (by kernel_rfl) (by kernel_rfl) (fun _ _ _ h => h) (Or.inl ⟨by rfl, ?_⟩) (by assumption) ?_
          rotate_left
          · intro w hSw
            go_simp
            try with_reducible rfl
          try simp only [Act.put, List.setIfInBounds_toArray, List.set_cons_zero, List.set_cons_succ]
          refine wpAnyH_take (i := 8) (oi := { dst := some 51, op := Op.nilCheck (Operand.tmp 50), type := 0, pos := "types.go:135", after := #[{ on := 7, ground := Ground.data }, { on := 5, ground := Ground.guard }], guard := some (5, true) }) (v := ?_) rfl (by kernel_rfl) (by kernel_rfl) (by kernel_rfl) (fun _ _ _ h => h) (Or.inl ⟨by rfl, ?_⟩) (by assumption) ?_
          rotate_left
          · intro w hSw
            go_simp
            try with_reducible rfl
          try simp only [Act.put, List.setIfInBounds_toArray, List.set_cons_zero, List.set_cons_succ]
          refine wpAnyH_take (i := 9) (oi := { dst := some 52, op := Op.fieldAddr 36 (Operand.tmp 51) 5, type := 0, pos := "types.go:135", after := #[{ on := 8, ground := Ground.data }, { on := 5, ground := Ground.guard }], guard := some (5, true) }) (v := ?_) rfl (by kernel_rfl) (by kernel_rfl) (by kernel_rfl) (fun _ _ _ h => h) (Or.inl ⟨by rfl, ?_⟩) (by assumption) ?_
          rotate_left
          · intro w hSw
            go_simp
            try with_reducible rfl
          try simp only [Act.put, List.setIfInBounds_toArray, List.set_cons_zero, List.set_cons_succ]
          refine wpAnyH_take (i := 10) (oi := { dst := some 53, op := Op.move (Operand.tmp 1), type := 155, pos := "types.go:135", after := #[{ on := 5, ground := Ground.guard }], guard := some (5, true) }) (v := ?_) rfl (by kernel_rfl) (by kernel_rfl) (by kernel_rfl) (fun _ _ _ h => h) (Or.inl ⟨by rfl, ?_⟩) (by assumption) ?_
          rotate_left
          · intro w hSw
            go_simp
            try with_reducible rfl
          try simp only [Act.put, List.setIfInBounds_toArray, List.set_cons_zero, List.set_cons_succ]
          refine wpAnyH_take (i := 11) (oi := { dst := some 54, op := Op.nilCheck (Operand.tmp 53), type := 0, pos := "types.go:135", after := #[{ on := 10, ground := Ground.data }, { on := 5, ground := Ground.guard }], guard := some (5, true) }) (v := ?_) rfl (by kernel_rfl) (by kernel_rfl) (by kernel_rfl) (fun _ _ _ h => h) (Or.inl ⟨by rfl, ?_⟩) (by assumption) ?_
          rotate_left
          · intro w hSw
            go_simp
            try with_reducible rfl
          try simp only [Act.put, List.setIfInBounds_toArray, List.set_cons_zero, List.set_cons_succ]
          refine wpAnyH_take (i := 12) (oi := { dst := some 55, op := Op.fieldAddr 36 (Operand.tmp 54) 2, type := 0, pos := "types.go:135", after := #[{ on := 11, ground := Ground.data }, { on := 5, ground := Ground.guard }], guard := some (5, true) }) (v := ?_) rfl (by kernel_rfl) (by kernel_rfl) (by kernel_rfl) (fun _ _ _ h => h) (Or.inl ⟨by rfl, ?_⟩) (by assumption) ?_
          rotate_left
          · intro w hSw
            go_simp
            try with_reducible rfl
          try simp only [Act.put, List.setIfInBounds_toArray, List.set_cons_zero, List.set_cons_succ]
          refine wpAnyH_ready (rs := [13]) (by kernel_rfl) (by simp) ?_
          refine AllReadyH.cons (o := { dst := some 56, op := Op.call { callee := Callee.value (Operand.func 130), args := #[Operand.tmp 49, Operand.tmp 52, Operand.tmp 55], argTypes := #[83, 174, 175] }, type := 4, pos := "types.go:135", after := #[{ on := 6, ground := Ground.data }, { on := 9, ground := Ground.data }, { on := 12, ground := Ground.data }, { on := 5, ground := Ground.chain }, { on := 5, ground := Ground.guard }], guard := some (5, true) }) rfl (fun K hK => ?_) AllReadyH.nil
          go_simp
          go_at_call 130
          have HQ27 := hide (bound_q (unhide HP23) hN (unhide HB23) hn (o1 := 10) (o2 := 7) (by simp) (by simp))
          rw [unhide E25] at HQ27
          refine (unhide HQ27).mono ?_
          rintro e w27 ⟨⟨rfl, hp, hb⟩, hf⟩
          have HP27 := hide hp
          have HB27 : Hid (Blk _ n t #[a0, a1, a2, a3, a4, .bool true, .bool false, .bool true, .bool false, .int .i64 0, .int .i64 v24, b0, b1, b2, b3, b4]) := hb
          have HF27 := hide ((unhide HF23).trans hf)
          clear hp hb hf HQ27
          go_wp2_with fail
          refine hK.out _ _ ?_ (fun hHeld => ?_)
          · trivial
          clear hK K
          try simp only [Act.put, List.setIfInBounds_toArray, List.set_cons_zero, List.set_cons_succ]
          refine wpAnyH_take (i := 14) (oi := { dst := some 57, op := Op.unOp UnOp.not 4 (Operand.tmp 56), type := 4, pos := "types.go:135", after := #[{ on := 13, ground := Ground.data }, { on := 5, ground := Ground.guard }], guard := some (5, true) }) (v := ?_) rfl (by kernel_rfl) (by kernel_rfl) (by kernel_rfl) (fun _ _ _ h => h) (Or.inl ⟨by rfl, ?_⟩) (by assumption) ?_
          rotate_left
          · intro w hSw
            go_simp
            try with_reducible rfl
          try simp only [Act.put, List.setIfInBounds_toArray, List.set_cons_zero, List.set_cons_succ]
          refine wpAnyH_take (i := 15) (oi := { dst := some 58, op := Op.pick (Operand.tmp 48) (Operand.tmp 57) (Operand.const (Value.bool false)), type := 4, pos := "types.go:135", after := #[{ on := 5, ground := Ground.data }, { on := 14, ground := Ground.data }], guard := none }) (v := ?_) rfl (by kernel_rfl) (by kernel_rfl) (by kernel_rfl) (fun _ _ _ h => h) (Or.inl ⟨by rfl, ?_⟩) (by assumption) ?_
          rotate_left
          · intro w hSw
            go_simp
            try with_reducible rfl
          try simp only [Act.put, List.setIfInBounds_toArray, List.set_cons_zero, List.set_cons_succ]
          refine wpAnyH_done (by kernel_rfl) ?_ _
          rcases Bool.eq_false_or_eq_true (isT l j24 s_cm) with hb28 | hb28
          · have E28 := hide hb28
            clear hb28
            go_wp2_with fail
            refine (take_y (unhide HP27) (unhide E28)).mono ?_
            rintro e w29 ⟨rfl, hp, hf⟩
            have HP29 := hide hp
            have HF29 := hide ((unhide HF27).fr2 hf)
            have HB29 : Hid (Blk _ n t #[a0, a1, a2, a3, a4, .bool true, .bool false, .bool true, .bool false, .int .i64 0, .int .i64 v24, b0, b1, b2, b3, b4]) := hf.blk (unhide HB27) hn
            clear hp hf
            obtain ⟨hc30, hf30, _⟩ := (unhide HB29).facts
            have HP30 := hide ((unhide HP29).far hn 8 (.bool true))
            have HB30 : Hid (Blk _ n t #[a0, a1, a2, a3, a4, .bool true, .bool false, .bool true, .bool true, .int .i64 0, .int .i64 v24, b0, b1, b2, b3, b4]) := (unhide HB29).set_ 8 (.bool true)
            have HF30 := hide ((unhide HF29).set2 8 (.bool true))
            rcases hr32 : wantT l (j24 + 1) s_dots with ⟨p32, x32⟩ | k31
            · have E32 := hide hr32
              clear hr32
              go_wp2_with fail
              clear hc30 hf30
              refine (want_n (unhide HP30) (unhide E32)).mono ?_
              rintro e w31 ⟨rfl, hp, hf⟩
              have HP31 := hide hp
              have HF31 := hide ((unhide HF30).fs2 hf)
              clear hp hf
              go_wp2
              go_ret
              have hE : boundsT l i = .error (p32, x32) := by simp [boundsT, unhide E11, unhide E13, unhide E15, unhide E25, unhide E28, unhide E32, bind, Except.bind, pure, Except.pure]
              rw [hE]
              exact ⟨⟨rfl, unhide HP31⟩, unhide HF31⟩
            · have E32 := hide hr32
              clear hr32
              go_wp2_with fail
              clear hc30 hf30
              refine (want_y (unhide HP30) (unhide E32)).mono ?_
              rintro e w31 ⟨rfl, hp, hf⟩
              have HP31 := hide hp
              have HF31 := hide ((unhide HF30).fs2 hf)
              have HB31 : Hid (Blk _ n t #[a0, a1, a2, a3, a4, .bool true, .bool false, .bool true, .bool true, .int .i64 0, .int .i64 v24, b0, b1, b2, b3, b4]) := hf.blk1 (unhide HB30) hn
              clear hp hf
              go_wp2
              go_ret
              have hE : boundsT l i = .ok (⟨true, false, true, true, 0, v24⟩, k31) := by simp [boundsT, unhide E11, unhide E13, unhide E15, unhide E25, unhide E28, unhide E32, bind, Except.bind, pure, Except.pure]
              rw [hE]
              exact ⟨⟨rfl, unhide HP31, unhide HB31⟩, unhide HF31⟩
          · have E28 := hide hb28
            clear hb28
            go_wp2_with fail
            refine (take_n (unhide HP27) (unhide E28)).mono ?_
            rintro e w33 ⟨rfl, hp, hf⟩
            have HP33 := hide hp
            have HF33 := hide ((unhide HF27).fr2 hf)
            have HB33 : Hid (Blk _ n t #[a0, a1, a2, a3, a4, .bool true, .bool false, .bool true, .bool false, .int .i64 0, .int .i64 v24, b0, b1, b2, b3, b4]) := hf.blk (unhide HB27) hn
            clear hp hf
            go_wp2
            go_ret
            have hE : boundsT l i = .ok (⟨true, false, true, false, 0, v24⟩, j24) := by simp [boundsT, unhide E11, unhide E13, unhide E15, unhide E25, unhide E28, bind, Except.bind, pure, Except.pure]
            rw [hE]
            exact ⟨⟨rfl, unhide HP33, unhide HB33⟩, unhide HF33⟩
    · have E13 := hide hb13
      clear hb13
      go_wp2_with fail
      refine (take_n (unhide HP12) (unhide E13)).mono ?_
      rintro e w34 ⟨rfl, hp, hf⟩
      have HP34 := hide hp
      have HF34 := hide ((unhide HF12).fr2 hf)
      have HB34 : Hid (Blk _ n t #[a0, a1, a2, a3, a4, .bool true, .bool false, .bool false, .bool false, .int .i64 0, .int .i64 0, b0, b1, b2, b3, b4]) := hf.blk (unhide HB12) hn
      clear hp hf
      obtain ⟨hc35, hf35, _⟩ := (unhide HB34).facts
      have HP35 := hide (((unhide HP34).drew.far hn 10 (.int .i64 0)).far hn 7 (.bool false))
      have HB35 : Hid (Blk _ n t #[a0, a1, a2, a3, a4, .bool true, .bool false, .bool false, .bool false, .int .i64 0, .int .i64 0, b0, b1, b2, b3, b4]) := ((unhide HB34).drew.set_ 10 (.int .i64 0)).set_ 7 (.bool false)
      have HF35 := hide (((unhide HF34).drew.set2 10 (.int .i64 0)).set2 7 (.bool false))
      go_wp2
      go_region
      clear hc35 hf35
      rcases Bool.eq_false_or_eq_true (isT l (i + 1) s_cm) with hb36 | hb36
      · have E36 := hide hb36
        clear hb36
        go_wp2_with fail
        refine (take_y (unhide HP35) (unhide E36)).mono ?_
        rintro e w37 ⟨rfl, hp, hf⟩
        have HP37 := hide hp
        have HF37 := hide ((unhide HF35).fr2 hf)
        have HB37 : Hid (Blk _ n t #[a0, a1, a2, a3, a4, .bool true, .bool false, .bool false, .bool false, .int .i64 0, .int .i64 0, b0, b1, b2, b3, b4]) := hf.blk (unhide HB35) hn
        clear hp hf
        obtain ⟨hc38, hf38, _⟩ := (unhide HB37).facts
        have HP38 := hide ((unhide HP37).far hn 8 (.bool true))
        have HB38 : Hid (Blk _ n t #[a0, a1, a2, a3, a4, .bool true, .bool false, .bool false, .bool true, .int .i64 0, .int .i64 0, b0, b1, b2, b3, b4]) := (unhide HB37).set_ 8 (.bool true)
        have HF38 := hide ((unhide HF37).set2 8 (.bool true))
        rcases hr40 : wantT l ((i + 1) + 1) s_dots with ⟨p40, x40⟩ | k39
        · have E40 := hide hr40
          clear hr40
          go_wp2_with fail
          clear hc38 hf38
          refine (want_n (unhide HP38) (unhide E40)).mono ?_
          rintro e w39 ⟨rfl, hp, hf⟩
          have HP39 := hide hp
          have HF39 := hide ((unhide HF38).fs2 hf)
          clear hp hf
          go_wp2
          go_ret
          have hE : boundsT l i = .error (p40, x40) := by simp [boundsT, unhide E11, unhide E13, unhide E36, unhide E40, bind, Except.bind, pure, Except.pure]
          rw [hE]
          exact ⟨⟨rfl, unhide HP39⟩, unhide HF39⟩
        · have E40 := hide hr40
          clear hr40
          go_wp2_with fail
          clear hc38 hf38
          refine (want_y (unhide HP38) (unhide E40)).mono ?_
          rintro e w39 ⟨rfl, hp, hf⟩
          have HP39 := hide hp
          have HF39 := hide ((unhide HF38).fs2 hf)
          have HB39 : Hid (Blk _ n t #[a0, a1, a2, a3, a4, .bool true, .bool false, .bool false, .bool true, .int .i64 0, .int .i64 0, b0, b1, b2, b3, b4]) := hf.blk1 (unhide HB38) hn
          clear hp hf
          go_wp2
          go_ret
          have hE : boundsT l i = .ok (⟨true, false, false, true, 0, 0⟩, k39) := by simp [boundsT, unhide E11, unhide E13, unhide E36, unhide E40, bind, Except.bind, pure, Except.pure]
          rw [hE]
          exact ⟨⟨rfl, unhide HP39, unhide HB39⟩, unhide HF39⟩
      · have E36 := hide hb36
        clear hb36
        go_wp2_with fail
        refine (take_n (unhide HP35) (unhide E36)).mono ?_
        rintro e w41 ⟨rfl, hp, hf⟩
        have HP41 := hide hp
        have HF41 := hide ((unhide HF35).fr2 hf)
        have HB41 : Hid (Blk _ n t #[a0, a1, a2, a3, a4, .bool true, .bool false, .bool false, .bool false, .int .i64 0, .int .i64 0, b0, b1, b2, b3, b4]) := hf.blk (unhide HB35) hn
        clear hp hf
        go_wp2
        go_ret
        have hE : boundsT l i = .ok (⟨true, false, false, false, 0, 0⟩, (i + 1)) := by simp [boundsT, unhide E11, unhide E13, unhide E36, bind, Except.bind, pure, Except.pure]
        rw [hE]
        exact ⟨⟨rfl, unhide HP41, unhide HB41⟩, unhide HF41⟩
  · have E11 := hide hb11
    clear hb11
    rcases hr44 : numberT l i with ⟨p44, x44⟩ | ⟨v43, j43⟩
    · have E44 := hide hr44
      clear hr44
      refine wp_region_held_drew (S := fun _ => True) (by kernel_rfl) trivial (fun hHeld => ?_)
      refine wpAnyH_take (i := 0) (oi := { dst := some 8, op := Op.move (Operand.tmp 0), type := 83, pos := "types.go:130", after := #[], guard := none }) (v := ?_) rfl (by kernel_rfl) (by kernel_rfl) (by kernel_rfl) (fun _ _ _ h => h) (Or.inl ⟨by rfl, ?_⟩) (by assumption) ?_
      rotate_left
      · intro w hSw
        go_simp
        try with_reducible rfl
      try simp only [Act.put, List.setIfInBounds_toArray, List.set_cons_zero, List.set_cons_succ]
      refine wpAnyH_take (i := 1) (oi := { dst := some 9, op := Op.nilCheck (Operand.tmp 8), type := 0, pos := "types.go:130", after := #[{ on := 0, ground := Ground.data }], guard := none }) (v := ?_) rfl (by kernel_rfl) (by kernel_rfl) (by kernel_rfl) (fun _ _ _ h => h) (Or.inl ⟨by rfl, ?_⟩) (by assumption) ?_
      rotate_left
      · intro w hSw
        go_simp
        try with_reducible rfl
      try simp only [Act.put, List.setIfInBounds_toArray, List.set_cons_zero, List.set_cons_succ]
      refine wpAnyH_take (i := 2) (oi := { dst := some 10, op := Op.fieldAddr 59 (Operand.tmp 9) 0, type := 0, pos := "types.go:130", after := #[{ on := 1, ground := Ground.data }], guard := none }) (v := ?_) rfl (by kernel_rfl) (by kernel_rfl) (by kernel_rfl) (fun _ _ _ h => h) (Or.inl ⟨by rfl, ?_⟩) (by assumption) ?_
      rotate_left
      · intro w hSw
        go_simp
        try with_reducible rfl
      try simp only [Act.put, List.setIfInBounds_toArray, List.set_cons_zero, List.set_cons_succ]
      refine wpAnyH_ready (rs := [3]) (by kernel_rfl) (by simp) ?_
      refine AllReadyH.cons (o := { dst := some 11, op := Op.call { callee := Callee.value (Operand.func 68), args := #[Operand.tmp 10, Operand.const (Value.string { data := #[77, 73, 78] })], argTypes := #[56, 9] }, type := 4, pos := "types.go:130", after := #[{ on := 2, ground := Ground.data }], guard := none }) rfl (fun K hK => ?_) AllReadyH.nil
      go_simp
      go_at_call 68
      refine (take_n (unhide HP1).drew (unhide E11)).mono ?_
      rintro e w42 ⟨rfl, hp, hf⟩
      have HP42 := hide hp
      have HF42 := hide ((unhide HF1).drew.fr2 hf)
      have HB42 : Hid (Blk _ n t #[a0, a1, a2, a3, a4, .bool true, .bool false, .bool false, .bool false, .int .i64 0, .int .i64 0, b0, b1, b2, b3, b4]) := hf.blk (unhide HB1).drew hn
      clear hp hf
      go_wp2_with fail
      refine hK.out _ _ ?_ (fun hHeld => ?_)
      · trivial
      clear hK K
      try simp only [Act.put, List.setIfInBounds_toArray, List.set_cons_zero, List.set_cons_succ]
      refine wpAnyH_take (i := 4) (oi := { dst := some 12, op := Op.unOp UnOp.not 4 (Operand.tmp 11), type := 4, pos := "types.go:130", after := #[{ on := 3, ground := Ground.data }], guard := none }) (v := ?_) rfl (by kernel_rfl) (by kernel_rfl) (by kernel_rfl) (fun _ _ _ h => h) (Or.inl ⟨by rfl, ?_⟩) (by assumption) ?_
      rotate_left
      · intro w hSw
        go_simp
        try with_reducible rfl
      try simp only [Act.put, List.setIfInBounds_toArray, List.set_cons_zero, List.set_cons_succ]
      refine wpAnyH_take (i := 5) (oi := { dst := some 13, op := Op.move (Operand.tmp 12), type := 4, pos := "types.go:130", after := #[{ on := 4, ground := Ground.data }, { on := 3, ground := Ground.chain }], guard := none }) (v := ?_) rfl (by kernel_rfl) (by kernel_rfl) (by kernel_rfl) (fun _ _ _ h => h) (Or.inl ⟨by rfl, ?_⟩) (by assumption) ?_
      rotate_left
      · intro w hSw
        go_simp
        try with_reducible rfl
      try simp only [Act.put, List.setIfInBounds_toArray, List.set_cons_zero, List.set_cons_succ]
      refine wpAnyH_take (i := 6) (oi := { dst := some 14, op := Op.move (Operand.tmp 0), type := 83, pos := "types.go:130", after := #[{ on := 5, ground := Ground.guard }], guard := some (5, true) }) (v := ?_) rfl (by kernel_rfl) (by kernel_rfl) (by kernel_rfl) (fun _ _ _ h => h) (Or.inl ⟨by rfl, ?_⟩) (by assumption) ?_
      rotate_left
      · intro w hSw
        go_simp
        try with_reducible rfl
      try simp only [Act.put, List.setIfInBounds_toArray, List.set_cons_zero, List.set_cons_succ]
      refine wpAnyH_take (i := 7) (oi := { dst := some 15, op := Op.move (Operand.tmp 1), type := 155, pos := "types.go:130", after := #[{ on := 5, ground := Ground.guard }], guard := some (5, true) }) (v := ?_) rfl (by kernel_rfl) (by kernel_rfl) (by kernel_rfl) (fun _ _ _ h => h) (Or.inl ⟨by rfl, ?_⟩) (by assumption) ?_
      rotate_left
      · intro w hSw
        go_simp
        try with_reducible rfl
      try simp only [Act.put, List.setIfInBounds_toArray, List.set_cons_zero, List.set_cons_succ]
      refine wpAnyH_take (i := 8) (oi := { dst := some 16, op := Op.nilCheck (Operand.tmp 15), type := 0, pos := "types.go:130", after := #[{ on := 7, ground := Ground.data }, { on := 5, ground := Ground.guard }], guard := some (5, true) }) (v := ?_) rfl (by kernel_rfl) (by kernel_rfl) (by kernel_rfl) (fun _ _ _ h => h) (Or.inl ⟨by rfl, ?_⟩) (by assumption) ?_
      rotate_left
      · intro w hSw
        go_simp
        try with_reducible rfl
      try simp only [Act.put, List.setIfInBounds_toArray, List.set_cons_zero, List.set_cons_succ]
      refine wpAnyH_take (i := 9) (oi := { dst := some 17, op := Op.fieldAddr 36 (Operand.tmp 16) 4, type := 0, pos := "types.go:130", after := #[{ on := 8, ground := Ground.data }, { on := 5, ground := Ground.guard }], guard := some (5, true) }) (v := ?_) rfl (by kernel_rfl) (by kernel_rfl) (by kernel_rfl) (fun _ _ _ h => h) (Or.inl ⟨by rfl, ?_⟩) (by assumption) ?_
      rotate_left
      · intro w hSw
        go_simp
        try with_reducible rfl
      try simp only [Act.put, List.setIfInBounds_toArray, List.set_cons_zero, List.set_cons_succ]
      refine wpAnyH_take (i := 10) (oi := { dst := some 18, op := Op.move (Operand.tmp 1), type := 155, pos := "types.go:130", after := #[{ on := 5, ground := Ground.guard }], guard := some (5, true) }) (v := ?_) rfl (by kernel_rfl) (by kernel_rfl) (by kernel_rfl) (fun _ _ _ h => h) (Or.inl ⟨by rfl, ?_⟩) (by assumption) ?_
      rotate_left
      · intro w hSw
        go_simp
        try with_reducible rfl
      try simp only [Act.put, List.setIfInBounds_toArray, List.set_cons_zero, List.set_cons_succ]
      refine wpAnyH_take (i := 11) (oi := { dst := some 19, op := Op.nilCheck (Operand.tmp 18), type := 0, pos := "types.go:130", after := #[{ on := 10, ground := Ground.data }, { on := 5, ground := Ground.guard }], guard := some (5, true) }) (v := ?_) rfl (by kernel_rfl) (by kernel_rfl) (by kernel_rfl) (fun _ _ _ h => h) (Or.inl ⟨by rfl, ?_⟩) (by assumption) ?_
      rotate_left
      · intro w hSw
        go_simp
        try with_reducible rfl
      try simp only [Act.put, List.setIfInBounds_toArray, List.set_cons_zero, List.set_cons_succ]
      refine wpAnyH_take (i := 12) (oi := { dst := some 20, op := Op.fieldAddr 36 (Operand.tmp 19) 1, type := 0, pos := "types.go:130", after := #[{ on := 11, ground := Ground.data }, { on := 5, ground := Ground.guard }], guard := some (5, true) }) (v := ?_) rfl (by kernel_rfl) (by kernel_rfl) (by kernel_rfl) (fun _ _ _ h => h) (Or.inl ⟨by rfl, ?_⟩) (by assumption) ?_
      rotate_left
      · intro w hSw
        go_simp
        try with_reducible rfl
      try simp only [Act.put, List.setIfInBounds_toArray, List.set_cons_zero, List.set_cons_succ]
      refine wpAnyH_ready (rs := [13]) (by kernel_rfl) (by simp) ?_
      refine AllReadyH.cons (o := { dst := some 21, op := Op.call { callee := Callee.value (Operand.func 130), args := #[Operand.tmp 14, Operand.tmp 17, Operand.tmp 20], argTypes := #[83, 174, 175] }, type := 4, pos := "types.go:130", after := #[{ on := 6, ground := Ground.data }, { on := 9, ground := Ground.data }, { on := 12, ground := Ground.data }, { on := 5, ground := Ground.chain }, { on := 5, ground := Ground.guard }], guard := some (5, true) }) rfl (fun K hK => ?_) AllReadyH.nil
      go_simp
      go_at_call 130
      have HQ45 := hide (bound_q (unhide HP42) hN (unhide HB42) hn (o1 := 9) (o2 := 6) (by simp) (by simp))
      rw [unhide E44] at HQ45
      refine (unhide HQ45).mono ?_
      rintro e w45 ⟨⟨rfl, hp⟩, hf⟩
      have HP45 := hide hp
      have HF45 := hide ((unhide HF42).trans hf)
      clear hp hf HQ45
      go_wp2_with fail
      refine hK.out _ _ ?_ (fun hHeld => ?_)
      · trivial
      clear hK K
      try simp only [Act.put, List.setIfInBounds_toArray, List.set_cons_zero, List.set_cons_succ]
      refine wpAnyH_take (i := 14) (oi := { dst := some 22, op := Op.unOp UnOp.not 4 (Operand.tmp 21), type := 4, pos := "types.go:130", after := #[{ on := 13, ground := Ground.data }, { on := 5, ground := Ground.guard }], guard := some (5, true) }) (v := ?_) rfl (by kernel_rfl) (by kernel_rfl) (by kernel_rfl) (fun _ _ _ h => h) (Or.inl ⟨by rfl, ?_⟩) (by assumption) ?_
      rotate_left
      · intro w hSw
        go_simp
        try with_reducible rfl
      try simp only [Act.put, List.setIfInBounds_toArray, List.set_cons_zero, List.set_cons_succ]
      refine wpAnyH_take (i := 15) (oi := { dst := some 23, op := Op.pick (Operand.tmp 13) (Operand.tmp 22) (Operand.const (Value.bool false)), type := 4, pos := "types.go:130", after := #[{ on := 5, ground := Ground.data }, { on := 14, ground := Ground.data }], guard := none }) (v := ?_) rfl (by kernel_rfl) (by kernel_rfl) (by kernel_rfl) (fun _ _ _ h => h) (Or.inl ⟨by rfl, ?_⟩) (by assumption) ?_
      rotate_left
      · intro w hSw
        go_simp
        try with_reducible rfl
      try simp only [Act.put, List.setIfInBounds_toArray, List.set_cons_zero, List.set_cons_succ]
      refine wpAnyH_done (by kernel_rfl) ?_ _
      go_wp2
      go_ret
      have hE : boundsT l i = .error (p44, x44) := by simp [boundsT, unhide E11, unhide E44, bind, Except.bind, pure, Except.pure]
      rw [hE]
      exact ⟨⟨rfl, unhide HP45⟩, unhide HF45⟩
    · have E44 := hide hr44
      clear hr44
      refine wp_region_held_drew (S := fun _ => True) (by kernel_rfl) trivial (fun hHeld => ?_)
      refine wpAnyH_take (i := 0) (oi := { dst := some 8, op := Op.move (Operand.tmp 0), type := 83, pos := "types.go:130", after := #[], guard := none }) (v := ?_) rfl (by kernel_rfl) (by kernel_rfl) (by kernel_rfl) (fun _ _ _ h => h) (Or.inl ⟨by rfl, ?_⟩) (by assumption) ?_
      rotate_left
      · intro w hSw
        go_simp
        try with_reducible rfl
      try simp only [Act.put, List.setIfInBounds_toArray, List.set_cons_zero, List.set_cons_succ]
      refine wpAnyH_take (i := 1) (oi := { dst := some 9, op := Op.nilCheck (Operand.tmp 8), type := 0, pos := "types.go:130", after := #[{ on := 0, ground := Ground.data }], guard := none }) (v := ?_) rfl (by kernel_rfl) (by kernel_rfl) (by kernel_rfl) (fun _ _ _ h => h) (Or.inl ⟨by rfl, ?_⟩) (by assumption) ?_
      rotate_left
      · intro w hSw
        go_simp
        try with_reducible rfl
      try simp only [Act.put, List.setIfInBounds_toArray, List.set_cons_zero, List.set_cons_succ]
      refine wpAnyH_take (i := 2) (oi := { dst := some 10, op := Op.fieldAddr 59 (Operand.tmp 9) 0, type := 0, pos := "types.go:130", after := #[{ on := 1, ground := Ground.data }], guard := none }) (v := ?_) rfl (by kernel_rfl) (by kernel_rfl) (by kernel_rfl) (fun _ _ _ h => h) (Or.inl ⟨by rfl, ?_⟩) (by assumption) ?_
      rotate_left
      · intro w hSw
        go_simp
        try with_reducible rfl
      try simp only [Act.put, List.setIfInBounds_toArray, List.set_cons_zero, List.set_cons_succ]
      refine wpAnyH_ready (rs := [3]) (by kernel_rfl) (by simp) ?_
      refine AllReadyH.cons (o := { dst := some 11, op := Op.call { callee := Callee.value (Operand.func 68), args := #[Operand.tmp 10, Operand.const (Value.string { data := #[77, 73, 78] })], argTypes := #[56, 9] }, type := 4, pos := "types.go:130", after := #[{ on := 2, ground := Ground.data }], guard := none }) rfl (fun K hK => ?_) AllReadyH.nil
      go_simp
      go_at_call 68
      refine (take_n (unhide HP1).drew (unhide E11)).mono ?_
      rintro e w42 ⟨rfl, hp, hf⟩
      have HP42 := hide hp
      have HF42 := hide ((unhide HF1).drew.fr2 hf)
      have HB42 : Hid (Blk _ n t #[a0, a1, a2, a3, a4, .bool true, .bool false, .bool false, .bool false, .int .i64 0, .int .i64 0, b0, b1, b2, b3, b4]) := hf.blk (unhide HB1).drew hn
      clear hp hf
      go_wp2_with fail
      refine hK.out _ _ ?_ (fun hHeld => ?_)
      · trivial
      clear hK K
      try simp only [Act.put, List.setIfInBounds_toArray, List.set_cons_zero, List.set_cons_succ]
      refine wpAnyH_take (i := 4) (oi := { dst := some 12, op := Op.unOp UnOp.not 4 (Operand.tmp 11), type := 4, pos := "types.go:130", after := #[{ on := 3, ground := Ground.data }], guard := none }) (v := ?_) rfl (by kernel_rfl) (by kernel_rfl) (by kernel_rfl) (fun _ _ _ h => h) (Or.inl ⟨by rfl, ?_⟩) (by assumption) ?_
      rotate_left
      · intro w hSw
        go_simp
        try with_reducible rfl
      try simp only [Act.put, List.setIfInBounds_toArray, List.set_cons_zero, List.set_cons_succ]
      refine wpAnyH_take (i := 5) (oi := { dst := some 13, op := Op.move (Operand.tmp 12), type := 4, pos := "types.go:130", after := #[{ on := 4, ground := Ground.data }, { on := 3, ground := Ground.chain }], guard := none }) (v := ?_) rfl (by kernel_rfl) (by kernel_rfl) (by kernel_rfl) (fun _ _ _ h => h) (Or.inl ⟨by rfl, ?_⟩) (by assumption) ?_
      rotate_left
      · intro w hSw
        go_simp
        try with_reducible rfl
      try simp only [Act.put, List.setIfInBounds_toArray, List.set_cons_zero, List.set_cons_succ]
      refine wpAnyH_take (i := 6) (oi := { dst := some 14, op := Op.move (Operand.tmp 0), type := 83, pos := "types.go:130", after := #[{ on := 5, ground := Ground.guard }], guard := some (5, true) }) (v := ?_) rfl (by kernel_rfl) (by kernel_rfl) (by kernel_rfl) (fun _ _ _ h => h) (Or.inl ⟨by rfl, ?_⟩) (by assumption) ?_
      rotate_left
      · intro w hSw
        go_simp
        try with_reducible rfl
      try simp only [Act.put, List.setIfInBounds_toArray, List.set_cons_zero, List.set_cons_succ]
      refine wpAnyH_take (i := 7) (oi := { dst := some 15, op := Op.move (Operand.tmp 1), type := 155, pos := "types.go:130", after := #[{ on := 5, ground := Ground.guard }], guard := some (5, true) }) (v := ?_) rfl (by kernel_rfl) (by kernel_rfl) (by kernel_rfl) (fun _ _ _ h => h) (Or.inl ⟨by rfl, ?_⟩) (by assumption) ?_
      rotate_left
      · intro w hSw
        go_simp
        try with_reducible rfl
      try simp only [Act.put, List.setIfInBounds_toArray, List.set_cons_zero, List.set_cons_succ]
      refine wpAnyH_take (i := 8) (oi := { dst := some 16, op := Op.nilCheck (Operand.tmp 15), type := 0, pos := "types.go:130", after := #[{ on := 7, ground := Ground.data }, { on := 5, ground := Ground.guard }], guard := some (5, true) }) (v := ?_) rfl (by kernel_rfl) (by kernel_rfl) (by kernel_rfl) (fun _ _ _ h => h) (Or.inl ⟨by rfl, ?_⟩) (by assumption) ?_
      rotate_left
      · intro w hSw
        go_simp
        try with_reducible rfl
      try simp only [Act.put, List.setIfInBounds_toArray, List.set_cons_zero, List.set_cons_succ]
      refine wpAnyH_take (i := 9) (oi := { dst := some 17, op := Op.fieldAddr 36 (Operand.tmp 16) 4, type := 0, pos := "types.go:130", after := #[{ on := 8, ground := Ground.data }, { on := 5, ground := Ground.guard }], guard := some (5, true) }) (v := ?_) rfl (by kernel_rfl) (by kernel_rfl) (by kernel_rfl) (fun _ _ _ h => h) (Or.inl ⟨by rfl, ?_⟩) (by assumption) ?_
      rotate_left
      · intro w hSw
        go_simp
        try with_reducible rfl
      try simp only [Act.put, List.setIfInBounds_toArray, List.set_cons_zero, List.set_cons_succ]
      refine wpAnyH_take (i := 10) (oi := { dst := some 18, op := Op.move (Operand.tmp 1), type := 155, pos := "types.go:130", after := #[{ on := 5, ground := Ground.guard }], guard := some (5, true) }) (v := ?_) rfl (by kernel_rfl) (by kernel_rfl) (by kernel_rfl) (fun _ _ _ h => h) (Or.inl ⟨by rfl, ?_⟩) (by assumption) ?_
      rotate_left
      · intro w hSw
        go_simp
        try with_reducible rfl
      try simp only [Act.put, List.setIfInBounds_toArray, List.set_cons_zero, List.set_cons_succ]
      refine wpAnyH_take (i := 11) (oi := { dst := some 19, op := Op.nilCheck (Operand.tmp 18), type := 0, pos := "types.go:130", after := #[{ on := 10, ground := Ground.data }, { on := 5, ground := Ground.guard }], guard := some (5, true) }) (v := ?_) rfl (by kernel_rfl) (by kernel_rfl) (by kernel_rfl) (fun _ _ _ h => h) (Or.inl ⟨by rfl, ?_⟩) (by assumption) ?_
      rotate_left
      · intro w hSw
        go_simp
        try with_reducible rfl
      try simp only [Act.put, List.setIfInBounds_toArray, List.set_cons_zero, List.set_cons_succ]
      refine wpAnyH_take (i := 12) (oi := { dst := some 20, op := Op.fieldAddr 36 (Operand.tmp 19) 1, type := 0, pos := "types.go:130", after := #[{ on := 11, ground := Ground.data }, { on := 5, ground := Ground.guard }], guard := some (5, true) }) (v := ?_) rfl (by kernel_rfl) (by kernel_rfl) (by kernel_rfl) (fun _ _ _ h => h) (Or.inl ⟨by rfl, ?_⟩) (by assumption) ?_
      rotate_left
      · intro w hSw
        go_simp
        try with_reducible rfl
      try simp only [Act.put, List.setIfInBounds_toArray, List.set_cons_zero, List.set_cons_succ]
      refine wpAnyH_ready (rs := [13]) (by kernel_rfl) (by simp) ?_
      refine AllReadyH.cons (o := { dst := some 21, op := Op.call { callee := Callee.value (Operand.func 130), args := #[Operand.tmp 14, Operand.tmp 17, Operand.tmp 20], argTypes := #[83, 174, 175] }, type := 4, pos := "types.go:130", after := #[{ on := 6, ground := Ground.data }, { on := 9, ground := Ground.data }, { on := 12, ground := Ground.data }, { on := 5, ground := Ground.chain }, { on := 5, ground := Ground.guard }], guard := some (5, true) }) rfl (fun K hK => ?_) AllReadyH.nil
      go_simp
      go_at_call 130
      have HQ46 := hide (bound_q (unhide HP42) hN (unhide HB42) hn (o1 := 9) (o2 := 6) (by simp) (by simp))
      rw [unhide E44] at HQ46
      refine (unhide HQ46).mono ?_
      rintro e w46 ⟨⟨rfl, hp, hb⟩, hf⟩
      have HP46 := hide hp
      have HB46 : Hid (Blk _ n t #[a0, a1, a2, a3, a4, .bool true, .bool true, .bool false, .bool false, .int .i64 v43, .int .i64 0, b0, b1, b2, b3, b4]) := hb
      have HF46 := hide ((unhide HF42).trans hf)
      clear hp hb hf HQ46
      go_wp2_with fail
      refine hK.out _ _ ?_ (fun hHeld => ?_)
      · trivial
      clear hK K
      try simp only [Act.put, List.setIfInBounds_toArray, List.set_cons_zero, List.set_cons_succ]
      refine wpAnyH_take (i := 14) (oi := { dst := some 22, op := Op.unOp UnOp.not 4 (Operand.tmp 21), type := 4, pos := "types.go:130", after := #[{ on := 13, ground := Ground.data }, { on := 5, ground := Ground.guard }], guard := some (5, true) }) (v := ?_) rfl (by kernel_rfl) (by kernel_rfl) (by kernel_rfl) (fun _ _ _ h => h) (Or.inl ⟨by rfl, ?_⟩) (by assumption) ?_
      rotate_left
      · intro w hSw
        go_simp
        try with_reducible rfl
      try simp only [Act.put, List.setIfInBounds_toArray, List.set_cons_zero, List.set_cons_succ]
      refine wpAnyH_take (i := 15) (oi := { dst := some 23, op := Op.pick (Operand.tmp 13) (Operand.tmp 22) (Operand.const (Value.bool false)), type := 4, pos := "types.go:130", after := #[{ on := 5, ground := Ground.data }, { on := 14, ground := Ground.data }], guard := none }) (v := ?_) rfl (by kernel_rfl) (by kernel_rfl) (by kernel_rfl) (fun _ _ _ h => h) (Or.inl ⟨by rfl, ?_⟩) (by assumption) ?_
      rotate_left
      · intro w hSw
        go_simp
        try with_reducible rfl
      try simp only [Act.put, List.setIfInBounds_toArray, List.set_cons_zero, List.set_cons_succ]
      refine wpAnyH_done (by kernel_rfl) ?_ _
      rcases Bool.eq_false_or_eq_true (isT l j43 s_dd) with hb47 | hb47
      · have E47 := hide hb47
        clear hb47
        go_wp2_with fail
        refine (take_y (unhide HP46) (unhide E47)).mono ?_
        rintro e w48 ⟨rfl, hp, hf⟩
        have HP48 := hide hp
        have HF48 := hide ((unhide HF46).fr2 hf)
        have HB48 : Hid (Blk _ n t #[a0, a1, a2, a3, a4, .bool true, .bool true, .bool false, .bool false, .int .i64 v43, .int .i64 0, b0, b1, b2, b3, b4]) := hf.blk (unhide HB46) hn
        clear hp hf
        go_wp2
        rcases Bool.eq_false_or_eq_true (isT l (j43 + 1) wMAX) with hb49 | hb49
        · have E49 := hide hb49
          clear hb49
          refine wp_region_held_drew (S := fun _ => True) (by kernel_rfl) trivial (fun hHeld => ?_)
          refine wpAnyH_take (i := 0) (oi := { dst := some 43, op := Op.move (Operand.tmp 0), type := 83, pos := "types.go:135", after := #[], guard := none }) (v := ?_) rfl (by kernel_rfl) (by kernel_rfl) (by kernel_rfl) (fun _ _ _ h => h) (Or.inl ⟨by rfl, ?_⟩) (by assumption) ?_
          rotate_left
          · intro w hSw
            go_simp
            try with_reducible rfl
          try simp only [Act.put, List.setIfInBounds_toArray, List.set_cons_zero, List.set_cons_succ]
          refine wpAnyH_take (i := 1) (oi := { dst := some 44, op := Op.nilCheck (Operand.tmp 43), type := 0, pos := "types.go:135", after := #[{ on := 0, ground := Ground.data }], guard := none }) (v := ?_) rfl (by kernel_rfl) (by kernel_rfl) (by kernel_rfl) (fun _ _ _ h => h) (Or.inl ⟨by rfl, ?_⟩) (by assumption) ?_
          rotate_left
          · intro w hSw
            go_simp
            try with_reducible rfl
          try simp only [Act.put, List.setIfInBounds_toArray, List.set_cons_zero, List.set_cons_succ]
          refine wpAnyH_take (i := 2) (oi := { dst := some 45, op := Op.fieldAddr 59 (Operand.tmp 44) 0, type := 0, pos := "types.go:135", after := #[{ on := 1, ground := Ground.data }], guard := none }) (v := ?_) rfl (by kernel_rfl) (by kernel_rfl) (by kernel_rfl) (fun _ _ _ h => h) (Or.inl ⟨by rfl, ?_⟩) (by assumption) ?_
          rotate_left
          · intro w hSw
            go_simp
            try with_reducible rfl
          try simp only [Act.put, List.setIfInBounds_toArray, List.set_cons_zero, List.set_cons_succ]
          refine wpAnyH_ready (rs := [3]) (by kernel_rfl) (by simp) ?_
          refine AllReadyH.cons (o := { dst := some 46, op := Op.call { callee := Callee.value (Operand.func 68), args := #[Operand.tmp 45, Operand.const (Value.string { data := #[77, 65, 88] })], argTypes := #[56, 9] }, type := 4, pos := "types.go:135", after := #[{ on := 2, ground := Ground.data }], guard := none }) rfl (fun K hK => ?_) AllReadyH.nil
          go_simp
          go_at_call 68
          refine (take_y (unhide HP48).drew (unhide E49)).mono ?_
          rintro e w50 ⟨rfl, hp, hf⟩
          have HP50 := hide hp
          have HF50 := hide ((unhide HF48).drew.fr2 hf)
          have HB50 : Hid (Blk _ n t #[a0, a1, a2, a3, a4, .bool true, .bool true, .bool false, .bool false, .int .i64 v43, .int .i64 0, b0, b1, b2, b3, b4]) := hf.blk (unhide HB48).drew hn
          clear hp hf
          go_wp2_with fail
          refine hK.out _ _ ?_ (fun hHeld => ?_)
          · trivial
          clear hK K
          try simp only [Act.put, List.setIfInBounds_toArray, List.set_cons_zero, List.set_cons_succ]
          refine wpAnyH_take (i := 4) (oi := { dst := some 47, op := Op.unOp UnOp.not 4 (Operand.tmp 46), type := 4, pos := "types.go:135", after := #[{ on := 3, ground := Ground.data }], guard := none }) (v := ?_) rfl (by kernel_rfl) (by kernel_rfl) (by kernel_rfl) (fun _ _ _ h => h) (Or.inl ⟨by rfl, ?_⟩) (by assumption) ?_
          rotate_left
          · intro w hSw
            go_simp
            try with_reducible rfl
          try simp only [Act.put, List.setIfInBounds_toArray, List.set_cons_zero, List.set_cons_succ]
          refine wpAnyH_take (i := 5) (oi := { dst := some 48, op := Op.move (Operand.tmp 47), type := 4, pos := "types.go:135", after := #[{ on := 4, ground := Ground.data }, { on := 3, ground := Ground.chain }], guard := none }) (v := ?_) rfl (by kernel_rfl) (by kernel_rfl) (by kernel_rfl) (fun _ _ _ h => h) (Or.inl ⟨by rfl, ?_⟩) (by assumption) ?_
          rotate_left
          · intro w hSw
            go_simp
            try with_reducible rfl
          try simp only [Act.put, List.setIfInBounds_toArray, List.set_cons_zero, List.set_cons_succ]
          refine wpAnyH_take (i := 6) (oi := { dst := some 49, op := Op.move (Operand.tmp 0), type := 83, pos := "types.go:135", after := #[{ on := 5, ground := Ground.guard }], guard := some (5, true) }) rfl (by kernel_rfl) (by kernel_rfl) (by kernel_rfl) (fun _ _ _ h => h) (Or.inr ⟨by rfl, rfl⟩) (by assumption) ?_
          try simp only [Act.put, List.setIfInBounds_toArray, List.set_cons_zero, List.set_cons_succ]
          refine wpAnyH_take (i := 7) (oi := { dst := some 50, op := Op.move (Operand.tmp 1), type := 155, pos := "types.go:135", after := #[{ on := 5, ground := Ground.guard }], guard := some (5, true) }) rfl (by kernel_rfl) (by kernel_rfl) (by kernel_rfl) (fun _ _ _ h => h) (Or.inr ⟨by rfl, rfl⟩) (by assumption) ?_
          try simp only [Act.put, List.setIfInBounds_toArray, List.set_cons_zero, List.set_cons_succ]
          refine wpAnyH_take (i := 8) (oi := { dst := some 51, op := Op.nilCheck (Operand.tmp 50), type := 0, pos := "types.go:135", after := #[{ on := 7, ground := Ground.data }, { on := 5, ground := Ground.guard }], guard := some (5, true) }) rfl (by kernel_rfl) (by kernel_rfl) (by kernel_rfl) (fun _ _ _ h => h) (Or.inr ⟨by rfl, rfl⟩) (by assumption) ?_
          try simp only [Act.put, List.setIfInBounds_toArray, List.set_cons_zero, List.set_cons_succ]
          refine wpAnyH_take (i := 9) (oi := { dst := some 52, op := Op.fieldAddr 36 (Operand.tmp 51) 5, type := 0, pos := "types.go:135", after := #[{ on := 8, ground := Ground.data }, { on := 5, ground := Ground.guard }], guard := some (5, true) }) rfl (by kernel_rfl) (by kernel_rfl) (by kernel_rfl) (fun _ _ _ h => h) (Or.inr ⟨by rfl, rfl⟩) (by assumption) ?_
          try simp only [Act.put, List.setIfInBounds_toArray, List.set_cons_zero, List.set_cons_succ]
          refine wpAnyH_take (i := 10) (oi := { dst := some 53, op := Op.move (Operand.tmp 1), type := 155, pos := "types.go:135", after := #[{ on := 5, ground := Ground.guard }], guard := some (5, true) }) rfl (by kernel_rfl) (by kernel_rfl) (by kernel_rfl) (fun _ _ _ h => h) (Or.inr ⟨by rfl, rfl⟩) (by assumption) ?_
          try simp only [Act.put, List.setIfInBounds_toArray, List.set_cons_zero, List.set_cons_succ]
          refine wpAnyH_take (i := 11) (oi := { dst := some 54, op := Op.nilCheck (Operand.tmp 53), type := 0, pos := "types.go:135", after := #[{ on := 10, ground := Ground.data }, { on := 5, ground := Ground.guard }], guard := some (5, true) }) rfl (by kernel_rfl) (by kernel_rfl) (by kernel_rfl) (fun _ _ _ h => h) (Or.inr ⟨by rfl, rfl⟩) (by assumption) ?_
          try simp only [Act.put, List.setIfInBounds_toArray, List.set_cons_zero, List.set_cons_succ]
          refine wpAnyH_take (i := 12) (oi := { dst := some 55, op := Op.fieldAddr 36 (Operand.tmp 54) 2, type := 0, pos := "types.go:135", after := #[{ on := 11, ground := Ground.data }, { on := 5, ground := Ground.guard }], guard := some (5, true) }) rfl (by kernel_rfl) (by kernel_rfl) (by kernel_rfl) (fun _ _ _ h => h) (Or.inr ⟨by rfl, rfl⟩) (by assumption) ?_
          try simp only [Act.put, List.setIfInBounds_toArray, List.set_cons_zero, List.set_cons_succ]
          refine wpAnyH_take (i := 13) (oi := { dst := some 56, op := Op.call { callee := Callee.value (Operand.func 130), args := #[Operand.tmp 49, Operand.tmp 52, Operand.tmp 55], argTypes := #[83, 174, 175] }, type := 4, pos := "types.go:135", after := #[{ on := 6, ground := Ground.data }, { on := 9, ground := Ground.data }, { on := 12, ground := Ground.data }, { on := 5, ground := Ground.chain }, { on := 5, ground := Ground.guard }], guard := some (5, true) }) rfl (by kernel_rfl) (by kernel_rfl) (by kernel_rfl) (fun _ _ _ h => h) (Or.inr ⟨by rfl, rfl⟩) (by assumption) ?_
          try simp only [Act.put, List.setIfInBounds_toArray, List.set_cons_zero, List.set_cons_succ]
          refine wpAnyH_take (i := 14) (oi := { dst := some 57, op := Op.unOp UnOp.not 4 (Operand.tmp 56), type := 4, pos := "types.go:135", after := #[{ on := 13, ground := Ground.data }, { on := 5, ground := Ground.guard }], guard := some (5, true) }) rfl (by kernel_rfl) (by kernel_rfl) (by kernel_rfl) (fun _ _ _ h => h) (Or.inr ⟨by rfl, rfl⟩) (by assumption) ?_
          try simp only [Act.put, List.setIfInBounds_toArray, List.set_cons_zero, List.set_cons_succ]
          refine wpAnyH_take (i := 15) (oi := { dst := some 58, op := Op.pick (Operand.tmp 48) (Operand.tmp 57) (Operand.const (Value.bool false)), type := 4, pos := "types.go:135", after := #[{ on := 5, ground := Ground.data }, { on := 14, ground := Ground.data }], guard := none }) (v := ?_) rfl (by kernel_rfl) (by kernel_rfl) (by kernel_rfl) (fun _ _ _ h => h) (Or.inl ⟨by rfl, ?_⟩) (by assumption) ?_
          rotate_left
          · intro w hSw
            go_simp
            try with_reducible rfl
          try simp only [Act.put, List.setIfInBounds_toArray, List.set_cons_zero, List.set_cons_succ]
          refine wpAnyH_done (by kernel_rfl) ?_ _
          rcases Bool.eq_false_or_eq_true (isT l ((j43 + 1) + 1) s_cm) with hb51 | hb51
          · have E51 := hide hb51
            clear hb51
            go_wp2_with fail
            refine (take_y (unhide HP50) (unhide E51)).mono ?_
            rintro e w52 ⟨rfl, hp, hf⟩
            have HP52 := hide hp
            have HF52 := hide ((unhide HF50).fr2 hf)
            have HB52 : Hid (Blk _ n t #[a0, a1, a2, a3, a4, .bool true, .bool true, .bool false, .bool false, .int .i64 v43, .int .i64 0, b0, b1, b2, b3, b4]) := hf.blk (unhide HB50) hn
            clear hp hf
            obtain ⟨hc53, hf53, _⟩ := (unhide HB52).facts
            have HP53 := hide ((unhide HP52).far hn 8 (.bool true))
            have HB53 : Hid (Blk _ n t #[a0, a1, a2, a3, a4, .bool true, .bool true, .bool false, .bool true, .int .i64 v43, .int .i64 0, b0, b1, b2, b3, b4]) := (unhide HB52).set_ 8 (.bool true)
            have HF53 := hide ((unhide HF52).set2 8 (.bool true))
            rcases hr55 : wantT l (((j43 + 1) + 1) + 1) s_dots with ⟨p55, x55⟩ | k54
            · have E55 := hide hr55
              clear hr55
              go_wp2_with fail
              clear hc53 hf53
              refine (want_n (unhide HP53) (unhide E55)).mono ?_
              rintro e w54 ⟨rfl, hp, hf⟩
              have HP54 := hide hp
              have HF54 := hide ((unhide HF53).fs2 hf)
              clear hp hf
              go_wp2
              go_ret
              have hE : boundsT l i = .error (p55, x55) := by simp [boundsT, unhide E11, unhide E44, unhide E47, unhide E49, unhide E51, unhide E55, bind, Except.bind, pure, Except.pure]
              rw [hE]
              exact ⟨⟨rfl, unhide HP54⟩, unhide HF54⟩
            · have E55 := hide hr55
              clear hr55
              go_wp2_with fail
              clear hc53 hf53
              refine (want_y (unhide HP53) (unhide E55)).mono ?_
              rintro e w54 ⟨rfl, hp, hf⟩
              have HP54 := hide hp
              have HF54 := hide ((unhide HF53).fs2 hf)
              have HB54 : Hid (Blk _ n t #[a0, a1, a2, a3, a4, .bool true, .bool true, .bool false, .bool true, .int .i64 v43, .int .i64 0, b0, b1, b2, b3, b4]) := hf.blk1 (unhide HB53) hn
              clear hp hf
              go_wp2
              go_ret
              have hE : boundsT l i = .ok (⟨true, true, false, true, v43, 0⟩, k54) := by simp [boundsT, unhide E11, unhide E44, unhide E47, unhide E49, unhide E51, unhide E55, bind, Except.bind, pure, Except.pure]
              rw [hE]
              exact ⟨⟨rfl, unhide HP54, unhide HB54⟩, unhide HF54⟩
          · have E51 := hide hb51
            clear hb51
            go_wp2_with fail
            refine (take_n (unhide HP50) (unhide E51)).mono ?_
            rintro e w56 ⟨rfl, hp, hf⟩
            have HP56 := hide hp
            have HF56 := hide ((unhide HF50).fr2 hf)
            have HB56 : Hid (Blk _ n t #[a0, a1, a2, a3, a4, .bool true, .bool true, .bool false, .bool false, .int .i64 v43, .int .i64 0, b0, b1, b2, b3, b4]) := hf.blk (unhide HB50) hn
            clear hp hf
            go_wp2
            go_ret
            have hE : boundsT l i = .ok (⟨true, true, false, false, v43, 0⟩, ((j43 + 1) + 1)) := by simp [boundsT, unhide E11, unhide E44, unhide E47, unhide E49, unhide E51, bind, Except.bind, pure, Except.pure]
            rw [hE]
            exact ⟨⟨rfl, unhide HP56, unhide HB56⟩, unhide HF56⟩
        · have E49 := hide hb49
          clear hb49
          rcases hr59 : numberT l (j43 + 1) with ⟨p59, x59⟩ | ⟨v58, j58⟩
          · have E59 := hide hr59
            clear hr59
            refine wp_region_held_drew (S := fun _ => True) (by kernel_rfl) trivial (fun hHeld => ?_)
            refine wpAnyH_take (i := 0) (oi := { dst := some 43, op := Op.move (Operand.tmp 0), type := 83, pos := "types.go:135", after := #[], guard := none }) (v := ?_) rfl (by kernel_rfl) (by kernel_rfl) (by kernel_rfl) (fun _ _ _ h => h) (Or.inl ⟨by rfl, ?_⟩) (by assumption) ?_
            rotate_left
            · intro w hSw
              go_simp
              try with_reducible rfl
            try simp only [Act.put, List.setIfInBounds_toArray, List.set_cons_zero, List.set_cons_succ]
            refine wpAnyH_take (i := 1) (oi := { dst := some 44, op := Op.nilCheck (Operand.tmp 43), type := 0, pos := "types.go:135", after := #[{ on := 0, ground := Ground.data }], guard := none }) (v := ?_) rfl (by kernel_rfl) (by kernel_rfl) (by kernel_rfl) (fun _ _ _ h => h) (Or.inl ⟨by rfl, ?_⟩) (by assumption) ?_
            rotate_left
            · intro w hSw
              go_simp
              try with_reducible rfl
            try simp only [Act.put, List.setIfInBounds_toArray, List.set_cons_zero, List.set_cons_succ]
            refine wpAnyH_take (i := 2) (oi := { dst := some 45, op := Op.fieldAddr 59 (Operand.tmp 44) 0, type := 0, pos := "types.go:135", after := #[{ on := 1, ground := Ground.data }], guard := none }) (v := ?_) rfl (by kernel_rfl) (by kernel_rfl) (by kernel_rfl) (fun _ _ _ h => h) (Or.inl ⟨by rfl, ?_⟩) (by assumption) ?_
            rotate_left
            · intro w hSw
              go_simp
              try with_reducible rfl
            try simp only [Act.put, List.setIfInBounds_toArray, List.set_cons_zero, List.set_cons_succ]
            refine wpAnyH_ready (rs := [3]) (by kernel_rfl) (by simp) ?_
            refine AllReadyH.cons (o := { dst := some 46, op := Op.call { callee := Callee.value (Operand.func 68), args := #[Operand.tmp 45, Operand.const (Value.string { data := #[77, 65, 88] })], argTypes := #[56, 9] }, type := 4, pos := "types.go:135", after := #[{ on := 2, ground := Ground.data }], guard := none }) rfl (fun K hK => ?_) AllReadyH.nil
            go_simp
            go_at_call 68
            refine (take_n (unhide HP48).drew (unhide E49)).mono ?_
            rintro e w57 ⟨rfl, hp, hf⟩
            have HP57 := hide hp
            have HF57 := hide ((unhide HF48).drew.fr2 hf)
            have HB57 : Hid (Blk _ n t #[a0, a1, a2, a3, a4, .bool true, .bool true, .bool false, .bool false, .int .i64 v43, .int .i64 0, b0, b1, b2, b3, b4]) := hf.blk (unhide HB48).drew hn
            clear hp hf
            go_wp2_with fail
            refine hK.out _ _ ?_ (fun hHeld => ?_)
            · trivial
            clear hK K
            try simp only [Act.put, List.setIfInBounds_toArray, List.set_cons_zero, List.set_cons_succ]
            refine wpAnyH_take (i := 4) (oi := { dst := some 47, op := Op.unOp UnOp.not 4 (Operand.tmp 46), type := 4, pos := "types.go:135", after := #[{ on := 3, ground := Ground.data }], guard := none }) (v := ?_) rfl (by kernel_rfl) (by kernel_rfl) (by kernel_rfl) (fun _ _ _ h => h) (Or.inl ⟨by rfl, ?_⟩) (by assumption) ?_
            rotate_left
            · intro w hSw
              go_simp
              try with_reducible rfl
            try simp only [Act.put, List.setIfInBounds_toArray, List.set_cons_zero, List.set_cons_succ]
            refine wpAnyH_take (i := 5) (oi := { dst := some 48, op := Op.move (Operand.tmp 47), type := 4, pos := "types.go:135", after := #[{ on := 4, ground := Ground.data }, { on := 3, ground := Ground.chain }], guard := none }) (v := ?_) rfl (by kernel_rfl) (by kernel_rfl) (by kernel_rfl) (fun _ _ _ h => h) (Or.inl ⟨by rfl, ?_⟩) (by assumption) ?_
            rotate_left
            · intro w hSw
              go_simp
              try with_reducible rfl
            try simp only [Act.put, List.setIfInBounds_toArray, List.set_cons_zero, List.set_cons_succ]
            refine wpAnyH_take (i := 6) (oi := { dst := some 49, op := Op.move (Operand.tmp 0), type := 83, pos := "types.go:135", after := #[{ on := 5, ground := Ground.guard }], guard := some (5, true) }) (v := ?_) rfl (by kernel_rfl) (by kernel_rfl) (by kernel_rfl) (fun _ _ _ h => h) (Or.inl ⟨by rfl, ?_⟩) (by assumption) ?_
            rotate_left
            · intro w hSw
              go_simp
              try with_reducible rfl
            try simp only [Act.put, List.setIfInBounds_toArray, List.set_cons_zero, List.set_cons_succ]
            refine wpAnyH_take (i := 7) (oi := { dst := some 50, op := Op.move (Operand.tmp 1), type := 155, pos := "types.go:135", after := #[{ on := 5, ground := Ground.guard }], guard := some (5, true) }) (v := ?_) rfl (by kernel_rfl) (by kernel_rfl) (by kernel_rfl) (fun _ _ _ h => h) (Or.inl ⟨by rfl, ?_⟩) (by assumption) ?_
            rotate_left
            · intro w hSw
              go_simp
              try with_reducible rfl
            try simp only [Act.put, List.setIfInBounds_toArray, List.set_cons_zero, List.set_cons_succ]
            refine wpAnyH_take (i := 8) (oi := { dst := some 51, op := Op.nilCheck (Operand.tmp 50), type := 0, pos := "types.go:135", after := #[{ on := 7, ground := Ground.data }, { on := 5, ground := Ground.guard }], guard := some (5, true) }) (v := ?_) rfl (by kernel_rfl) (by kernel_rfl) (by kernel_rfl) (fun _ _ _ h => h) (Or.inl ⟨by rfl, ?_⟩) (by assumption) ?_
            rotate_left
            · intro w hSw
              go_simp
              try with_reducible rfl
            try simp only [Act.put, List.setIfInBounds_toArray, List.set_cons_zero, List.set_cons_succ]
            refine wpAnyH_take (i := 9) (oi := { dst := some 52, op := Op.fieldAddr 36 (Operand.tmp 51) 5, type := 0, pos := "types.go:135", after := #[{ on := 8, ground := Ground.data }, { on := 5, ground := Ground.guard }], guard := some (5, true) }) (v := ?_) rfl (by kernel_rfl) (by kernel_rfl) (by kernel_rfl) (fun _ _ _ h => h) (Or.inl ⟨by rfl, ?_⟩) (by assumption) ?_
            rotate_left
            · intro w hSw
              go_simp
              try with_reducible rfl
            try simp only [Act.put, List.setIfInBounds_toArray, List.set_cons_zero, List.set_cons_succ]
            refine wpAnyH_take (i := 10) (oi := { dst := some 53, op := Op.move (Operand.tmp 1), type := 155, pos := "types.go:135", after := #[{ on := 5, ground := Ground.guard }], guard := some (5, true) }) (v := ?_) rfl (by kernel_rfl) (by kernel_rfl) (by kernel_rfl) (fun _ _ _ h => h) (Or.inl ⟨by rfl, ?_⟩) (by assumption) ?_
            rotate_left
            · intro w hSw
              go_simp
              try with_reducible rfl
            try simp only [Act.put, List.setIfInBounds_toArray, List.set_cons_zero, List.set_cons_succ]
            refine wpAnyH_take (i := 11) (oi := { dst := some 54, op := Op.nilCheck (Operand.tmp 53), type := 0, pos := "types.go:135", after := #[{ on := 10, ground := Ground.data }, { on := 5, ground := Ground.guard }], guard := some (5, true) }) (v := ?_) rfl (by kernel_rfl) (by kernel_rfl) (by kernel_rfl) (fun _ _ _ h => h) (Or.inl ⟨by rfl, ?_⟩) (by assumption) ?_
            rotate_left
            · intro w hSw
              go_simp
              try with_reducible rfl
            try simp only [Act.put, List.setIfInBounds_toArray, List.set_cons_zero, List.set_cons_succ]
            refine wpAnyH_take (i := 12) (oi := { dst := some 55, op := Op.fieldAddr 36 (Operand.tmp 54) 2, type := 0, pos := "types.go:135", after := #[{ on := 11, ground := Ground.data }, { on := 5, ground := Ground.guard }], guard := some (5, true) }) (v := ?_) rfl (by kernel_rfl) (by kernel_rfl) (by kernel_rfl) (fun _ _ _ h => h) (Or.inl ⟨by rfl, ?_⟩) (by assumption) ?_
            rotate_left
            · intro w hSw
              go_simp
              try with_reducible rfl
            try simp only [Act.put, List.setIfInBounds_toArray, List.set_cons_zero, List.set_cons_succ]
            refine wpAnyH_ready (rs := [13]) (by kernel_rfl) (by simp) ?_
            refine AllReadyH.cons (o := { dst := some 56, op := Op.call { callee := Callee.value (Operand.func 130), args := #[Operand.tmp 49, Operand.tmp 52, Operand.tmp 55], argTypes := #[83, 174, 175] }, type := 4, pos := "types.go:135", after := #[{ on := 6, ground := Ground.data }, { on := 9, ground := Ground.data }, { on := 12, ground := Ground.data }, { on := 5, ground := Ground.chain }, { on := 5, ground := Ground.guard }], guard := some (5, true) }) rfl (fun K hK => ?_) AllReadyH.nil
            go_simp
            go_at_call 130
            have HQ60 := hide (bound_q (unhide HP57) hN (unhide HB57) hn (o1 := 10) (o2 := 7) (by simp) (by simp))
            rw [unhide E59] at HQ60
            refine (unhide HQ60).mono ?_
            rintro e w60 ⟨⟨rfl, hp⟩, hf⟩
            have HP60 := hide hp
            have HF60 := hide ((unhide HF57).trans hf)
            clear hp hf HQ60
            go_wp2_with fail
            refine hK.out _ _ ?_ (fun hHeld => ?_)
            · trivial
            clear hK K
            try simp only [Act.put, List.setIfInBounds_toArray, List.set_cons_zero, List.set_cons_succ]
            refine wpAnyH_take (i := 14) (oi := { dst := some 57, op := Op.unOp UnOp.not 4 (Operand.tmp 56), type := 4, pos := "types.go:135", after := #[{ on := 13, ground := Ground.data }, { on := 5, ground := Ground.guard }], guard := some (5, true) }) (v := ?_) rfl (by kernel_rfl) (by kernel_rfl) (by kernel_rfl) (fun _ _ _ h => h) (Or.inl ⟨by rfl, ?_⟩) (by assumption) ?_
            rotate_left
            · intro w hSw
              go_simp
              try with_reducible rfl
            try simp only [Act.put, List.setIfInBounds_toArray, List.set_cons_zero, List.set_cons_succ]
            refine wpAnyH_take (i := 15) (oi := { dst := some 58, op := Op.pick (Operand.tmp 48) (Operand.tmp 57) (Operand.const (Value.bool false)), type := 4, pos := "types.go:135", after := #[{ on := 5, ground := Ground.data }, { on := 14, ground := Ground.data }], guard := none }) (v := ?_) rfl (by kernel_rfl) (by kernel_rfl) (by kernel_rfl) (fun _ _ _ h => h) (Or.inl ⟨by rfl, ?_⟩) (by assumption) ?_
            rotate_left
            · intro w hSw
              go_simp
              try with_reducible rfl
            try simp only [Act.put, List.setIfInBounds_toArray, List.set_cons_zero, List.set_cons_succ]
            refine wpAnyH_done (by kernel_rfl) ?_ _
            go_wp2
            go_ret
            have hE : boundsT l i = .error (p59, x59) := by simp [boundsT, unhide E11, unhide E44, unhide E47, unhide E49, unhide E59, bind, Except.bind, pure, Except.pure]
            rw [hE]
            exact ⟨⟨rfl, unhide HP60⟩, unhide HF60⟩
          · have E59 := hide hr59
            clear hr59
            refine wp_region_held_drew (S := fun _ => True) (by kernel_rfl) trivial (fun hHeld => ?_)
            refine wpAnyH_take (i := 0) (oi := { dst := some 43, op := Op.move (Operand.tmp 0), type := 83, pos := "types.go:135", after := #[], guard := none }) (v := ?_) rfl (by kernel_rfl) (by kernel_rfl) (by kernel_rfl) (fun _ _ _ h => h) (Or.inl ⟨by rfl, ?_⟩) (by assumption) ?_
            rotate_left
            · intro w hSw
              go_simp
              try with_reducible rfl
            try simp only [Act.put, List.setIfInBounds_toArray, List.set_cons_zero, List.set_cons_succ]
            refine wpAnyH_take (i := 1) (oi := { dst := some 44, op := Op.nilCheck (Operand.tmp 43), type := 0, pos := "types.go:135", after := #[{ on := 0, ground := Ground.data }], guard := none }) (v := ?_) rfl (by kernel_rfl) (by kernel_rfl) (by kernel_rfl) (fun _ _ _ h => h) (Or.inl ⟨by rfl, ?_⟩) (by assumption) ?_
            rotate_left
            · intro w hSw
              go_simp
              try with_reducible rfl
            try simp only [Act.put, List.setIfInBounds_toArray, List.set_cons_zero, List.set_cons_succ]
            refine wpAnyH_take (i := 2) (oi := { dst := some 45, op := Op.fieldAddr 59 (Operand.tmp 44) 0, type := 0, pos := "types.go:135", after := #[{ on := 1, ground := Ground.data }], guard := none }) (v := ?_) rfl (by kernel_rfl) (by kernel_rfl) (by kernel_rfl) (fun _ _ _ h => h) (Or.inl ⟨by rfl, ?_⟩) (by assumption) ?_
            rotate_left
            · intro w hSw
              go_simp
              try with_reducible rfl
            try simp only [Act.put, List.setIfInBounds_toArray, List.set_cons_zero, List.set_cons_succ]
            refine wpAnyH_ready (rs := [3]) (by kernel_rfl) (by simp) ?_
            refine AllReadyH.cons (o := { dst := some 46, op := Op.call { callee := Callee.value (Operand.func 68), args := #[Operand.tmp 45, Operand.const (Value.string { data := #[77, 65, 88] })], argTypes := #[56, 9] }, type := 4, pos := "types.go:135", after := #[{ on := 2, ground := Ground.data }], guard := none }) rfl (fun K hK => ?_) AllReadyH.nil
            go_simp
            go_at_call 68
            refine (take_n (unhide HP48).drew (unhide E49)).mono ?_
            rintro e w57 ⟨rfl, hp, hf⟩
            have HP57 := hide hp
            have HF57 := hide ((unhide HF48).drew.fr2 hf)
            have HB57 : Hid (Blk _ n t #[a0, a1, a2, a3, a4, .bool true, .bool true, .bool false, .bool false, .int .i64 v43, .int .i64 0, b0, b1, b2, b3, b4]) := hf.blk (unhide HB48).drew hn
            clear hp hf
            go_wp2_with fail
            refine hK.out _ _ ?_ (fun hHeld => ?_)
            · trivial
            clear hK K
            try simp only [Act.put, List.setIfInBounds_toArray, List.set_cons_zero, List.set_cons_succ]
            refine wpAnyH_take (i := 4) (oi := { dst := some 47, op := Op.unOp UnOp.not 4 (Operand.tmp 46), type := 4, pos := "types.go:135", after := #[{ on := 3, ground := Ground.data }], guard := none }) (v := ?_) rfl (by kernel_rfl) (by kernel_rfl) (by kernel_rfl) (fun _ _ _ h => h) (Or.inl ⟨by rfl, ?_⟩) (by assumption) ?_
            rotate_left
            · intro w hSw
              go_simp
              try with_reducible rfl
            try simp only [Act.put, List.setIfInBounds_toArray, List.set_cons_zero, List.set_cons_succ]
            refine wpAnyH_take (i := 5) (oi := { dst := some 48, op := Op.move (Operand.tmp 47), type := 4, pos := "types.go:135", after := #[{ on := 4, ground := Ground.data }, { on := 3, ground := Ground.chain }], guard := none }) (v := ?_) rfl (by kernel_rfl) (by kernel_rfl) (by kernel_rfl) (fun _ _ _ h => h) (Or.inl ⟨by rfl, ?_⟩) (by assumption) ?_
            rotate_left
            · intro w hSw
              go_simp
              try with_reducible rfl
            try simp only [Act.put, List.setIfInBounds_toArray, List.set_cons_zero, List.set_cons_succ]
            refine wpAnyH_take (i := 6) (oi := { dst := some 49, op := Op.move (Operand.tmp 0), type := 83, pos := "types.go:135", after := #[{ on := 5, ground := Ground.guard }], guard := some (5, true) }) (v := ?_) rfl (by kernel_rfl) (by kernel_rfl) (by kernel_rfl) (fun _ _ _ h => h) (Or.inl ⟨by rfl, ?_⟩) (by assumption) ?_
            rotate_left
            · intro w hSw
              go_simp
              try with_reducible rfl
            try simp only [Act.put, List.setIfInBounds_toArray, List.set_cons_zero, List.set_cons_succ]
            refine wpAnyH_take (i := 7) (oi := { dst := some 50, op := Op.move (Operand.tmp 1), type := 155, pos := "types.go:135", after := #[{ on := 5, ground := Ground.guard }], guard := some (5, true) }) (v := ?_) rfl (by kernel_rfl) (by kernel_rfl) (by kernel_rfl) (fun _ _ _ h => h) (Or.inl ⟨by rfl, ?_⟩) (by assumption) ?_
            rotate_left
            · intro w hSw
              go_simp
              try with_reducible rfl
            try simp only [Act.put, List.setIfInBounds_toArray, List.set_cons_zero, List.set_cons_succ]
            refine wpAnyH_take (i := 8) (oi := { dst := some 51, op := Op.nilCheck (Operand.tmp 50), type := 0, pos := "types.go:135", after := #[{ on := 7, ground := Ground.data }, { on := 5, ground := Ground.guard }], guard := some (5, true) }) (v := ?_) rfl (by kernel_rfl) (by kernel_rfl) (by kernel_rfl) (fun _ _ _ h => h) (Or.inl ⟨by rfl, ?_⟩) (by assumption) ?_
            rotate_left
            · intro w hSw
              go_simp
              try with_reducible rfl
            try simp only [Act.put, List.setIfInBounds_toArray, List.set_cons_zero, List.set_cons_succ]
            refine wpAnyH_take (i := 9) (oi := { dst := some 52, op := Op.fieldAddr 36 (Operand.tmp 51) 5, type := 0, pos := "types.go:135", after := #[{ on := 8, ground := Ground.data }, { on := 5, ground := Ground.guard }], guard := some (5, true) }) (v := ?_) rfl (by kernel_rfl) (by kernel_rfl) (by kernel_rfl) (fun _ _ _ h => h) (Or.inl ⟨by rfl, ?_⟩) (by assumption) ?_
            rotate_left
            · intro w hSw
              go_simp
              try with_reducible rfl
            try simp only [Act.put, List.setIfInBounds_toArray, List.set_cons_zero, List.set_cons_succ]
            refine wpAnyH_take (i := 10) (oi := { dst := some 53, op := Op.move (Operand.tmp 1), type := 155, pos := "types.go:135", after := #[{ on := 5, ground := Ground.guard }], guard := some (5, true) }) (v := ?_) rfl (by kernel_rfl) (by kernel_rfl) (by kernel_rfl) (fun _ _ _ h => h) (Or.inl ⟨by rfl, ?_⟩) (by assumption) ?_
            rotate_left
            · intro w hSw
              go_simp
              try with_reducible rfl
            try simp only [Act.put, List.setIfInBounds_toArray, List.set_cons_zero, List.set_cons_succ]
            refine wpAnyH_take (i := 11) (oi := { dst := some 54, op := Op.nilCheck (Operand.tmp 53), type := 0, pos := "types.go:135", after := #[{ on := 10, ground := Ground.data }, { on := 5, ground := Ground.guard }], guard := some (5, true) }) (v := ?_) rfl (by kernel_rfl) (by kernel_rfl) (by kernel_rfl) (fun _ _ _ h => h) (Or.inl ⟨by rfl, ?_⟩) (by assumption) ?_
            rotate_left
            · intro w hSw
              go_simp
              try with_reducible rfl
            try simp only [Act.put, List.setIfInBounds_toArray, List.set_cons_zero, List.set_cons_succ]
            refine wpAnyH_take (i := 12) (oi := { dst := some 55, op := Op.fieldAddr 36 (Operand.tmp 54) 2, type := 0, pos := "types.go:135", after := #[{ on := 11, ground := Ground.data }, { on := 5, ground := Ground.guard }], guard := some (5, true) }) (v := ?_) rfl (by kernel_rfl) (by kernel_rfl) (by kernel_rfl) (fun _ _ _ h => h) (Or.inl ⟨by rfl, ?_⟩) (by assumption) ?_
            rotate_left
            · intro w hSw
              go_simp
              try with_reducible rfl
            try simp only [Act.put, List.setIfInBounds_toArray, List.set_cons_zero, List.set_cons_succ]
            refine wpAnyH_ready (rs := [13]) (by kernel_rfl) (by simp) ?_
            refine AllReadyH.cons (o := { dst := some 56, op := Op.call { callee := Callee.value (Operand.func 130), args := #[Operand.tmp 49, Operand.tmp 52, Operand.tmp 55], argTypes := #[83, 174, 175] }, type := 4, pos := "types.go:135", after := #[{ on := 6, ground := Ground.data }, { on := 9, ground := Ground.data }, { on := 12, ground := Ground.data }, { on := 5, ground := Ground.chain }, { on := 5, ground := Ground.guard }], guard := some (5, true) }) rfl (fun K hK => ?_) AllReadyH.nil
            go_simp
            go_at_call 130
            have HQ61 := hide (bound_q (unhide HP57) hN (unhide HB57) hn (o1 := 10) (o2 := 7) (by simp) (by simp))
            rw [unhide E59] at HQ61
            refine (unhide HQ61).mono ?_
            rintro e w61 ⟨⟨rfl, hp, hb⟩, hf⟩
            have HP61 := hide hp
            have HB61 : Hid (Blk _ n t #[a0, a1, a2, a3, a4, .bool true, .bool true, .bool true, .bool false, .int .i64 v43, .int .i64 v58, b0, b1, b2, b3, b4]) := hb
            have HF61 := hide ((unhide HF57).trans hf)
            clear hp hb hf HQ61
            go_wp2_with fail
            refine hK.out _ _ ?_ (fun hHeld => ?_)
            · trivial
            clear hK K
            try simp only [Act.put, List.setIfInBounds_toArray, List.set_cons_zero, List.set_cons_succ]
            refine wpAnyH_take (i := 14) (oi := { dst := some 57, op := Op.unOp UnOp.not 4 (Operand.tmp 56), type := 4, pos := "types.go:135", after := #[{ on := 13, ground := Ground.data }, { on := 5, ground := Ground.guard }], guard := some (5, true) }) (v := ?_) rfl (by kernel_rfl) (by kernel_rfl) (by kernel_rfl) (fun _ _ _ h => h) (Or.inl ⟨by rfl, ?_⟩) (by assumption) ?_
            rotate_left
            · intro w hSw
              go_simp
              try with_reducible rfl
            try simp only [Act.put, List.setIfInBounds_toArray, List.set_cons_zero, List.set_cons_succ]
            refine wpAnyH_take (i := 15) (oi := { dst := some 58, op := Op.pick (Operand.tmp 48) (Operand.tmp 57) (Operand.const (Value.bool false)), type := 4, pos := "types.go:135", after := #[{ on := 5, ground := Ground.data }, { on := 14, ground := Ground.data }], guard := none }) (v := ?_) rfl (by kernel_rfl) (by kernel_rfl) (by kernel_rfl) (fun _ _ _ h => h) (Or.inl ⟨by rfl, ?_⟩) (by assumption) ?_
            rotate_left
            · intro w hSw
              go_simp
              try with_reducible rfl
            try simp only [Act.put, List.setIfInBounds_toArray, List.set_cons_zero, List.set_cons_succ]
            refine wpAnyH_done (by kernel_rfl) ?_ _
            rcases Bool.eq_false_or_eq_true (isT l j58 s_cm) with hb62 | hb62
            · have E62 := hide hb62
              clear hb62
              go_wp2_with fail
              refine (take_y (unhide HP61) (unhide E62)).mono ?_
              rintro e w63 ⟨rfl, hp, hf⟩
              have HP63 := hide hp
              have HF63 := hide ((unhide HF61).fr2 hf)
              have HB63 : Hid (Blk _ n t #[a0, a1, a2, a3, a4, .bool true, .bool true, .bool true, .bool false, .int .i64 v43, .int .i64 v58, b0, b1, b2, b3, b4]) := hf.blk (unhide HB61) hn
              clear hp hf
              obtain ⟨hc64, hf64, _⟩ := (unhide HB63).facts
              have HP64 := hide ((unhide HP63).far hn 8 (.bool true))
              have HB64 : Hid (Blk _ n t #[a0, a1, a2, a3, a4, .bool true, .bool true, .bool true, .bool true, .int .i64 v43, .int .i64 v58, b0, b1, b2, b3, b4]) := (unhide HB63).set_ 8 (.bool true)
              have HF64 := hide ((unhide HF63).set2 8 (.bool true))
              rcases hr66 : wantT l (j58 + 1) s_dots with ⟨p66, x66⟩ | k65
              · have E66 := hide hr66
                clear hr66
                go_wp2_with fail
                clear hc64 hf64
                refine (want_n (unhide HP64) (unhide E66)).mono ?_
                rintro e w65 ⟨rfl, hp, hf⟩
                have HP65 := hide hp
                have HF65 := hide ((unhide HF64).fs2 hf)
                clear hp hf
                go_wp2
                go_ret
                have hE : boundsT l i = .error (p66, x66) := by simp [boundsT, unhide E11, unhide E44, unhide E47, unhide E49, unhide E59, unhide E62, unhide E66, bind, Except.bind, pure, Except.pure]
                rw [hE]
                exact ⟨⟨rfl, unhide HP65⟩, unhide HF65⟩
              · have E66 := hide hr66
                clear hr66
                go_wp2_with fail
                clear hc64 hf64
                refine (want_y (unhide HP64) (unhide E66)).mono ?_
                rintro e w65 ⟨rfl, hp, hf⟩
                have HP65 := hide hp
                have HF65 := hide ((unhide HF64).fs2 hf)
                have HB65 : Hid (Blk _ n t #[a0, a1, a2, a3, a4, .bool true, .bool true, .bool true, .bool true, .int .i64 v43, .int .i64 v58, b0, b1, b2, b3, b4]) := hf.blk1 (unhide HB64) hn
                clear hp hf
                go_wp2
                go_ret
                have hE : boundsT l i = .ok (⟨true, true, true, true, v43, v58⟩, k65) := by simp [boundsT, unhide E11, unhide E44, unhide E47, unhide E49, unhide E59, unhide E62, unhide E66, bind, Except.bind, pure, Except.pure]
                rw [hE]
                exact ⟨⟨rfl, unhide HP65, unhide HB65⟩, unhide HF65⟩
            · have E62 := hide hb62
              clear hb62
              go_wp2_with fail
              refine (take_n (unhide HP61) (unhide E62)).mono ?_
              rintro e w67 ⟨rfl, hp, hf⟩
              have HP67 := hide hp
              have HF67 := hide ((unhide HF61).fr2 hf)
              have HB67 : Hid (Blk _ n t #[a0, a1, a2, a3, a4, .bool true, .bool true, .bool true, .bool false, .int .i64 v43, .int .i64 v58, b0, b1, b2, b3, b4]) := hf.blk (unhide HB61) hn
              clear hp hf
              go_wp2
              go_ret
              have hE : boundsT l i = .ok (⟨true, true, true, false, v43, v58⟩, j58) := by simp [boundsT, unhide E11, unhide E44, unhide E47, unhide E49, unhide E59, unhide E62, bind, Except.bind, pure, Except.pure]
              rw [hE]
              exact ⟨⟨rfl, unhide HP67, unhide HB67⟩, unhide HF67⟩
      · have E47 := hide hb47
        clear hb47
        go_wp2_with fail
        refine (take_n (unhide HP46) (unhide E47)).mono ?_
        rintro e w68 ⟨rfl, hp, hf⟩
        have HP68 := hide hp
        have HF68 := hide ((unhide HF46).fr2 hf)
        have HB68 : Hid (Blk _ n t #[a0, a1, a2, a3, a4, .bool true, .bool true, .bool false, .bool false, .int .i64 v43, .int .i64 0, b0, b1, b2, b3, b4]) := hf.blk (unhide HB46) hn
        clear hp hf
        obtain ⟨hc69, hf69, _⟩ := (unhide HB68).facts
        have HP69 := hide (((unhide HP68).drew.far hn 10 (.int .i64 v43)).far hn 7 (.bool true))
        have HB69 : Hid (Blk _ n t #[a0, a1, a2, a3, a4, .bool true, .bool true, .bool true, .bool false, .int .i64 v43, .int .i64 v43, b0, b1, b2, b3, b4]) := ((unhide HB68).drew.set_ 10 (.int .i64 v43)).set_ 7 (.bool true)
        have HF69 := hide (((unhide HF68).drew.set2 10 (.int .i64 v43)).set2 7 (.bool true))
        go_wp2
        go_region
        clear hc69 hf69
        rcases Bool.eq_false_or_eq_true (isT l j43 s_cm) with hb70 | hb70
        · have E70 := hide hb70
          clear hb70
          go_wp2_with fail
          refine (take_y (unhide HP69) (unhide E70)).mono ?_
          rintro e w71 ⟨rfl, hp, hf⟩
          have HP71 := hide hp
          have HF71 := hide ((unhide HF69).fr2 hf)
          have HB71 : Hid (Blk _ n t #[a0, a1, a2, a3, a4, .bool true, .bool true, .bool true, .bool false, .int .i64 v43, .int .i64 v43, b0, b1, b2, b3, b4]) := hf.blk (unhide HB69) hn
          clear hp hf
          obtain ⟨hc72, hf72, _⟩ := (unhide HB71).facts
          have HP72 := hide ((unhide HP71).far hn 8 (.bool true))
          have HB72 : Hid (Blk _ n t #[a0, a1, a2, a3, a4, .bool true, .bool true, .bool true, .bool true, .int .i64 v43, .int .i64 v43, b0, b1, b2, b3, b4]) := (unhide HB71).set_ 8 (.bool true)
          have HF72 := hide ((unhide HF71).set2 8 (.bool true))
          rcases hr74 : wantT l (j43 + 1) s_dots with ⟨p74, x74⟩ | k73
          · have E74 := hide hr74
            clear hr74
            go_wp2_with fail
            clear hc72 hf72
            refine (want_n (unhide HP72) (unhide E74)).mono ?_
            rintro e w73 ⟨rfl, hp, hf⟩
            have HP73 := hide hp
            have HF73 := hide ((unhide HF72).fs2 hf)
            clear hp hf
            go_wp2
            go_ret
            have hE : boundsT l i = .error (p74, x74) := by simp [boundsT, unhide E11, unhide E44, unhide E47, unhide E70, unhide E74, bind, Except.bind, pure, Except.pure]
            rw [hE]
            exact ⟨⟨rfl, unhide HP73⟩, unhide HF73⟩
          · have E74 := hide hr74
            clear hr74
            go_wp2_with fail
            clear hc72 hf72
            refine (want_y (unhide HP72) (unhide E74)).mono ?_
            rintro e w73 ⟨rfl, hp, hf⟩
            have HP73 := hide hp
            have HF73 := hide ((unhide HF72).fs2 hf)
            have HB73 : Hid (Blk _ n t #[a0, a1, a2, a3, a4, .bool true, .bool true, .bool true, .bool true, .int .i64 v43, .int .i64 v43, b0, b1, b2, b3, b4]) := hf.blk1 (unhide HB72) hn
            clear hp hf
            go_wp2
            go_ret
            have hE : boundsT l i = .ok (⟨true, true, true, true, v43, v43⟩, k73) := by simp [boundsT, unhide E11, unhide E44, unhide E47, unhide E70, unhide E74, bind, Except.bind, pure, Except.pure]
            rw [hE]
            exact ⟨⟨rfl, unhide HP73, unhide HB73⟩, unhide HF73⟩
        · have E70 := hide hb70
          clear hb70
          go_wp2_with fail
          refine (take_n (unhide HP69) (unhide E70)).mono ?_
          rintro e w75 ⟨rfl, hp, hf⟩
          have HP75 := hide hp
          have HF75 := hide ((unhide HF69).fr2 hf)
          have HB75 : Hid (Blk _ n t #[a0, a1, a2, a3, a4, .bool true, .bool true, .bool true, .bool false, .int .i64 v43, .int .i64 v43, b0, b1, b2, b3, b4]) := hf.blk (unhide HB69) hn
          clear hp hf
          go_wp2
          go_ret
          have hE : boundsT l i = .ok (⟨true, true, true, false, v43, v43⟩, j43) := by simp [boundsT, unhide E11, unhide E44, unhide E47, unhide E70, bind, Except.bind, pure, Except.pure]
          rw [hE]
          exact ⟨⟨rfl, unhide HP75, unhide HB75⟩, unhide HF75⟩
end
end Go.Proofs.YtckcbgijddglpaaGreatDoor
