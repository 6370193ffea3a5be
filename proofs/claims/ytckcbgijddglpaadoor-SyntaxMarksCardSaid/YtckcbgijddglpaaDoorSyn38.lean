/- SyntaxMarks, walked. -/
import Derived.Test.YtckcbgijddglpaaDoorSynM
import Derived.Test.YtckcbgijddglpaaDoorSynDig
namespace Go.Proofs.YtckcbgijddglpaaDoor
open Go.ChangeShapes Go.WideShapes Go.ChangeAt Go.RowKit Go.PlainAid
set_option linter.unusedVariables false
set_option linter.unusedSimpArgs false
set_option linter.unnecessarySimpa false
theorem mk_size (v : Int) (m : Nat) (hm : m < 3) : (mkB (numB v) m).size ≤ 60 := by
  have := num_size v
  rw [mkB, ByteArray.size_append, ByteArray.size_append, ByteArray.size_append, ByteArray.size_append]
  have hw : (mwB m).size ≤ 9 := by
    match m, hm with
    | 0, _ => decide
    | 1, _ => decide
    | 2, _ => decide
  show 1 + (numB v).size + 2 + (mwB m).size + 4 ≤ _
  omega
/-- What is known of the module that a marked type makes. -/
theorem marks_any {w : World} (hL : LexW w) (v : Int) (h0 : -9223372036854775808 ≤ v) (h1 : v ≤ 9223372036854775807) (m : Nat) (hm : m < 3) : ∃ (md : ModV) (p : Nat) (x : Int), (∀ w1, Keeps w w1 → Calls Tryd.prog 8 #[.string (modB (mkB (numB v) m))] w1 (GivesM md p x w1)) ∧
    (((v < 0 ∨ 268435456 < v) ∧ md.nodes = [] ∧ p = 31 ∧ x = 12) ∨ (¬ (v < 0 ∨ 268435456 < v) ∧ md.nodes = [{ kind := 4, mHas := true, mNum := v, mMode := (m : Int) }] ∧ x = 0)) := by
  have hms := mk_size v m hm
  have hp := fun (w1 : World) (hk : Keeps w w1) => parseM_any (hL.keeps hk) (modB (mkB (numB v) m)) (by rw [modB_size]; omega)
  by_cases hx : v < 0 ∨ 268435456 < v
  · rw [marks_parse_bad v h0 h1 m hm hx] at hp
    exact ⟨{}, 31, 12, fun w1 hk => (hp w1 hk).mono fun e w' h => givesM_err h, .inl ⟨hx, rfl, rfl, rfl⟩⟩
  · rw [marks_parse v h0 h1 m hm hx] at hp
    exact ⟨_, 0, 0, fun w1 hk => (hp w1 hk).mono fun e w' h => givesM_ok h, .inr ⟨hx, rfl, rfl⟩⟩
set_option maxRecDepth 100000 in
set_option maxHeartbeats 16000000 in
theorem syntaxMarks_0 {w : World} (hL : LexW w) (v n : Int) (h0 : -9223372036854775808 ≤ v) (h1 : v ≤ 9223372036854775807) (hm' : wrap64 ((IntKind.u64.wrap n).tmod 3) = 0) : Calls Tryd.prog 6 #[.int .i64 v, .int .i64 n] w fun e w' => e = .returned (.bool true) ∧ Keeps w w' := by
  have HA := hide (fun (w1 : World) (hk : Keeps w w1) => awake05_any (hL.keeps hk))
  have HN := hide (fun w => number_help v h0 h1 w)
  obtain ⟨md, p, x, hpr, hcase⟩ := marks_any hL v h0 h1 0 (by decide)
  have HPR := hide (fun (w1 : World) (hk : Keeps w w1) => (show Calls Tryd.prog 8 #[.string (⟨#[77, 32, 68, 69, 70, 73, 78, 73, 84, 73, 79, 78, 83, 32, 58, 58, 61, 32, 66, 69, 71, 73, 78, 32, 65, 32, 58, 58, 61, 32]⟩ ++ (⟨#[91]⟩ ++ numB v ++ ⟨#[93, 32]⟩ ++ ⟨#[]⟩ ++ ⟨#[78, 85, 76, 76]⟩) ++ ⟨#[32, 69, 78, 68]⟩)] w1 (GivesM md p x w1) from hpr w1 hk))
  have hms := mk_size v 0 (by decide)
  have HMO := hide (fun w => module05_any (⟨#[91]⟩ ++ numB v ++ ⟨#[93, 32]⟩ ++ ⟨#[]⟩ ++ ⟨#[78, 85, 76, 76]⟩) w (by show (mkB (numB v) 0).size ≤ _; omega))
  have HME := hide (fun w => module05_any ⟨#[]⟩ w (by decide))
  have hns := num_size v
  have hq1 : ¬ 9223372036854775807 < 1 + (numB v).size := by omega
  have hq2 : ¬ 9223372036854775807 < 1 + (numB v).size + 2 := by omega
  have hq3 : ¬ 9223372036854775807 < 1 + (numB v).size + 2 + 0 := by omega
  have hq4 : ¬ 9223372036854775807 < 1 + (numB v).size + 2 + 0 + 4 := by omega
  have HX := hide hcase
  have HWV := hide (show wrap64 v = v by unfold wrap64; omega)
  clear hms hns hL hpr hcase
  go_enter Tryd.func6, Tryd.ntmps6
  go_wp2_with fail
  rw [hm']
  clear hm'
  go_wp2_with fail
  have HT0 := hide (Blk.new w 9 #[.string ⟨#[]⟩, .string ⟨#[69, 88, 80, 76, 73, 67, 73, 84, 32]⟩, .string ⟨#[73, 77, 80, 76, 73, 67, 73, 84, 32]⟩])
  have hc0 : (w.alloc (.cells #[.string ⟨#[]⟩, .string ⟨#[69, 88, 80, 76, 73, 67, 73, 84, 32]⟩, .string ⟨#[73, 77, 80, 76, 73, 67, 73, 84, 32]⟩] 9)).cell? ⟨w.heap.size, 0, none⟩ = some (.string ⟨#[]⟩) := (unhide HT0).cell 0
  have HKd := hide (drew_keeps ((Keeps.refl w).alloc (.cells #[.string ⟨#[]⟩, .string ⟨#[69, 88, 80, 76, 73, 67, 73, 84, 32]⟩, .string ⟨#[73, 77, 80, 76, 73, 67, 73, 84, 32]⟩] 9)))
  have HSd := hide (drew_cell hc0)
  have HLd := hide (show w.heap.size < (w.alloc (.cells #[.string ⟨#[]⟩, .string ⟨#[69, 88, 80, 76, 73, 67, 73, 84, 32]⟩, .string ⟨#[73, 77, 80, 76, 73, 67, 73, 84, 32]⟩] 9)).drew.heap.size by show _ < (w.alloc _).heap.size; rw [World.size_alloc]; omega)
  generalize (w.alloc (.cells #[.string ⟨#[]⟩, .string ⟨#[69, 88, 80, 76, 73, 67, 73, 84, 32]⟩, .string ⟨#[73, 77, 80, 76, 73, 67, 73, 84, 32]⟩] 9)) = v0 at *
  clear HT0
  apply cut_mod (w0 := w) (md := md)
  · intro HC
    refine wp_region_held_drew (S := fun w' => w'.cell? ⟨w.heap.size, 0, none⟩ = some (.string ⟨#[]⟩)) (by kernel_rfl) hc0 (fun hHeld => ?_)
    refine wpAnyH_take (i := 0) (oi := { dst := some 15, op := Op.move (Operand.tmp 0), type := 2, pos := "more.go:75", after := #[], guard := none }) (v := ?_) rfl (by kernel_rfl) (by kernel_rfl) (by kernel_rfl) (fun _ _ _ h => h) (Or.inl ⟨by rfl, ?_⟩) (by assumption) ?_
    rotate_left
    · intro w hSw
      go_simp
      try with_reducible rfl
    try simp only [Act.put, List.setIfInBounds_toArray, List.set_cons_zero, List.set_cons_succ]
    refine wpAnyH_take (i := 4) (oi := { dst := some 19, op := Op.move (Operand.tmp 5), type := 24, pos := "more.go:75", after := #[], guard := none }) (v := ?_) rfl (by kernel_rfl) (by kernel_rfl) (by kernel_rfl) (fun _ _ _ h => h) (Or.inl ⟨by rfl, ?_⟩) (by assumption) ?_
    rotate_left
    · intro w hSw
      go_simp
      try with_reducible rfl
    try simp only [Act.put, List.setIfInBounds_toArray, List.set_cons_zero, List.set_cons_succ]
    refine wpAnyH_take (i := 5) (oi := { dst := some 20, op := Op.move (Operand.tmp 1), type := 3, pos := "more.go:75", after := #[], guard := none }) (v := ?_) rfl (by kernel_rfl) (by kernel_rfl) (by kernel_rfl) (fun _ _ _ h => h) (Or.inl ⟨by rfl, ?_⟩) (by assumption) ?_
    rotate_left
    · intro w hSw
      go_simp
      try with_reducible rfl
    try simp only [Act.put, List.setIfInBounds_toArray, List.set_cons_zero, List.set_cons_succ]
    refine wpAnyH_take (i := 6) (oi := { dst := some 21, op := Op.indexAddr 24 (Operand.tmp 19) (Operand.tmp 20), type := 0, pos := "more.go:75", after := #[{ on := 4, ground := Ground.data }, { on := 5, ground := Ground.data }], guard := none }) (v := ?_) rfl (by kernel_rfl) (by kernel_rfl) (by kernel_rfl) (fun _ _ _ h => h) (Or.inl ⟨by rfl, ?_⟩) (by assumption) ?_
    rotate_left
    · intro w hSw
      go_simp
      try with_reducible rfl
    try simp only [Act.put, List.setIfInBounds_toArray, List.set_cons_zero, List.set_cons_succ]
    refine wpAnyH_take (i := 7) (oi := { dst := some 22, op := Op.load 9 (Operand.tmp 21), type := 9, pos := "more.go:75", after := #[{ on := 6, ground := Ground.data }], guard := none }) (v := ?_) rfl (by kernel_rfl) (by kernel_rfl) (by kernel_rfl) (fun _ _ _ h => h) (Or.inl ⟨by rfl, ?_⟩) (by assumption) ?_
    rotate_left
    · intro w hSw
      go_simp
      try with_reducible rfl
    try simp only [Act.put, List.setIfInBounds_toArray, List.set_cons_zero, List.set_cons_succ]
    refine wpAnyH_ready (rs := [1, 16]) (by kernel_rfl) (by simp) ?_
    refine (AllReadyH.cons (o := { dst := some 16, op := Op.call { callee := Callee.value (Operand.func 7), args := #[Operand.tmp 15], argTypes := #[2] }, type := 9, pos := "more.go:75", after := #[{ on := 0, ground := Ground.data }], guard := none }) rfl (fun K hK => ?_) (AllReadyH.cons (o := { dst := some 6, op := Op.alloc 30, type := 0, pos := "more.go:75", after := #[], guard := none }) rfl (fun K hK => ?_) AllReadyH.nil))
    · go_simp
      go_at_call 7
      with_reducible refine (unhide HN _).mono ?_
      rintro e w2 ⟨rfl, hk⟩
      have KC2 := hide ((unhide HKd).trans hk)
      have SC2 := hide ((Below.cell (p := ⟨w.heap.size, 0, none⟩) hk (unhide HLd)).trans (unhide HSd))
      have LC2 := hide (Nat.lt_of_lt_of_le (unhide HLd) hk.size)
      clear hk
      go_wp2_with fail
      refine hK.out _ _ (unhide SC2) (fun hHeld => ?_)
      clear hK K
      try simp only [Act.put, List.setIfInBounds_toArray, List.set_cons_zero, List.set_cons_succ]
      refine wpAnyH_take (i := 2) (oi := { dst := some 17, op := Op.binOp BinOp.add 9 (Operand.const (Value.string { data := #[91] })) (Operand.tmp 16) 9, type := 9, pos := "more.go:75", after := #[{ on := 1, ground := Ground.data }], guard := none }) (v := ?_) rfl (by kernel_rfl) (by kernel_rfl) (by kernel_rfl) (fun _ _ _ h => h) (Or.inl ⟨by rfl, ?_⟩) (by assumption) ?_
      rotate_left
      · intro w hSw
        go_simp
        try with_reducible rfl
      try simp only [Act.put, List.setIfInBounds_toArray, List.set_cons_zero, List.set_cons_succ]
      refine wpAnyH_take (i := 3) (oi := { dst := some 18, op := Op.binOp BinOp.add 9 (Operand.tmp 17) (Operand.const (Value.string { data := #[93, 32] })) 9, type := 9, pos := "more.go:75", after := #[{ on := 2, ground := Ground.data }], guard := none }) (v := ?_) rfl (by kernel_rfl) (by kernel_rfl) (by kernel_rfl) (fun _ _ _ h => h) (Or.inl ⟨by rfl, ?_⟩) (by assumption) ?_
      rotate_left
      · intro w hSw
        go_simp
        try with_reducible rfl
      try simp only [Act.put, List.setIfInBounds_toArray, List.set_cons_zero, List.set_cons_succ]
      refine wpAnyH_take (i := 8) (oi := { dst := some 23, op := Op.binOp BinOp.add 9 (Operand.tmp 18) (Operand.tmp 22) 9, type := 9, pos := "more.go:75", after := #[{ on := 3, ground := Ground.data }, { on := 7, ground := Ground.data }], guard := none }) (v := ?_) rfl (by kernel_rfl) (by kernel_rfl) (by kernel_rfl) (fun _ _ _ h => h) (Or.inl ⟨by rfl, ?_⟩) (by assumption) ?_
      rotate_left
      · intro w hSw
        go_simp
        try with_reducible rfl
      try simp only [Act.put, List.setIfInBounds_toArray, List.set_cons_zero, List.set_cons_succ]
      refine wpAnyH_take (i := 9) (oi := { dst := some 24, op := Op.binOp BinOp.add 9 (Operand.tmp 23) (Operand.const (Value.string { data := #[78, 85, 76, 76] })) 9, type := 9, pos := "more.go:75", after := #[{ on := 8, ground := Ground.data }], guard := none }) (v := ?_) rfl (by kernel_rfl) (by kernel_rfl) (by kernel_rfl) (fun _ _ _ h => h) (Or.inl ⟨by rfl, ?_⟩) (by assumption) ?_
      rotate_left
      · intro w hSw
        go_simp
        try with_reducible rfl
      try simp only [Act.put, List.setIfInBounds_toArray, List.set_cons_zero, List.set_cons_succ]
      refine wpAnyH_ready (rs := [10, 16]) (by kernel_rfl) (by simp) ?_
      refine (AllReadyH.cons (o := { dst := some 25, op := Op.call { callee := Callee.value (Operand.func 9), args := #[Operand.tmp 24], argTypes := #[9] }, type := 9, pos := "more.go:75", after := #[{ on := 9, ground := Ground.data }, { on := 1, ground := Ground.chain }], guard := none }) rfl (fun K hK => ?_) (AllReadyH.cons (o := { dst := some 6, op := Op.alloc 30, type := 0, pos := "more.go:75", after := #[], guard := none }) rfl (fun K hK => ?_) AllReadyH.nil))
      · go_simp
        go_at_call 9
        with_reducible refine (unhide HMO _).mono ?_
        rintro e w'4 ⟨rfl, hw4⟩
        subst w'4
        go_wp2_with fail
        refine hK.out _ _ (unhide SC2) (fun hHeld => ?_)
        clear hK K
        try simp only [Act.put, List.setIfInBounds_toArray, List.set_cons_zero, List.set_cons_succ]
        refine wpAnyH_ready (rs := [11, 16]) (by kernel_rfl) (by simp) ?_
        refine (AllReadyH.cons (o := { dst := some 26, op := Op.call { callee := Callee.value (Operand.func 8), args := #[Operand.tmp 25], argTypes := #[9] }, type := 32, pos := "more.go:75", after := #[{ on := 10, ground := Ground.data }, { on := 10, ground := Ground.chain }], guard := none }) rfl (fun K hK => ?_) (AllReadyH.cons (o := { dst := some 6, op := Op.alloc 30, type := 0, pos := "more.go:75", after := #[], guard := none }) rfl (fun K hK => ?_) AllReadyH.nil))
        · go_simp
          go_at_call 8
          with_reducible refine (unhide HPR _ (unhide KC2)).mono ?_
          rintro e w6 ⟨A2, c2, A3, c3, A4, c4, rfl, hmh, hk⟩
          have MH6 := hide hmh
          have MB6 := hide ((unhide KC2).size)
          clear hmh
          have KC6 := hide ((unhide KC2).trans hk)
          have SC6 := hide ((Below.cell (p := ⟨w.heap.size, 0, none⟩) hk (unhide LC2)).trans (unhide SC2))
          have LC6 := hide (Nat.lt_of_lt_of_le (unhide LC2) hk.size)
          clear hk
          go_wp2_with fail
          refine hK.out _ _ (unhide SC6) (fun hHeld => ?_)
          clear hK K
          try simp only [Act.put, List.setIfInBounds_toArray, List.set_cons_zero, List.set_cons_succ]
          refine wpAnyH_take (i := 12) (oi := { dst := some 14, op := Op.move (Operand.tmp 26), type := 32, pos := "more.go:75", after := #[{ on := 11, ground := Ground.data }], guard := none }) (v := ?_) rfl (by kernel_rfl) (by kernel_rfl) (by kernel_rfl) (fun _ _ _ h => h) (Or.inl ⟨by rfl, ?_⟩) (by assumption) ?_
          rotate_left
          · intro w hSw
            go_simp
            try with_reducible rfl
          try simp only [Act.put, List.setIfInBounds_toArray, List.set_cons_zero, List.set_cons_succ]
          refine wpAnyH_take (i := 13) (oi := { dst := some 27, op := Op.extract (Operand.tmp 14) 0, type := 30, pos := "more.go:75", after := #[{ on := 12, ground := Ground.data }], guard := none }) (v := ?_) rfl (by kernel_rfl) (by kernel_rfl) (by kernel_rfl) (fun _ _ _ h => h) (Or.inl ⟨by rfl, ?_⟩) (by assumption) ?_
          rotate_left
          · intro w hSw
            go_simp
            try with_reducible rfl
          try simp only [Act.put, List.setIfInBounds_toArray, List.set_cons_zero, List.set_cons_succ]
          refine wpAnyH_take (i := 14) (oi := { dst := some 28, op := Op.extract (Operand.tmp 14) 1, type := 3, pos := "more.go:75", after := #[{ on := 12, ground := Ground.data }, { on := 17, ground := Ground.gcOnly Departure.lateStores }], guard := none }) (v := ?_) rfl (by kernel_rfl) (by kernel_rfl) (by kernel_rfl) (fun _ _ _ h => h) (Or.inl ⟨by rfl, ?_⟩) (by assumption) ?_
          rotate_left
          · intro w hSw
            go_simp
            try with_reducible rfl
          try simp only [Act.put, List.setIfInBounds_toArray, List.set_cons_zero, List.set_cons_succ]
          refine wpAnyH_take (i := 15) (oi := { dst := some 29, op := Op.extract (Operand.tmp 14) 2, type := 31, pos := "more.go:75", after := #[{ on := 12, ground := Ground.data }, { on := 18, ground := Ground.gcOnly Departure.lateStores }], guard := none }) (v := ?_) rfl (by kernel_rfl) (by kernel_rfl) (by kernel_rfl) (fun _ _ _ h => h) (Or.inl ⟨by rfl, ?_⟩) (by assumption) ?_
          rotate_left
          · intro w hSw
            go_simp
            try with_reducible rfl
          try simp only [Act.put, List.setIfInBounds_toArray, List.set_cons_zero, List.set_cons_succ]
          refine wpAnyH_ready (rs := [16]) (by kernel_rfl) (by simp) ?_
          refine (AllReadyH.cons (o := { dst := some 6, op := Op.alloc 30, type := 0, pos := "more.go:75", after := #[], guard := none }) rfl (fun K hK => ?_) AllReadyH.nil)
          go_simp
          refine hK.out _ _ ?_ (fun hHeld => ?_)
          · exact (World.cell?_alloc_lt _ _ _ (unhide LC6)).trans (unhide SC6)
          have KA7 := hide ((unhide KC6).alloc (.cells #[.string ⟨#[]⟩, .int .i64 0, .slice none 0 0, .slice none 0 0, .slice none 0 0] 30))
          have BA7 := hide (show Blk (w6.alloc (.cells #[.string ⟨#[]⟩, .int .i64 0, .slice none 0 0, .slice none 0 0, .slice none 0 0] 30)) w6.heap.size 30 #[.string ⟨#[]⟩, .int .i64 0, .slice none 0 0, .slice none 0 0, .slice none 0 0] from Blk.new w6 30 #[.string ⟨#[]⟩, .int .i64 0, .slice none 0 0, .slice none 0 0, .slice none 0 0])
          have VA7 := hide (show w.heap.size ≤ w6.heap.size from (unhide KC6).size)
          have SL := hide (unhide LC6)
          have SA7 := hide ((World.cell?_alloc_lt w6 (.cells #[.string ⟨#[]⟩, .int .i64 0, .slice none 0 0, .slice none 0 0, .slice none 0 0] 30) ⟨w.heap.size, 0, none⟩ (unhide LC6)).trans (unhide SC6))
          have LA7 := hide (Nat.lt_of_lt_of_le (unhide LC6) ((Keeps.refl w6).alloc (.cells #[.string ⟨#[]⟩, .int .i64 0, .slice none 0 0, .slice none 0 0, .slice none 0 0] 30)).size)
          clear hK K
          try simp only [Act.put, List.setIfInBounds_toArray, List.set_cons_zero, List.set_cons_succ]
          have MM8 := hide ((unhide MH6).keeps ((Keeps.refl w6).alloc (.cells #[.string ⟨#[]⟩, .int .i64 0, .slice none 0 0, .slice none 0 0, .slice none 0 0] 30)))
          obtain ⟨hbc, hbf, -⟩ := (unhide BA7).facts
          refine wpAnyH_ready (rs := [17]) (by kernel_rfl) (by simp) ?_
          refine AllReadyH.cons (o := { dst := none, op := Op.store 30 (Operand.tmp 6) (Operand.tmp 27), type := 0, pos := "more.go:75", after := #[{ on := 16, ground := Ground.data }, { on := 13, ground := Ground.data }, { on := 11, ground := Ground.chain }, { on := 0, ground := Ground.phase }, { on := 1, ground := Ground.phase }, { on := 2, ground := Ground.phase }, { on := 3, ground := Ground.phase }, { on := 4, ground := Ground.phase }, { on := 5, ground := Ground.phase }, { on := 6, ground := Ground.phase }, { on := 7, ground := Ground.phase }, { on := 8, ground := Ground.phase }, { on := 9, ground := Ground.phase }, { on := 10, ground := Ground.phase }, { on := 11, ground := Ground.phase }, { on := 12, ground := Ground.phase }, { on := 13, ground := Ground.phase }, { on := 14, ground := Ground.textOnly Departure.lateStores }, { on := 15, ground := Ground.textOnly Departure.lateStores }, { on := 16, ground := Ground.phase }], guard := none }) rfl (fun K hK => ?_) AllReadyH.nil
          go_simp
          refine hK.out _ _ ?_ (fun hHeld => ?_)
          · exact (World.cell?_alloc_lt _ _ _ (unhide LC6)).trans (unhide SC6)
          clear hK K hbc hbf
          try simp only [Act.put, List.setIfInBounds_toArray, List.set_cons_zero, List.set_cons_succ]
          refine wpAnyH_take (i := 18) (oi := { dst := some 7, op := Op.assign (Operand.tmp 28), type := 3, pos := "more.go:75", after := #[{ on := 14, ground := Ground.data }, { on := 17, ground := Ground.chain }, { on := 0, ground := Ground.phase }, { on := 1, ground := Ground.phase }, { on := 2, ground := Ground.phase }, { on := 3, ground := Ground.phase }, { on := 4, ground := Ground.phase }, { on := 5, ground := Ground.phase }, { on := 6, ground := Ground.phase }, { on := 7, ground := Ground.phase }, { on := 8, ground := Ground.phase }, { on := 9, ground := Ground.phase }, { on := 10, ground := Ground.phase }, { on := 11, ground := Ground.phase }, { on := 12, ground := Ground.phase }, { on := 13, ground := Ground.phase }, { on := 14, ground := Ground.phase }, { on := 15, ground := Ground.textOnly Departure.lateStores }, { on := 16, ground := Ground.phase }, { on := 17, ground := Ground.phase }], guard := none }) (v := ?_) rfl (by kernel_rfl) (by kernel_rfl) (by kernel_rfl) (fun _ _ _ h => h) (Or.inl ⟨by rfl, ?_⟩) (by assumption) ?_
          rotate_left
          · intro w hSw
            go_simp
            try with_reducible rfl
          try simp only [Act.put, List.setIfInBounds_toArray, List.set_cons_zero, List.set_cons_succ]
          refine wpAnyH_take (i := 19) (oi := { dst := some 8, op := Op.assign (Operand.tmp 29), type := 31, pos := "more.go:75", after := #[{ on := 15, ground := Ground.data }, { on := 18, ground := Ground.chain }, { on := 0, ground := Ground.phase }, { on := 1, ground := Ground.phase }, { on := 2, ground := Ground.phase }, { on := 3, ground := Ground.phase }, { on := 4, ground := Ground.phase }, { on := 5, ground := Ground.phase }, { on := 6, ground := Ground.phase }, { on := 7, ground := Ground.phase }, { on := 8, ground := Ground.phase }, { on := 9, ground := Ground.phase }, { on := 10, ground := Ground.phase }, { on := 11, ground := Ground.phase }, { on := 12, ground := Ground.phase }, { on := 13, ground := Ground.phase }, { on := 14, ground := Ground.phase }, { on := 15, ground := Ground.phase }, { on := 16, ground := Ground.phase }, { on := 17, ground := Ground.phase }, { on := 18, ground := Ground.phase }], guard := none }) (v := ?_) rfl (by kernel_rfl) (by kernel_rfl) (by kernel_rfl) (fun _ _ _ h => h) (Or.inl ⟨by rfl, ?_⟩) (by assumption) ?_
          rotate_left
          · intro w hSw
            go_simp
            try with_reducible rfl
          try simp only [Act.put, List.setIfInBounds_toArray, List.set_cons_zero, List.set_cons_succ]
          refine wpAnyH_done (by kernel_rfl) ?_ _
          have HF := hide (ModIn.fresh (unhide KC6) (unhide MH6) (unhide MB6))
          generalize (w6.alloc (.cells #[.string md.name, .int .i64 md.tagging, .slice A2 md.names.length c2, .slice A3 md.types.length c3, .slice A4 md.nodes.length c4] 30)) = w9 at HF ⊢
          generalize w6.heap.size = g9 at HF ⊢
          exact HC w9 g9 A2 c2 A3 c3 A4 c4 (unhide HF)
        · go_simp
          refine hK.out _ _ ?_ (fun hHeld => ?_)
          · exact (World.cell?_alloc_lt _ _ _ (unhide LC2)).trans (unhide SC2)
          have KA5 := hide ((unhide KC2).alloc (.cells #[.string ⟨#[]⟩, .int .i64 0, .slice none 0 0, .slice none 0 0, .slice none 0 0] 30))
          have BA5 := hide (show Blk (w2.alloc (.cells #[.string ⟨#[]⟩, .int .i64 0, .slice none 0 0, .slice none 0 0, .slice none 0 0] 30)) w2.heap.size 30 #[.string ⟨#[]⟩, .int .i64 0, .slice none 0 0, .slice none 0 0, .slice none 0 0] from Blk.new w2 30 #[.string ⟨#[]⟩, .int .i64 0, .slice none 0 0, .slice none 0 0, .slice none 0 0])
          have VA5 := hide (show w.heap.size ≤ w2.heap.size from (unhide KC2).size)
          have SL := hide (unhide LC2)
          have SA5 := hide ((World.cell?_alloc_lt w2 (.cells #[.string ⟨#[]⟩, .int .i64 0, .slice none 0 0, .slice none 0 0, .slice none 0 0] 30) ⟨w.heap.size, 0, none⟩ (unhide LC2)).trans (unhide SC2))
          have LA5 := hide (Nat.lt_of_lt_of_le (unhide LC2) ((Keeps.refl w2).alloc (.cells #[.string ⟨#[]⟩, .int .i64 0, .slice none 0 0, .slice none 0 0, .slice none 0 0] 30)).size)
          clear hK K
          try simp only [Act.put, List.setIfInBounds_toArray, List.set_cons_zero, List.set_cons_succ]
          refine wpAnyH_ready (rs := [11]) (by kernel_rfl) (by simp) ?_
          refine (AllReadyH.cons (o := { dst := some 26, op := Op.call { callee := Callee.value (Operand.func 8), args := #[Operand.tmp 25], argTypes := #[9] }, type := 32, pos := "more.go:75", after := #[{ on := 10, ground := Ground.data }, { on := 10, ground := Ground.chain }], guard := none }) rfl (fun K hK => ?_) AllReadyH.nil)
          go_simp
          go_at_call 8
          with_reducible refine (unhide HPR _ (unhide KA5)).mono ?_
          rintro e w10 ⟨A2, c2, A3, c3, A4, c4, rfl, hmh, hk⟩
          have MH10 := hide hmh
          have MB10 := hide ((unhide KA5).size)
          clear hmh
          have KC10 := hide ((unhide KA5).trans hk)
          have SC10 := hide ((Below.cell (p := ⟨w.heap.size, 0, none⟩) hk (unhide LA5)).trans (unhide SA5))
          have LC10 := hide (Nat.lt_of_lt_of_le (unhide LA5) hk.size)
          have BC10 := hide ((unhide BA5).keeps hk)
          clear hk
          go_wp2_with fail
          refine hK.out _ _ (unhide SC10) (fun hHeld => ?_)
          clear hK K
          try simp only [Act.put, List.setIfInBounds_toArray, List.set_cons_zero, List.set_cons_succ]
          refine wpAnyH_take (i := 12) (oi := { dst := some 14, op := Op.move (Operand.tmp 26), type := 32, pos := "more.go:75", after := #[{ on := 11, ground := Ground.data }], guard := none }) (v := ?_) rfl (by kernel_rfl) (by kernel_rfl) (by kernel_rfl) (fun _ _ _ h => h) (Or.inl ⟨by rfl, ?_⟩) (by assumption) ?_
          rotate_left
          · intro w hSw
            go_simp
            try with_reducible rfl
          try simp only [Act.put, List.setIfInBounds_toArray, List.set_cons_zero, List.set_cons_succ]
          refine wpAnyH_take (i := 13) (oi := { dst := some 27, op := Op.extract (Operand.tmp 14) 0, type := 30, pos := "more.go:75", after := #[{ on := 12, ground := Ground.data }], guard := none }) (v := ?_) rfl (by kernel_rfl) (by kernel_rfl) (by kernel_rfl) (fun _ _ _ h => h) (Or.inl ⟨by rfl, ?_⟩) (by assumption) ?_
          rotate_left
          · intro w hSw
            go_simp
            try with_reducible rfl
          try simp only [Act.put, List.setIfInBounds_toArray, List.set_cons_zero, List.set_cons_succ]
          refine wpAnyH_take (i := 14) (oi := { dst := some 28, op := Op.extract (Operand.tmp 14) 1, type := 3, pos := "more.go:75", after := #[{ on := 12, ground := Ground.data }, { on := 17, ground := Ground.gcOnly Departure.lateStores }], guard := none }) (v := ?_) rfl (by kernel_rfl) (by kernel_rfl) (by kernel_rfl) (fun _ _ _ h => h) (Or.inl ⟨by rfl, ?_⟩) (by assumption) ?_
          rotate_left
          · intro w hSw
            go_simp
            try with_reducible rfl
          try simp only [Act.put, List.setIfInBounds_toArray, List.set_cons_zero, List.set_cons_succ]
          refine wpAnyH_take (i := 15) (oi := { dst := some 29, op := Op.extract (Operand.tmp 14) 2, type := 31, pos := "more.go:75", after := #[{ on := 12, ground := Ground.data }, { on := 18, ground := Ground.gcOnly Departure.lateStores }], guard := none }) (v := ?_) rfl (by kernel_rfl) (by kernel_rfl) (by kernel_rfl) (fun _ _ _ h => h) (Or.inl ⟨by rfl, ?_⟩) (by assumption) ?_
          rotate_left
          · intro w hSw
            go_simp
            try with_reducible rfl
          try simp only [Act.put, List.setIfInBounds_toArray, List.set_cons_zero, List.set_cons_succ]
          obtain ⟨hbc, hbf, -⟩ := (unhide BC10).facts
          refine wpAnyH_ready (rs := [17]) (by kernel_rfl) (by simp) ?_
          refine AllReadyH.cons (o := { dst := none, op := Op.store 30 (Operand.tmp 6) (Operand.tmp 27), type := 0, pos := "more.go:75", after := #[{ on := 16, ground := Ground.data }, { on := 13, ground := Ground.data }, { on := 11, ground := Ground.chain }, { on := 0, ground := Ground.phase }, { on := 1, ground := Ground.phase }, { on := 2, ground := Ground.phase }, { on := 3, ground := Ground.phase }, { on := 4, ground := Ground.phase }, { on := 5, ground := Ground.phase }, { on := 6, ground := Ground.phase }, { on := 7, ground := Ground.phase }, { on := 8, ground := Ground.phase }, { on := 9, ground := Ground.phase }, { on := 10, ground := Ground.phase }, { on := 11, ground := Ground.phase }, { on := 12, ground := Ground.phase }, { on := 13, ground := Ground.phase }, { on := 14, ground := Ground.textOnly Departure.lateStores }, { on := 15, ground := Ground.textOnly Departure.lateStores }, { on := 16, ground := Ground.phase }], guard := none }) rfl (fun K hK => ?_) AllReadyH.nil
          go_simp
          refine hK.out _ _ ?_ (fun hHeld => ?_)
          · exact (set5_cell (Nat.ne_of_lt (unhide SL)) _ _ _ _ _ _).trans (unhide SC10)
          clear hK K hbc hbf
          try simp only [Act.put, List.setIfInBounds_toArray, List.set_cons_zero, List.set_cons_succ]
          refine wpAnyH_take (i := 18) (oi := { dst := some 7, op := Op.assign (Operand.tmp 28), type := 3, pos := "more.go:75", after := #[{ on := 14, ground := Ground.data }, { on := 17, ground := Ground.chain }, { on := 0, ground := Ground.phase }, { on := 1, ground := Ground.phase }, { on := 2, ground := Ground.phase }, { on := 3, ground := Ground.phase }, { on := 4, ground := Ground.phase }, { on := 5, ground := Ground.phase }, { on := 6, ground := Ground.phase }, { on := 7, ground := Ground.phase }, { on := 8, ground := Ground.phase }, { on := 9, ground := Ground.phase }, { on := 10, ground := Ground.phase }, { on := 11, ground := Ground.phase }, { on := 12, ground := Ground.phase }, { on := 13, ground := Ground.phase }, { on := 14, ground := Ground.phase }, { on := 15, ground := Ground.textOnly Departure.lateStores }, { on := 16, ground := Ground.phase }, { on := 17, ground := Ground.phase }], guard := none }) (v := ?_) rfl (by kernel_rfl) (by kernel_rfl) (by kernel_rfl) (fun _ _ _ h => h) (Or.inl ⟨by rfl, ?_⟩) (by assumption) ?_
          rotate_left
          · intro w hSw
            go_simp
            try with_reducible rfl
          try simp only [Act.put, List.setIfInBounds_toArray, List.set_cons_zero, List.set_cons_succ]
          refine wpAnyH_take (i := 19) (oi := { dst := some 8, op := Op.assign (Operand.tmp 29), type := 31, pos := "more.go:75", after := #[{ on := 15, ground := Ground.data }, { on := 18, ground := Ground.chain }, { on := 0, ground := Ground.phase }, { on := 1, ground := Ground.phase }, { on := 2, ground := Ground.phase }, { on := 3, ground := Ground.phase }, { on := 4, ground := Ground.phase }, { on := 5, ground := Ground.phase }, { on := 6, ground := Ground.phase }, { on := 7, ground := Ground.phase }, { on := 8, ground := Ground.phase }, { on := 9, ground := Ground.phase }, { on := 10, ground := Ground.phase }, { on := 11, ground := Ground.phase }, { on := 12, ground := Ground.phase }, { on := 13, ground := Ground.phase }, { on := 14, ground := Ground.phase }, { on := 15, ground := Ground.phase }, { on := 16, ground := Ground.phase }, { on := 17, ground := Ground.phase }, { on := 18, ground := Ground.phase }], guard := none }) (v := ?_) rfl (by kernel_rfl) (by kernel_rfl) (by kernel_rfl) (fun _ _ _ h => h) (Or.inl ⟨by rfl, ?_⟩) (by assumption) ?_
          rotate_left
          · intro w hSw
            go_simp
            try with_reducible rfl
          try simp only [Act.put, List.setIfInBounds_toArray, List.set_cons_zero, List.set_cons_succ]
          refine wpAnyH_done (by kernel_rfl) ?_ _
          have HF := hide (ModIn.stored (unhide KC10) (unhide VA5) (unhide BC10) (unhide MH10) (unhide MB10))
          exact HC _ _ _ _ _ _ _ _ (unhide HF)
      · go_simp
        refine hK.out _ _ ?_ (fun hHeld => ?_)
        · exact (World.cell?_alloc_lt _ _ _ (unhide LC2)).trans (unhide SC2)
        have KA3 := hide ((unhide KC2).alloc (.cells #[.string ⟨#[]⟩, .int .i64 0, .slice none 0 0, .slice none 0 0, .slice none 0 0] 30))
        have BA3 := hide (show Blk (w2.alloc (.cells #[.string ⟨#[]⟩, .int .i64 0, .slice none 0 0, .slice none 0 0, .slice none 0 0] 30)) w2.heap.size 30 #[.string ⟨#[]⟩, .int .i64 0, .slice none 0 0, .slice none 0 0, .slice none 0 0] from Blk.new w2 30 #[.string ⟨#[]⟩, .int .i64 0, .slice none 0 0, .slice none 0 0, .slice none 0 0])
        have VA3 := hide (show w.heap.size ≤ w2.heap.size from (unhide KC2).size)
        have SL := hide (unhide LC2)
        have SA3 := hide ((World.cell?_alloc_lt w2 (.cells #[.string ⟨#[]⟩, .int .i64 0, .slice none 0 0, .slice none 0 0, .slice none 0 0] 30) ⟨w.heap.size, 0, none⟩ (unhide LC2)).trans (unhide SC2))
        have LA3 := hide (Nat.lt_of_lt_of_le (unhide LC2) ((Keeps.refl w2).alloc (.cells #[.string ⟨#[]⟩, .int .i64 0, .slice none 0 0, .slice none 0 0, .slice none 0 0] 30)).size)
        clear hK K
        try simp only [Act.put, List.setIfInBounds_toArray, List.set_cons_zero, List.set_cons_succ]
        refine wpAnyH_ready (rs := [10]) (by kernel_rfl) (by simp) ?_
        refine (AllReadyH.cons (o := { dst := some 25, op := Op.call { callee := Callee.value (Operand.func 9), args := #[Operand.tmp 24], argTypes := #[9] }, type := 9, pos := "more.go:75", after := #[{ on := 9, ground := Ground.data }, { on := 1, ground := Ground.chain }], guard := none }) rfl (fun K hK => ?_) AllReadyH.nil)
        go_simp
        go_at_call 9
        with_reducible refine (unhide HMO _).mono ?_
        rintro e w'12 ⟨rfl, hw12⟩
        subst w'12
        go_wp2_with fail
        refine hK.out _ _ (unhide SA3) (fun hHeld => ?_)
        clear hK K
        try simp only [Act.put, List.setIfInBounds_toArray, List.set_cons_zero, List.set_cons_succ]
        refine wpAnyH_ready (rs := [11]) (by kernel_rfl) (by simp) ?_
        refine (AllReadyH.cons (o := { dst := some 26, op := Op.call { callee := Callee.value (Operand.func 8), args := #[Operand.tmp 25], argTypes := #[9] }, type := 32, pos := "more.go:75", after := #[{ on := 10, ground := Ground.data }, { on := 10, ground := Ground.chain }], guard := none }) rfl (fun K hK => ?_) AllReadyH.nil)
        go_simp
        go_at_call 8
        with_reducible refine (unhide HPR _ (unhide KA3)).mono ?_
        rintro e w13 ⟨A2, c2, A3, c3, A4, c4, rfl, hmh, hk⟩
        have MH13 := hide hmh
        have MB13 := hide ((unhide KA3).size)
        clear hmh
        have KC13 := hide ((unhide KA3).trans hk)
        have SC13 := hide ((Below.cell (p := ⟨w.heap.size, 0, none⟩) hk (unhide LA3)).trans (unhide SA3))
        have LC13 := hide (Nat.lt_of_lt_of_le (unhide LA3) hk.size)
        have BC13 := hide ((unhide BA3).keeps hk)
        clear hk
        go_wp2_with fail
        refine hK.out _ _ (unhide SC13) (fun hHeld => ?_)
        clear hK K
        try simp only [Act.put, List.setIfInBounds_toArray, List.set_cons_zero, List.set_cons_succ]
        refine wpAnyH_take (i := 12) (oi := { dst := some 14, op := Op.move (Operand.tmp 26), type := 32, pos := "more.go:75", after := #[{ on := 11, ground := Ground.data }], guard := none }) (v := ?_) rfl (by kernel_rfl) (by kernel_rfl) (by kernel_rfl) (fun _ _ _ h => h) (Or.inl ⟨by rfl, ?_⟩) (by assumption) ?_
        rotate_left
        · intro w hSw
          go_simp
          try with_reducible rfl
        try simp only [Act.put, List.setIfInBounds_toArray, List.set_cons_zero, List.set_cons_succ]
        refine wpAnyH_take (i := 13) (oi := { dst := some 27, op := Op.extract (Operand.tmp 14) 0, type := 30, pos := "more.go:75", after := #[{ on := 12, ground := Ground.data }], guard := none }) (v := ?_) rfl (by kernel_rfl) (by kernel_rfl) (by kernel_rfl) (fun _ _ _ h => h) (Or.inl ⟨by rfl, ?_⟩) (by assumption) ?_
        rotate_left
        · intro w hSw
          go_simp
          try with_reducible rfl
        try simp only [Act.put, List.setIfInBounds_toArray, List.set_cons_zero, List.set_cons_succ]
        refine wpAnyH_take (i := 14) (oi := { dst := some 28, op := Op.extract (Operand.tmp 14) 1, type := 3, pos := "more.go:75", after := #[{ on := 12, ground := Ground.data }, { on := 17, ground := Ground.gcOnly Departure.lateStores }], guard := none }) (v := ?_) rfl (by kernel_rfl) (by kernel_rfl) (by kernel_rfl) (fun _ _ _ h => h) (Or.inl ⟨by rfl, ?_⟩) (by assumption) ?_
        rotate_left
        · intro w hSw
          go_simp
          try with_reducible rfl
        try simp only [Act.put, List.setIfInBounds_toArray, List.set_cons_zero, List.set_cons_succ]
        refine wpAnyH_take (i := 15) (oi := { dst := some 29, op := Op.extract (Operand.tmp 14) 2, type := 31, pos := "more.go:75", after := #[{ on := 12, ground := Ground.data }, { on := 18, ground := Ground.gcOnly Departure.lateStores }], guard := none }) (v := ?_) rfl (by kernel_rfl) (by kernel_rfl) (by kernel_rfl) (fun _ _ _ h => h) (Or.inl ⟨by rfl, ?_⟩) (by assumption) ?_
        rotate_left
        · intro w hSw
          go_simp
          try with_reducible rfl
        try simp only [Act.put, List.setIfInBounds_toArray, List.set_cons_zero, List.set_cons_succ]
        obtain ⟨hbc, hbf, -⟩ := (unhide BC13).facts
        refine wpAnyH_ready (rs := [17]) (by kernel_rfl) (by simp) ?_
        refine AllReadyH.cons (o := { dst := none, op := Op.store 30 (Operand.tmp 6) (Operand.tmp 27), type := 0, pos := "more.go:75", after := #[{ on := 16, ground := Ground.data }, { on := 13, ground := Ground.data }, { on := 11, ground := Ground.chain }, { on := 0, ground := Ground.phase }, { on := 1, ground := Ground.phase }, { on := 2, ground := Ground.phase }, { on := 3, ground := Ground.phase }, { on := 4, ground := Ground.phase }, { on := 5, ground := Ground.phase }, { on := 6, ground := Ground.phase }, { on := 7, ground := Ground.phase }, { on := 8, ground := Ground.phase }, { on := 9, ground := Ground.phase }, { on := 10, ground := Ground.phase }, { on := 11, ground := Ground.phase }, { on := 12, ground := Ground.phase }, { on := 13, ground := Ground.phase }, { on := 14, ground := Ground.textOnly Departure.lateStores }, { on := 15, ground := Ground.textOnly Departure.lateStores }, { on := 16, ground := Ground.phase }], guard := none }) rfl (fun K hK => ?_) AllReadyH.nil
        go_simp
        refine hK.out _ _ ?_ (fun hHeld => ?_)
        · exact (set5_cell (Nat.ne_of_lt (unhide SL)) _ _ _ _ _ _).trans (unhide SC13)
        clear hK K hbc hbf
        try simp only [Act.put, List.setIfInBounds_toArray, List.set_cons_zero, List.set_cons_succ]
        refine wpAnyH_take (i := 18) (oi := { dst := some 7, op := Op.assign (Operand.tmp 28), type := 3, pos := "more.go:75", after := #[{ on := 14, ground := Ground.data }, { on := 17, ground := Ground.chain }, { on := 0, ground := Ground.phase }, { on := 1, ground := Ground.phase }, { on := 2, ground := Ground.phase }, { on := 3, ground := Ground.phase }, { on := 4, ground := Ground.phase }, { on := 5, ground := Ground.phase }, { on := 6, ground := Ground.phase }, { on := 7, ground := Ground.phase }, { on := 8, ground := Ground.phase }, { on := 9, ground := Ground.phase }, { on := 10, ground := Ground.phase }, { on := 11, ground := Ground.phase }, { on := 12, ground := Ground.phase }, { on := 13, ground := Ground.phase }, { on := 14, ground := Ground.phase }, { on := 15, ground := Ground.textOnly Departure.lateStores }, { on := 16, ground := Ground.phase }, { on := 17, ground := Ground.phase }], guard := none }) (v := ?_) rfl (by kernel_rfl) (by kernel_rfl) (by kernel_rfl) (fun _ _ _ h => h) (Or.inl ⟨by rfl, ?_⟩) (by assumption) ?_
        rotate_left
        · intro w hSw
          go_simp
          try with_reducible rfl
        try simp only [Act.put, List.setIfInBounds_toArray, List.set_cons_zero, List.set_cons_succ]
        refine wpAnyH_take (i := 19) (oi := { dst := some 8, op := Op.assign (Operand.tmp 29), type := 31, pos := "more.go:75", after := #[{ on := 15, ground := Ground.data }, { on := 18, ground := Ground.chain }, { on := 0, ground := Ground.phase }, { on := 1, ground := Ground.phase }, { on := 2, ground := Ground.phase }, { on := 3, ground := Ground.phase }, { on := 4, ground := Ground.phase }, { on := 5, ground := Ground.phase }, { on := 6, ground := Ground.phase }, { on := 7, ground := Ground.phase }, { on := 8, ground := Ground.phase }, { on := 9, ground := Ground.phase }, { on := 10, ground := Ground.phase }, { on := 11, ground := Ground.phase }, { on := 12, ground := Ground.phase }, { on := 13, ground := Ground.phase }, { on := 14, ground := Ground.phase }, { on := 15, ground := Ground.phase }, { on := 16, ground := Ground.phase }, { on := 17, ground := Ground.phase }, { on := 18, ground := Ground.phase }], guard := none }) (v := ?_) rfl (by kernel_rfl) (by kernel_rfl) (by kernel_rfl) (fun _ _ _ h => h) (Or.inl ⟨by rfl, ?_⟩) (by assumption) ?_
        rotate_left
        · intro w hSw
          go_simp
          try with_reducible rfl
        try simp only [Act.put, List.setIfInBounds_toArray, List.set_cons_zero, List.set_cons_succ]
        refine wpAnyH_done (by kernel_rfl) ?_ _
        have HF := hide (ModIn.stored (unhide KC13) (unhide VA3) (unhide BC13) (unhide MH13) (unhide MB13))
        exact HC _ _ _ _ _ _ _ _ (unhide HF)
    · go_simp
      refine hK.out _ _ ?_ (fun hHeld => ?_)
      · exact (World.cell?_alloc_lt _ _ _ (unhide HLd)).trans (unhide HSd)
      have KA1 := hide ((unhide HKd).alloc (.cells #[.string ⟨#[]⟩, .int .i64 0, .slice none 0 0, .slice none 0 0, .slice none 0 0] 30))
      have BA1 := hide (show Blk (v0.drew.alloc (.cells #[.string ⟨#[]⟩, .int .i64 0, .slice none 0 0, .slice none 0 0, .slice none 0 0] 30)) v0.heap.size 30 #[.string ⟨#[]⟩, .int .i64 0, .slice none 0 0, .slice none 0 0, .slice none 0 0] from Blk.new v0.drew 30 #[.string ⟨#[]⟩, .int .i64 0, .slice none 0 0, .slice none 0 0, .slice none 0 0])
      have VA1 := hide (show w.heap.size ≤ v0.heap.size from (unhide HKd).size)
      have SL := hide (unhide HLd)
      have SA1 := hide ((World.cell?_alloc_lt v0.drew (.cells #[.string ⟨#[]⟩, .int .i64 0, .slice none 0 0, .slice none 0 0, .slice none 0 0] 30) ⟨w.heap.size, 0, none⟩ (unhide HLd)).trans (unhide HSd))
      have LA1 := hide (Nat.lt_of_lt_of_le (unhide HLd) ((Keeps.refl v0.drew).alloc (.cells #[.string ⟨#[]⟩, .int .i64 0, .slice none 0 0, .slice none 0 0, .slice none 0 0] 30)).size)
      clear hK K
      try simp only [Act.put, List.setIfInBounds_toArray, List.set_cons_zero, List.set_cons_succ]
      refine wpAnyH_ready (rs := [1]) (by kernel_rfl) (by simp) ?_
      refine (AllReadyH.cons (o := { dst := some 16, op := Op.call { callee := Callee.value (Operand.func 7), args := #[Operand.tmp 15], argTypes := #[2] }, type := 9, pos := "more.go:75", after := #[{ on := 0, ground := Ground.data }], guard := none }) rfl (fun K hK => ?_) AllReadyH.nil)
      go_simp
      go_at_call 7
      with_reducible refine (unhide HN _).mono ?_
      rintro e w15 ⟨rfl, hk⟩
      have KC15 := hide ((unhide KA1).trans hk)
      have SC15 := hide ((Below.cell (p := ⟨w.heap.size, 0, none⟩) hk (unhide LA1)).trans (unhide SA1))
      have LC15 := hide (Nat.lt_of_lt_of_le (unhide LA1) hk.size)
      have BC15 := hide ((unhide BA1).keeps hk)
      clear hk
      go_wp2_with fail
      refine hK.out _ _ (unhide SC15) (fun hHeld => ?_)
      clear hK K
      try simp only [Act.put, List.setIfInBounds_toArray, List.set_cons_zero, List.set_cons_succ]
      refine wpAnyH_take (i := 2) (oi := { dst := some 17, op := Op.binOp BinOp.add 9 (Operand.const (Value.string { data := #[91] })) (Operand.tmp 16) 9, type := 9, pos := "more.go:75", after := #[{ on := 1, ground := Ground.data }], guard := none }) (v := ?_) rfl (by kernel_rfl) (by kernel_rfl) (by kernel_rfl) (fun _ _ _ h => h) (Or.inl ⟨by rfl, ?_⟩) (by assumption) ?_
      rotate_left
      · intro w hSw
        go_simp
        try with_reducible rfl
      try simp only [Act.put, List.setIfInBounds_toArray, List.set_cons_zero, List.set_cons_succ]
      refine wpAnyH_take (i := 3) (oi := { dst := some 18, op := Op.binOp BinOp.add 9 (Operand.tmp 17) (Operand.const (Value.string { data := #[93, 32] })) 9, type := 9, pos := "more.go:75", after := #[{ on := 2, ground := Ground.data }], guard := none }) (v := ?_) rfl (by kernel_rfl) (by kernel_rfl) (by kernel_rfl) (fun _ _ _ h => h) (Or.inl ⟨by rfl, ?_⟩) (by assumption) ?_
      rotate_left
      · intro w hSw
        go_simp
        try with_reducible rfl
      try simp only [Act.put, List.setIfInBounds_toArray, List.set_cons_zero, List.set_cons_succ]
      refine wpAnyH_take (i := 8) (oi := { dst := some 23, op := Op.binOp BinOp.add 9 (Operand.tmp 18) (Operand.tmp 22) 9, type := 9, pos := "more.go:75", after := #[{ on := 3, ground := Ground.data }, { on := 7, ground := Ground.data }], guard := none }) (v := ?_) rfl (by kernel_rfl) (by kernel_rfl) (by kernel_rfl) (fun _ _ _ h => h) (Or.inl ⟨by rfl, ?_⟩) (by assumption) ?_
      rotate_left
      · intro w hSw
        go_simp
        try with_reducible rfl
      try simp only [Act.put, List.setIfInBounds_toArray, List.set_cons_zero, List.set_cons_succ]
      refine wpAnyH_take (i := 9) (oi := { dst := some 24, op := Op.binOp BinOp.add 9 (Operand.tmp 23) (Operand.const (Value.string { data := #[78, 85, 76, 76] })) 9, type := 9, pos := "more.go:75", after := #[{ on := 8, ground := Ground.data }], guard := none }) (v := ?_) rfl (by kernel_rfl) (by kernel_rfl) (by kernel_rfl) (fun _ _ _ h => h) (Or.inl ⟨by rfl, ?_⟩) (by assumption) ?_
      rotate_left
      · intro w hSw
        go_simp
        try with_reducible rfl
      try simp only [Act.put, List.setIfInBounds_toArray, List.set_cons_zero, List.set_cons_succ]
      refine wpAnyH_ready (rs := [10]) (by kernel_rfl) (by simp) ?_
      refine (AllReadyH.cons (o := { dst := some 25, op := Op.call { callee := Callee.value (Operand.func 9), args := #[Operand.tmp 24], argTypes := #[9] }, type := 9, pos := "more.go:75", after := #[{ on := 9, ground := Ground.data }, { on := 1, ground := Ground.chain }], guard := none }) rfl (fun K hK => ?_) AllReadyH.nil)
      go_simp
      go_at_call 9
      with_reducible refine (unhide HMO _).mono ?_
      rintro e w'16 ⟨rfl, hw16⟩
      subst w'16
      go_wp2_with fail
      refine hK.out _ _ (unhide SC15) (fun hHeld => ?_)
      clear hK K
      try simp only [Act.put, List.setIfInBounds_toArray, List.set_cons_zero, List.set_cons_succ]
      refine wpAnyH_ready (rs := [11]) (by kernel_rfl) (by simp) ?_
      refine (AllReadyH.cons (o := { dst := some 26, op := Op.call { callee := Callee.value (Operand.func 8), args := #[Operand.tmp 25], argTypes := #[9] }, type := 32, pos := "more.go:75", after := #[{ on := 10, ground := Ground.data }, { on := 10, ground := Ground.chain }], guard := none }) rfl (fun K hK => ?_) AllReadyH.nil)
      go_simp
      go_at_call 8
      with_reducible refine (unhide HPR _ (unhide KC15)).mono ?_
      rintro e w17 ⟨A2, c2, A3, c3, A4, c4, rfl, hmh, hk⟩
      have MH17 := hide hmh
      have MB17 := hide ((unhide KC15).size)
      clear hmh
      have KC17 := hide ((unhide KC15).trans hk)
      have SC17 := hide ((Below.cell (p := ⟨w.heap.size, 0, none⟩) hk (unhide LC15)).trans (unhide SC15))
      have LC17 := hide (Nat.lt_of_lt_of_le (unhide LC15) hk.size)
      have BC17 := hide ((unhide BC15).keeps hk)
      clear hk
      go_wp2_with fail
      refine hK.out _ _ (unhide SC17) (fun hHeld => ?_)
      clear hK K
      try simp only [Act.put, List.setIfInBounds_toArray, List.set_cons_zero, List.set_cons_succ]
      refine wpAnyH_take (i := 12) (oi := { dst := some 14, op := Op.move (Operand.tmp 26), type := 32, pos := "more.go:75", after := #[{ on := 11, ground := Ground.data }], guard := none }) (v := ?_) rfl (by kernel_rfl) (by kernel_rfl) (by kernel_rfl) (fun _ _ _ h => h) (Or.inl ⟨by rfl, ?_⟩) (by assumption) ?_
      rotate_left
      · intro w hSw
        go_simp
        try with_reducible rfl
      try simp only [Act.put, List.setIfInBounds_toArray, List.set_cons_zero, List.set_cons_succ]
      refine wpAnyH_take (i := 13) (oi := { dst := some 27, op := Op.extract (Operand.tmp 14) 0, type := 30, pos := "more.go:75", after := #[{ on := 12, ground := Ground.data }], guard := none }) (v := ?_) rfl (by kernel_rfl) (by kernel_rfl) (by kernel_rfl) (fun _ _ _ h => h) (Or.inl ⟨by rfl, ?_⟩) (by assumption) ?_
      rotate_left
      · intro w hSw
        go_simp
        try with_reducible rfl
      try simp only [Act.put, List.setIfInBounds_toArray, List.set_cons_zero, List.set_cons_succ]
      refine wpAnyH_take (i := 14) (oi := { dst := some 28, op := Op.extract (Operand.tmp 14) 1, type := 3, pos := "more.go:75", after := #[{ on := 12, ground := Ground.data }, { on := 17, ground := Ground.gcOnly Departure.lateStores }], guard := none }) (v := ?_) rfl (by kernel_rfl) (by kernel_rfl) (by kernel_rfl) (fun _ _ _ h => h) (Or.inl ⟨by rfl, ?_⟩) (by assumption) ?_
      rotate_left
      · intro w hSw
        go_simp
        try with_reducible rfl
      try simp only [Act.put, List.setIfInBounds_toArray, List.set_cons_zero, List.set_cons_succ]
      refine wpAnyH_take (i := 15) (oi := { dst := some 29, op := Op.extract (Operand.tmp 14) 2, type := 31, pos := "more.go:75", after := #[{ on := 12, ground := Ground.data }, { on := 18, ground := Ground.gcOnly Departure.lateStores }], guard := none }) (v := ?_) rfl (by kernel_rfl) (by kernel_rfl) (by kernel_rfl) (fun _ _ _ h => h) (Or.inl ⟨by rfl, ?_⟩) (by assumption) ?_
      rotate_left
      · intro w hSw
        go_simp
        try with_reducible rfl
      try simp only [Act.put, List.setIfInBounds_toArray, List.set_cons_zero, List.set_cons_succ]
      obtain ⟨hbc, hbf, -⟩ := (unhide BC17).facts
      refine wpAnyH_ready (rs := [17]) (by kernel_rfl) (by simp) ?_
      refine AllReadyH.cons (o := { dst := none, op := Op.store 30 (Operand.tmp 6) (Operand.tmp 27), type := 0, pos := "more.go:75", after := #[{ on := 16, ground := Ground.data }, { on := 13, ground := Ground.data }, { on := 11, ground := Ground.chain }, { on := 0, ground := Ground.phase }, { on := 1, ground := Ground.phase }, { on := 2, ground := Ground.phase }, { on := 3, ground := Ground.phase }, { on := 4, ground := Ground.phase }, { on := 5, ground := Ground.phase }, { on := 6, ground := Ground.phase }, { on := 7, ground := Ground.phase }, { on := 8, ground := Ground.phase }, { on := 9, ground := Ground.phase }, { on := 10, ground := Ground.phase }, { on := 11, ground := Ground.phase }, { on := 12, ground := Ground.phase }, { on := 13, ground := Ground.phase }, { on := 14, ground := Ground.textOnly Departure.lateStores }, { on := 15, ground := Ground.textOnly Departure.lateStores }, { on := 16, ground := Ground.phase }], guard := none }) rfl (fun K hK => ?_) AllReadyH.nil
      go_simp
      refine hK.out _ _ ?_ (fun hHeld => ?_)
      · exact (set5_cell (Nat.ne_of_lt (unhide SL)) _ _ _ _ _ _).trans (unhide SC17)
      clear hK K hbc hbf
      try simp only [Act.put, List.setIfInBounds_toArray, List.set_cons_zero, List.set_cons_succ]
      refine wpAnyH_take (i := 18) (oi := { dst := some 7, op := Op.assign (Operand.tmp 28), type := 3, pos := "more.go:75", after := #[{ on := 14, ground := Ground.data }, { on := 17, ground := Ground.chain }, { on := 0, ground := Ground.phase }, { on := 1, ground := Ground.phase }, { on := 2, ground := Ground.phase }, { on := 3, ground := Ground.phase }, { on := 4, ground := Ground.phase }, { on := 5, ground := Ground.phase }, { on := 6, ground := Ground.phase }, { on := 7, ground := Ground.phase }, { on := 8, ground := Ground.phase }, { on := 9, ground := Ground.phase }, { on := 10, ground := Ground.phase }, { on := 11, ground := Ground.phase }, { on := 12, ground := Ground.phase }, { on := 13, ground := Ground.phase }, { on := 14, ground := Ground.phase }, { on := 15, ground := Ground.textOnly Departure.lateStores }, { on := 16, ground := Ground.phase }, { on := 17, ground := Ground.phase }], guard := none }) (v := ?_) rfl (by kernel_rfl) (by kernel_rfl) (by kernel_rfl) (fun _ _ _ h => h) (Or.inl ⟨by rfl, ?_⟩) (by assumption) ?_
      rotate_left
      · intro w hSw
        go_simp
        try with_reducible rfl
      try simp only [Act.put, List.setIfInBounds_toArray, List.set_cons_zero, List.set_cons_succ]
      refine wpAnyH_take (i := 19) (oi := { dst := some 8, op := Op.assign (Operand.tmp 29), type := 31, pos := "more.go:75", after := #[{ on := 15, ground := Ground.data }, { on := 18, ground := Ground.chain }, { on := 0, ground := Ground.phase }, { on := 1, ground := Ground.phase }, { on := 2, ground := Ground.phase }, { on := 3, ground := Ground.phase }, { on := 4, ground := Ground.phase }, { on := 5, ground := Ground.phase }, { on := 6, ground := Ground.phase }, { on := 7, ground := Ground.phase }, { on := 8, ground := Ground.phase }, { on := 9, ground := Ground.phase }, { on := 10, ground := Ground.phase }, { on := 11, ground := Ground.phase }, { on := 12, ground := Ground.phase }, { on := 13, ground := Ground.phase }, { on := 14, ground := Ground.phase }, { on := 15, ground := Ground.phase }, { on := 16, ground := Ground.phase }, { on := 17, ground := Ground.phase }, { on := 18, ground := Ground.phase }], guard := none }) (v := ?_) rfl (by kernel_rfl) (by kernel_rfl) (by kernel_rfl) (fun _ _ _ h => h) (Or.inl ⟨by rfl, ?_⟩) (by assumption) ?_
      rotate_left
      · intro w hSw
        go_simp
        try with_reducible rfl
      try simp only [Act.put, List.setIfInBounds_toArray, List.set_cons_zero, List.set_cons_succ]
      refine wpAnyH_done (by kernel_rfl) ?_ _
      have HF := hide (ModIn.stored (unhide KC17) (unhide VA1) (unhide BC17) (unhide MH17) (unhide MB17))
      exact HC _ _ _ _ _ _ _ _ (unhide HF)
  · intro w1 V A2 c2 A3 c3 A4 c4 hm
    have hcase := unhide HX
    skip
    have HM := hide hm.at_
    have hb0 := hm.2.1
    have HB0 := hide hb0
    clear hm hb0
    rcases hcase with ⟨hx, hnl, rfl, rfl⟩ | ⟨hx, hnl, rfl⟩
    · have hl0 : md.nodes.length = 0 := by rw [hnl]; rfl
      have hx2 : (decide (v < 0) || decide (268435456 < v)) = true := by simpa using hx
      have HX2 := hide hx2
      clear hx2
      rw [hl0] at HB0
      clear hnl hl0
      rcases Int.lt_or_le v 0 with hv0 | hv0
      · go_wp2_with fail
        refine (unhide HA _ (unhide HM).1).mono ?_
        rintro e w2 ⟨rfl, hk2⟩
        have HK2 := hide ((unhide HM).1.trans hk2)
        obtain ⟨htc, htf, -⟩ := ((unhide HB0).keeps hk2).facts
        clear hk2
        go_wp2_with fail
        refine (unhide HME _).mono ?_
        rintro e w' ⟨rfl, rfl⟩
        go_wp2
        go_ret
        exact ⟨rfl, unhide HK2⟩
      · have hv1 : ¬ v < 0 := by omega
        have hv2 : 268435456 < v := by omega
        go_wp2_with fail
        refine (unhide HA _ (unhide HM).1).mono ?_
        rintro e w2 ⟨rfl, hk2⟩
        have HK2 := hide ((unhide HM).1.trans hk2)
        obtain ⟨htc, htf, -⟩ := ((unhide HB0).keeps hk2).facts
        clear hk2
        go_wp2_with fail
        refine (unhide HME _).mono ?_
        rintro e w' ⟨rfl, rfl⟩
        go_wp2
        go_ret
        exact ⟨rfl, unhide HK2⟩
    · have hv1 : ¬ v < 0 := by omega
      have hv2 : ¬ 268435456 < v := by omega
      clear HB0
      go_wp2_with fail
      refine (unhide HA _ (unhide HM).1).mono ?_
      rintro e w2 ⟨rfl, hk2⟩
      have HM2 := hide ((unhide HM).keeps hk2)
      have hnn : md.nodes[0]? = some ({ kind := 4, mHas := true, mNum := v, mMode := 0 } : NodeV) := by rw [hnl]; rfl
      obtain ⟨B2, d2, B3, d3, R, c, vi, vf, hb, hR, hc⟩ := (unhide HM2).node hnn
      have h2 : w2.cell? ⟨R, 2, none⟩ = some (.bool true) := hc 2 _ (by decide) rfl
      have h3 : w2.cell? ⟨R, 3, none⟩ = some (.int .i64 v) := hc 3 _ (by decide) rfl
      have h4 : w2.cell? ⟨R, 4, none⟩ = some (.int .i64 0) := hc 4 _ (by decide) rfl
      have hl1 : md.nodes.length = 1 := by rw [hnl]; rfl
      rw [hl1] at hb
      have hk2' := hide hk2
      obtain ⟨htc, htf, -⟩ := hb.facts
      have HK2 := hide (unhide HM2).1
      have hwv := unhide HWV
      clear hk2 hk2' hc hnn hl1 hnl HM HM2 hb HX
      go_wp2
      go_ret
      exact ⟨rfl, unhide HK2⟩
set_option maxRecDepth 100000 in
set_option maxHeartbeats 16000000 in
theorem syntaxMarks_1 {w : World} (hL : LexW w) (v n : Int) (h0 : -9223372036854775808 ≤ v) (h1 : v ≤ 9223372036854775807) (hm' : wrap64 ((IntKind.u64.wrap n).tmod 3) = 1) : Calls Tryd.prog 6 #[.int .i64 v, .int .i64 n] w fun e w' => e = .returned (.bool true) ∧ Keeps w w' := by
  have HA := hide (fun (w1 : World) (hk : Keeps w w1) => awake05_any (hL.keeps hk))
  have HN := hide (fun w => number_help v h0 h1 w)
  obtain ⟨md, p, x, hpr, hcase⟩ := marks_any hL v h0 h1 1 (by decide)
  have HPR := hide (fun (w1 : World) (hk : Keeps w w1) => (show Calls Tryd.prog 8 #[.string (⟨#[77, 32, 68, 69, 70, 73, 78, 73, 84, 73, 79, 78, 83, 32, 58, 58, 61, 32, 66, 69, 71, 73, 78, 32, 65, 32, 58, 58, 61, 32]⟩ ++ (⟨#[91]⟩ ++ numB v ++ ⟨#[93, 32]⟩ ++ ⟨#[69, 88, 80, 76, 73, 67, 73, 84, 32]⟩ ++ ⟨#[78, 85, 76, 76]⟩) ++ ⟨#[32, 69, 78, 68]⟩)] w1 (GivesM md p x w1) from hpr w1 hk))
  have hms := mk_size v 1 (by decide)
  have HMO := hide (fun w => module05_any (⟨#[91]⟩ ++ numB v ++ ⟨#[93, 32]⟩ ++ ⟨#[69, 88, 80, 76, 73, 67, 73, 84, 32]⟩ ++ ⟨#[78, 85, 76, 76]⟩) w (by show (mkB (numB v) 1).size ≤ _; omega))
  have HME := hide (fun w => module05_any ⟨#[]⟩ w (by decide))
  have hns := num_size v
  have hq1 : ¬ 9223372036854775807 < 1 + (numB v).size := by omega
  have hq2 : ¬ 9223372036854775807 < 1 + (numB v).size + 2 := by omega
  have hq3 : ¬ 9223372036854775807 < 1 + (numB v).size + 2 + 9 := by omega
  have hq4 : ¬ 9223372036854775807 < 1 + (numB v).size + 2 + 9 + 4 := by omega
  have HX := hide hcase
  have HWV := hide (show wrap64 v = v by unfold wrap64; omega)
  clear hms hns hL hpr hcase
  go_enter Tryd.func6, Tryd.ntmps6
  go_wp2_with fail
  rw [hm']
  clear hm'
  go_wp2_with fail
  have HT0 := hide (Blk.new w 9 #[.string ⟨#[]⟩, .string ⟨#[69, 88, 80, 76, 73, 67, 73, 84, 32]⟩, .string ⟨#[73, 77, 80, 76, 73, 67, 73, 84, 32]⟩])
  have hc0 : (w.alloc (.cells #[.string ⟨#[]⟩, .string ⟨#[69, 88, 80, 76, 73, 67, 73, 84, 32]⟩, .string ⟨#[73, 77, 80, 76, 73, 67, 73, 84, 32]⟩] 9)).cell? ⟨w.heap.size, 1, none⟩ = some (.string ⟨#[69, 88, 80, 76, 73, 67, 73, 84, 32]⟩) := (unhide HT0).cell 1
  have HKd := hide (drew_keeps ((Keeps.refl w).alloc (.cells #[.string ⟨#[]⟩, .string ⟨#[69, 88, 80, 76, 73, 67, 73, 84, 32]⟩, .string ⟨#[73, 77, 80, 76, 73, 67, 73, 84, 32]⟩] 9)))
  have HSd := hide (drew_cell hc0)
  have HLd := hide (show w.heap.size < (w.alloc (.cells #[.string ⟨#[]⟩, .string ⟨#[69, 88, 80, 76, 73, 67, 73, 84, 32]⟩, .string ⟨#[73, 77, 80, 76, 73, 67, 73, 84, 32]⟩] 9)).drew.heap.size by show _ < (w.alloc _).heap.size; rw [World.size_alloc]; omega)
  generalize (w.alloc (.cells #[.string ⟨#[]⟩, .string ⟨#[69, 88, 80, 76, 73, 67, 73, 84, 32]⟩, .string ⟨#[73, 77, 80, 76, 73, 67, 73, 84, 32]⟩] 9)) = v0 at *
  clear HT0
  apply cut_mod (w0 := w) (md := md)
  · intro HC
    refine wp_region_held_drew (S := fun w' => w'.cell? ⟨w.heap.size, 1, none⟩ = some (.string ⟨#[69, 88, 80, 76, 73, 67, 73, 84, 32]⟩)) (by kernel_rfl) hc0 (fun hHeld => ?_)
    refine wpAnyH_take (i := 0) (oi := { dst := some 15, op := Op.move (Operand.tmp 0), type := 2, pos := "more.go:75", after := #[], guard := none }) (v := ?_) rfl (by kernel_rfl) (by kernel_rfl) (by kernel_rfl) (fun _ _ _ h => h) (Or.inl ⟨by rfl, ?_⟩) (by assumption) ?_
    rotate_left
    · intro w hSw
      go_simp
      try with_reducible rfl
    try simp only [Act.put, List.setIfInBounds_toArray, List.set_cons_zero, List.set_cons_succ]
    refine wpAnyH_take (i := 4) (oi := { dst := some 19, op := Op.move (Operand.tmp 5), type := 24, pos := "more.go:75", after := #[], guard := none }) (v := ?_) rfl (by kernel_rfl) (by kernel_rfl) (by kernel_rfl) (fun _ _ _ h => h) (Or.inl ⟨by rfl, ?_⟩) (by assumption) ?_
    rotate_left
    · intro w hSw
      go_simp
      try with_reducible rfl
    try simp only [Act.put, List.setIfInBounds_toArray, List.set_cons_zero, List.set_cons_succ]
    refine wpAnyH_take (i := 5) (oi := { dst := some 20, op := Op.move (Operand.tmp 1), type := 3, pos := "more.go:75", after := #[], guard := none }) (v := ?_) rfl (by kernel_rfl) (by kernel_rfl) (by kernel_rfl) (fun _ _ _ h => h) (Or.inl ⟨by rfl, ?_⟩) (by assumption) ?_
    rotate_left
    · intro w hSw
      go_simp
      try with_reducible rfl
    try simp only [Act.put, List.setIfInBounds_toArray, List.set_cons_zero, List.set_cons_succ]
    refine wpAnyH_take (i := 6) (oi := { dst := some 21, op := Op.indexAddr 24 (Operand.tmp 19) (Operand.tmp 20), type := 0, pos := "more.go:75", after := #[{ on := 4, ground := Ground.data }, { on := 5, ground := Ground.data }], guard := none }) (v := ?_) rfl (by kernel_rfl) (by kernel_rfl) (by kernel_rfl) (fun _ _ _ h => h) (Or.inl ⟨by rfl, ?_⟩) (by assumption) ?_
    rotate_left
    · intro w hSw
      go_simp
      try with_reducible rfl
    try simp only [Act.put, List.setIfInBounds_toArray, List.set_cons_zero, List.set_cons_succ]
    refine wpAnyH_take (i := 7) (oi := { dst := some 22, op := Op.load 9 (Operand.tmp 21), type := 9, pos := "more.go:75", after := #[{ on := 6, ground := Ground.data }], guard := none }) (v := ?_) rfl (by kernel_rfl) (by kernel_rfl) (by kernel_rfl) (fun _ _ _ h => h) (Or.inl ⟨by rfl, ?_⟩) (by assumption) ?_
    rotate_left
    · intro w hSw
      go_simp
      try with_reducible rfl
    try simp only [Act.put, List.setIfInBounds_toArray, List.set_cons_zero, List.set_cons_succ]
    refine wpAnyH_ready (rs := [1, 16]) (by kernel_rfl) (by simp) ?_
    refine (AllReadyH.cons (o := { dst := some 16, op := Op.call { callee := Callee.value (Operand.func 7), args := #[Operand.tmp 15], argTypes := #[2] }, type := 9, pos := "more.go:75", after := #[{ on := 0, ground := Ground.data }], guard := none }) rfl (fun K hK => ?_) (AllReadyH.cons (o := { dst := some 6, op := Op.alloc 30, type := 0, pos := "more.go:75", after := #[], guard := none }) rfl (fun K hK => ?_) AllReadyH.nil))
    · go_simp
      go_at_call 7
      with_reducible refine (unhide HN _).mono ?_
      rintro e w20 ⟨rfl, hk⟩
      have KC20 := hide ((unhide HKd).trans hk)
      have SC20 := hide ((Below.cell (p := ⟨w.heap.size, 1, none⟩) hk (unhide HLd)).trans (unhide HSd))
      have LC20 := hide (Nat.lt_of_lt_of_le (unhide HLd) hk.size)
      clear hk
      go_wp2_with fail
      refine hK.out _ _ (unhide SC20) (fun hHeld => ?_)
      clear hK K
      try simp only [Act.put, List.setIfInBounds_toArray, List.set_cons_zero, List.set_cons_succ]
      refine wpAnyH_take (i := 2) (oi := { dst := some 17, op := Op.binOp BinOp.add 9 (Operand.const (Value.string { data := #[91] })) (Operand.tmp 16) 9, type := 9, pos := "more.go:75", after := #[{ on := 1, ground := Ground.data }], guard := none }) (v := ?_) rfl (by kernel_rfl) (by kernel_rfl) (by kernel_rfl) (fun _ _ _ h => h) (Or.inl ⟨by rfl, ?_⟩) (by assumption) ?_
      rotate_left
      · intro w hSw
        go_simp
        try with_reducible rfl
      try simp only [Act.put, List.setIfInBounds_toArray, List.set_cons_zero, List.set_cons_succ]
      refine wpAnyH_take (i := 3) (oi := { dst := some 18, op := Op.binOp BinOp.add 9 (Operand.tmp 17) (Operand.const (Value.string { data := #[93, 32] })) 9, type := 9, pos := "more.go:75", after := #[{ on := 2, ground := Ground.data }], guard := none }) (v := ?_) rfl (by kernel_rfl) (by kernel_rfl) (by kernel_rfl) (fun _ _ _ h => h) (Or.inl ⟨by rfl, ?_⟩) (by assumption) ?_
      rotate_left
      · intro w hSw
        go_simp
        try with_reducible rfl
      try simp only [Act.put, List.setIfInBounds_toArray, List.set_cons_zero, List.set_cons_succ]
      refine wpAnyH_take (i := 8) (oi := { dst := some 23, op := Op.binOp BinOp.add 9 (Operand.tmp 18) (Operand.tmp 22) 9, type := 9, pos := "more.go:75", after := #[{ on := 3, ground := Ground.data }, { on := 7, ground := Ground.data }], guard := none }) (v := ?_) rfl (by kernel_rfl) (by kernel_rfl) (by kernel_rfl) (fun _ _ _ h => h) (Or.inl ⟨by rfl, ?_⟩) (by assumption) ?_
      rotate_left
      · intro w hSw
        go_simp
        try with_reducible rfl
      try simp only [Act.put, List.setIfInBounds_toArray, List.set_cons_zero, List.set_cons_succ]
      refine wpAnyH_take (i := 9) (oi := { dst := some 24, op := Op.binOp BinOp.add 9 (Operand.tmp 23) (Operand.const (Value.string { data := #[78, 85, 76, 76] })) 9, type := 9, pos := "more.go:75", after := #[{ on := 8, ground := Ground.data }], guard := none }) (v := ?_) rfl (by kernel_rfl) (by kernel_rfl) (by kernel_rfl) (fun _ _ _ h => h) (Or.inl ⟨by rfl, ?_⟩) (by assumption) ?_
      rotate_left
      · intro w hSw
        go_simp
        try with_reducible rfl
      try simp only [Act.put, List.setIfInBounds_toArray, List.set_cons_zero, List.set_cons_succ]
      refine wpAnyH_ready (rs := [10, 16]) (by kernel_rfl) (by simp) ?_
      refine (AllReadyH.cons (o := { dst := some 25, op := Op.call { callee := Callee.value (Operand.func 9), args := #[Operand.tmp 24], argTypes := #[9] }, type := 9, pos := "more.go:75", after := #[{ on := 9, ground := Ground.data }, { on := 1, ground := Ground.chain }], guard := none }) rfl (fun K hK => ?_) (AllReadyH.cons (o := { dst := some 6, op := Op.alloc 30, type := 0, pos := "more.go:75", after := #[], guard := none }) rfl (fun K hK => ?_) AllReadyH.nil))
      · go_simp
        go_at_call 9
        with_reducible refine (unhide HMO _).mono ?_
        rintro e w'22 ⟨rfl, hw22⟩
        subst w'22
        go_wp2_with fail
        refine hK.out _ _ (unhide SC20) (fun hHeld => ?_)
        clear hK K
        try simp only [Act.put, List.setIfInBounds_toArray, List.set_cons_zero, List.set_cons_succ]
        refine wpAnyH_ready (rs := [11, 16]) (by kernel_rfl) (by simp) ?_
        refine (AllReadyH.cons (o := { dst := some 26, op := Op.call { callee := Callee.value (Operand.func 8), args := #[Operand.tmp 25], argTypes := #[9] }, type := 32, pos := "more.go:75", after := #[{ on := 10, ground := Ground.data }, { on := 10, ground := Ground.chain }], guard := none }) rfl (fun K hK => ?_) (AllReadyH.cons (o := { dst := some 6, op := Op.alloc 30, type := 0, pos := "more.go:75", after := #[], guard := none }) rfl (fun K hK => ?_) AllReadyH.nil))
        · go_simp
          go_at_call 8
          with_reducible refine (unhide HPR _ (unhide KC20)).mono ?_
          rintro e w24 ⟨A2, c2, A3, c3, A4, c4, rfl, hmh, hk⟩
          have MH24 := hide hmh
          have MB24 := hide ((unhide KC20).size)
          clear hmh
          have KC24 := hide ((unhide KC20).trans hk)
          have SC24 := hide ((Below.cell (p := ⟨w.heap.size, 1, none⟩) hk (unhide LC20)).trans (unhide SC20))
          have LC24 := hide (Nat.lt_of_lt_of_le (unhide LC20) hk.size)
          clear hk
          go_wp2_with fail
          refine hK.out _ _ (unhide SC24) (fun hHeld => ?_)
          clear hK K
          try simp only [Act.put, List.setIfInBounds_toArray, List.set_cons_zero, List.set_cons_succ]
          refine wpAnyH_take (i := 12) (oi := { dst := some 14, op := Op.move (Operand.tmp 26), type := 32, pos := "more.go:75", after := #[{ on := 11, ground := Ground.data }], guard := none }) (v := ?_) rfl (by kernel_rfl) (by kernel_rfl) (by kernel_rfl) (fun _ _ _ h => h) (Or.inl ⟨by rfl, ?_⟩) (by assumption) ?_
          rotate_left
          · intro w hSw
            go_simp
            try with_reducible rfl
          try simp only [Act.put, List.setIfInBounds_toArray, List.set_cons_zero, List.set_cons_succ]
          refine wpAnyH_take (i := 13) (oi := { dst := some 27, op := Op.extract (Operand.tmp 14) 0, type := 30, pos := "more.go:75", after := #[{ on := 12, ground := Ground.data }], guard := none }) (v := ?_) rfl (by kernel_rfl) (by kernel_rfl) (by kernel_rfl) (fun _ _ _ h => h) (Or.inl ⟨by rfl, ?_⟩) (by assumption) ?_
          rotate_left
          · intro w hSw
            go_simp
            try with_reducible rfl
          try simp only [Act.put, List.setIfInBounds_toArray, List.set_cons_zero, List.set_cons_succ]
          refine wpAnyH_take (i := 14) (oi := { dst := some 28, op := Op.extract (Operand.tmp 14) 1, type := 3, pos := "more.go:75", after := #[{ on := 12, ground := Ground.data }, { on := 17, ground := Ground.gcOnly Departure.lateStores }], guard := none }) (v := ?_) rfl (by kernel_rfl) (by kernel_rfl) (by kernel_rfl) (fun _ _ _ h => h) (Or.inl ⟨by rfl, ?_⟩) (by assumption) ?_
          rotate_left
          · intro w hSw
            go_simp
            try with_reducible rfl
          try simp only [Act.put, List.setIfInBounds_toArray, List.set_cons_zero, List.set_cons_succ]
          refine wpAnyH_take (i := 15) (oi := { dst := some 29, op := Op.extract (Operand.tmp 14) 2, type := 31, pos := "more.go:75", after := #[{ on := 12, ground := Ground.data }, { on := 18, ground := Ground.gcOnly Departure.lateStores }], guard := none }) (v := ?_) rfl (by kernel_rfl) (by kernel_rfl) (by kernel_rfl) (fun _ _ _ h => h) (Or.inl ⟨by rfl, ?_⟩) (by assumption) ?_
          rotate_left
          · intro w hSw
            go_simp
            try with_reducible rfl
          try simp only [Act.put, List.setIfInBounds_toArray, List.set_cons_zero, List.set_cons_succ]
          refine wpAnyH_ready (rs := [16]) (by kernel_rfl) (by simp) ?_
          refine (AllReadyH.cons (o := { dst := some 6, op := Op.alloc 30, type := 0, pos := "more.go:75", after := #[], guard := none }) rfl (fun K hK => ?_) AllReadyH.nil)
          go_simp
          refine hK.out _ _ ?_ (fun hHeld => ?_)
          · exact (World.cell?_alloc_lt _ _ _ (unhide LC24)).trans (unhide SC24)
          have KA25 := hide ((unhide KC24).alloc (.cells #[.string ⟨#[]⟩, .int .i64 0, .slice none 0 0, .slice none 0 0, .slice none 0 0] 30))
          have BA25 := hide (show Blk (w24.alloc (.cells #[.string ⟨#[]⟩, .int .i64 0, .slice none 0 0, .slice none 0 0, .slice none 0 0] 30)) w24.heap.size 30 #[.string ⟨#[]⟩, .int .i64 0, .slice none 0 0, .slice none 0 0, .slice none 0 0] from Blk.new w24 30 #[.string ⟨#[]⟩, .int .i64 0, .slice none 0 0, .slice none 0 0, .slice none 0 0])
          have VA25 := hide (show w.heap.size ≤ w24.heap.size from (unhide KC24).size)
          have SL := hide (unhide LC24)
          have SA25 := hide ((World.cell?_alloc_lt w24 (.cells #[.string ⟨#[]⟩, .int .i64 0, .slice none 0 0, .slice none 0 0, .slice none 0 0] 30) ⟨w.heap.size, 1, none⟩ (unhide LC24)).trans (unhide SC24))
          have LA25 := hide (Nat.lt_of_lt_of_le (unhide LC24) ((Keeps.refl w24).alloc (.cells #[.string ⟨#[]⟩, .int .i64 0, .slice none 0 0, .slice none 0 0, .slice none 0 0] 30)).size)
          clear hK K
          try simp only [Act.put, List.setIfInBounds_toArray, List.set_cons_zero, List.set_cons_succ]
          have MM26 := hide ((unhide MH24).keeps ((Keeps.refl w24).alloc (.cells #[.string ⟨#[]⟩, .int .i64 0, .slice none 0 0, .slice none 0 0, .slice none 0 0] 30)))
          obtain ⟨hbc, hbf, -⟩ := (unhide BA25).facts
          refine wpAnyH_ready (rs := [17]) (by kernel_rfl) (by simp) ?_
          refine AllReadyH.cons (o := { dst := none, op := Op.store 30 (Operand.tmp 6) (Operand.tmp 27), type := 0, pos := "more.go:75", after := #[{ on := 16, ground := Ground.data }, { on := 13, ground := Ground.data }, { on := 11, ground := Ground.chain }, { on := 0, ground := Ground.phase }, { on := 1, ground := Ground.phase }, { on := 2, ground := Ground.phase }, { on := 3, ground := Ground.phase }, { on := 4, ground := Ground.phase }, { on := 5, ground := Ground.phase }, { on := 6, ground := Ground.phase }, { on := 7, ground := Ground.phase }, { on := 8, ground := Ground.phase }, { on := 9, ground := Ground.phase }, { on := 10, ground := Ground.phase }, { on := 11, ground := Ground.phase }, { on := 12, ground := Ground.phase }, { on := 13, ground := Ground.phase }, { on := 14, ground := Ground.textOnly Departure.lateStores }, { on := 15, ground := Ground.textOnly Departure.lateStores }, { on := 16, ground := Ground.phase }], guard := none }) rfl (fun K hK => ?_) AllReadyH.nil
          go_simp
          refine hK.out _ _ ?_ (fun hHeld => ?_)
          · exact (World.cell?_alloc_lt _ _ _ (unhide LC24)).trans (unhide SC24)
          clear hK K hbc hbf
          try simp only [Act.put, List.setIfInBounds_toArray, List.set_cons_zero, List.set_cons_succ]
          refine wpAnyH_take (i := 18) (oi := { dst := some 7, op := Op.assign (Operand.tmp 28), type := 3, pos := "more.go:75", after := #[{ on := 14, ground := Ground.data }, { on := 17, ground := Ground.chain }, { on := 0, ground := Ground.phase }, { on := 1, ground := Ground.phase }, { on := 2, ground := Ground.phase }, { on := 3, ground := Ground.phase }, { on := 4, ground := Ground.phase }, { on := 5, ground := Ground.phase }, { on := 6, ground := Ground.phase }, { on := 7, ground := Ground.phase }, { on := 8, ground := Ground.phase }, { on := 9, ground := Ground.phase }, { on := 10, ground := Ground.phase }, { on := 11, ground := Ground.phase }, { on := 12, ground := Ground.phase }, { on := 13, ground := Ground.phase }, { on := 14, ground := Ground.phase }, { on := 15, ground := Ground.textOnly Departure.lateStores }, { on := 16, ground := Ground.phase }, { on := 17, ground := Ground.phase }], guard := none }) (v := ?_) rfl (by kernel_rfl) (by kernel_rfl) (by kernel_rfl) (fun _ _ _ h => h) (Or.inl ⟨by rfl, ?_⟩) (by assumption) ?_
          rotate_left
          · intro w hSw
            go_simp
            try with_reducible rfl
          try simp only [Act.put, List.setIfInBounds_toArray, List.set_cons_zero, List.set_cons_succ]
          refine wpAnyH_take (i := 19) (oi := { dst := some 8, op := Op.assign (Operand.tmp 29), type := 31, pos := "more.go:75", after := #[{ on := 15, ground := Ground.data }, { on := 18, ground := Ground.chain }, { on := 0, ground := Ground.phase }, { on := 1, ground := Ground.phase }, { on := 2, ground := Ground.phase }, { on := 3, ground := Ground.phase }, { on := 4, ground := Ground.phase }, { on := 5, ground := Ground.phase }, { on := 6, ground := Ground.phase }, { on := 7, ground := Ground.phase }, { on := 8, ground := Ground.phase }, { on := 9, ground := Ground.phase }, { on := 10, ground := Ground.phase }, { on := 11, ground := Ground.phase }, { on := 12, ground := Ground.phase }, { on := 13, ground := Ground.phase }, { on := 14, ground := Ground.phase }, { on := 15, ground := Ground.phase }, { on := 16, ground := Ground.phase }, { on := 17, ground := Ground.phase }, { on := 18, ground := Ground.phase }], guard := none }) (v := ?_) rfl (by kernel_rfl) (by kernel_rfl) (by kernel_rfl) (fun _ _ _ h => h) (Or.inl ⟨by rfl, ?_⟩) (by assumption) ?_
          rotate_left
          · intro w hSw
            go_simp
            try with_reducible rfl
          try simp only [Act.put, List.setIfInBounds_toArray, List.set_cons_zero, List.set_cons_succ]
          refine wpAnyH_done (by kernel_rfl) ?_ _
          have HF := hide (ModIn.fresh (unhide KC24) (unhide MH24) (unhide MB24))
          generalize (w24.alloc (.cells #[.string md.name, .int .i64 md.tagging, .slice A2 md.names.length c2, .slice A3 md.types.length c3, .slice A4 md.nodes.length c4] 30)) = w9 at HF ⊢
          generalize w24.heap.size = g9 at HF ⊢
          exact HC w9 g9 A2 c2 A3 c3 A4 c4 (unhide HF)
        · go_simp
          refine hK.out _ _ ?_ (fun hHeld => ?_)
          · exact (World.cell?_alloc_lt _ _ _ (unhide LC20)).trans (unhide SC20)
          have KA23 := hide ((unhide KC20).alloc (.cells #[.string ⟨#[]⟩, .int .i64 0, .slice none 0 0, .slice none 0 0, .slice none 0 0] 30))
          have BA23 := hide (show Blk (w20.alloc (.cells #[.string ⟨#[]⟩, .int .i64 0, .slice none 0 0, .slice none 0 0, .slice none 0 0] 30)) w20.heap.size 30 #[.string ⟨#[]⟩, .int .i64 0, .slice none 0 0, .slice none 0 0, .slice none 0 0] from Blk.new w20 30 #[.string ⟨#[]⟩, .int .i64 0, .slice none 0 0, .slice none 0 0, .slice none 0 0])
          have VA23 := hide (show w.heap.size ≤ w20.heap.size from (unhide KC20).size)
          have SL := hide (unhide LC20)
          have SA23 := hide ((World.cell?_alloc_lt w20 (.cells #[.string ⟨#[]⟩, .int .i64 0, .slice none 0 0, .slice none 0 0, .slice none 0 0] 30) ⟨w.heap.size, 1, none⟩ (unhide LC20)).trans (unhide SC20))
          have LA23 := hide (Nat.lt_of_lt_of_le (unhide LC20) ((Keeps.refl w20).alloc (.cells #[.string ⟨#[]⟩, .int .i64 0, .slice none 0 0, .slice none 0 0, .slice none 0 0] 30)).size)
          clear hK K
          try simp only [Act.put, List.setIfInBounds_toArray, List.set_cons_zero, List.set_cons_succ]
          refine wpAnyH_ready (rs := [11]) (by kernel_rfl) (by simp) ?_
          refine (AllReadyH.cons (o := { dst := some 26, op := Op.call { callee := Callee.value (Operand.func 8), args := #[Operand.tmp 25], argTypes := #[9] }, type := 32, pos := "more.go:75", after := #[{ on := 10, ground := Ground.data }, { on := 10, ground := Ground.chain }], guard := none }) rfl (fun K hK => ?_) AllReadyH.nil)
          go_simp
          go_at_call 8
          with_reducible refine (unhide HPR _ (unhide KA23)).mono ?_
          rintro e w28 ⟨A2, c2, A3, c3, A4, c4, rfl, hmh, hk⟩
          have MH28 := hide hmh
          have MB28 := hide ((unhide KA23).size)
          clear hmh
          have KC28 := hide ((unhide KA23).trans hk)
          have SC28 := hide ((Below.cell (p := ⟨w.heap.size, 1, none⟩) hk (unhide LA23)).trans (unhide SA23))
          have LC28 := hide (Nat.lt_of_lt_of_le (unhide LA23) hk.size)
          have BC28 := hide ((unhide BA23).keeps hk)
          clear hk
          go_wp2_with fail
          refine hK.out _ _ (unhide SC28) (fun hHeld => ?_)
          clear hK K
          try simp only [Act.put, List.setIfInBounds_toArray, List.set_cons_zero, List.set_cons_succ]
          refine wpAnyH_take (i := 12) (oi := { dst := some 14, op := Op.move (Operand.tmp 26), type := 32, pos := "more.go:75", after := #[{ on := 11, ground := Ground.data }], guard := none }) (v := ?_) rfl (by kernel_rfl) (by kernel_rfl) (by kernel_rfl) (fun _ _ _ h => h) (Or.inl ⟨by rfl, ?_⟩) (by assumption) ?_
          rotate_left
          · intro w hSw
            go_simp
            try with_reducible rfl
          try simp only [Act.put, List.setIfInBounds_toArray, List.set_cons_zero, List.set_cons_succ]
          refine wpAnyH_take (i := 13) (oi := { dst := some 27, op := Op.extract (Operand.tmp 14) 0, type := 30, pos := "more.go:75", after := #[{ on := 12, ground := Ground.data }], guard := none }) (v := ?_) rfl (by kernel_rfl) (by kernel_rfl) (by kernel_rfl) (fun _ _ _ h => h) (Or.inl ⟨by rfl, ?_⟩) (by assumption) ?_
          rotate_left
          · intro w hSw
            go_simp
            try with_reducible rfl
          try simp only [Act.put, List.setIfInBounds_toArray, List.set_cons_zero, List.set_cons_succ]
          refine wpAnyH_take (i := 14) (oi := { dst := some 28, op := Op.extract (Operand.tmp 14) 1, type := 3, pos := "more.go:75", after := #[{ on := 12, ground := Ground.data }, { on := 17, ground := Ground.gcOnly Departure.lateStores }], guard := none }) (v := ?_) rfl (by kernel_rfl) (by kernel_rfl) (by kernel_rfl) (fun _ _ _ h => h) (Or.inl ⟨by rfl, ?_⟩) (by assumption) ?_
          rotate_left
          · intro w hSw
            go_simp
            try with_reducible rfl
          try simp only [Act.put, List.setIfInBounds_toArray, List.set_cons_zero, List.set_cons_succ]
          refine wpAnyH_take (i := 15) (oi := { dst := some 29, op := Op.extract (Operand.tmp 14) 2, type := 31, pos := "more.go:75", after := #[{ on := 12, ground := Ground.data }, { on := 18, ground := Ground.gcOnly Departure.lateStores }], guard := none }) (v := ?_) rfl (by kernel_rfl) (by kernel_rfl) (by kernel_rfl) (fun _ _ _ h => h) (Or.inl ⟨by rfl, ?_⟩) (by assumption) ?_
          rotate_left
          · intro w hSw
            go_simp
            try with_reducible rfl
          try simp only [Act.put, List.setIfInBounds_toArray, List.set_cons_zero, List.set_cons_succ]
          obtain ⟨hbc, hbf, -⟩ := (unhide BC28).facts
          refine wpAnyH_ready (rs := [17]) (by kernel_rfl) (by simp) ?_
          refine AllReadyH.cons (o := { dst := none, op := Op.store 30 (Operand.tmp 6) (Operand.tmp 27), type := 0, pos := "more.go:75", after := #[{ on := 16, ground := Ground.data }, { on := 13, ground := Ground.data }, { on := 11, ground := Ground.chain }, { on := 0, ground := Ground.phase }, { on := 1, ground := Ground.phase }, { on := 2, ground := Ground.phase }, { on := 3, ground := Ground.phase }, { on := 4, ground := Ground.phase }, { on := 5, ground := Ground.phase }, { on := 6, ground := Ground.phase }, { on := 7, ground := Ground.phase }, { on := 8, ground := Ground.phase }, { on := 9, ground := Ground.phase }, { on := 10, ground := Ground.phase }, { on := 11, ground := Ground.phase }, { on := 12, ground := Ground.phase }, { on := 13, ground := Ground.phase }, { on := 14, ground := Ground.textOnly Departure.lateStores }, { on := 15, ground := Ground.textOnly Departure.lateStores }, { on := 16, ground := Ground.phase }], guard := none }) rfl (fun K hK => ?_) AllReadyH.nil
          go_simp
          refine hK.out _ _ ?_ (fun hHeld => ?_)
          · exact (set5_cell (Nat.ne_of_lt (unhide SL)) _ _ _ _ _ _).trans (unhide SC28)
          clear hK K hbc hbf
          try simp only [Act.put, List.setIfInBounds_toArray, List.set_cons_zero, List.set_cons_succ]
          refine wpAnyH_take (i := 18) (oi := { dst := some 7, op := Op.assign (Operand.tmp 28), type := 3, pos := "more.go:75", after := #[{ on := 14, ground := Ground.data }, { on := 17, ground := Ground.chain }, { on := 0, ground := Ground.phase }, { on := 1, ground := Ground.phase }, { on := 2, ground := Ground.phase }, { on := 3, ground := Ground.phase }, { on := 4, ground := Ground.phase }, { on := 5, ground := Ground.phase }, { on := 6, ground := Ground.phase }, { on := 7, ground := Ground.phase }, { on := 8, ground := Ground.phase }, { on := 9, ground := Ground.phase }, { on := 10, ground := Ground.phase }, { on := 11, ground := Ground.phase }, { on := 12, ground := Ground.phase }, { on := 13, ground := Ground.phase }, { on := 14, ground := Ground.phase }, { on := 15, ground := Ground.textOnly Departure.lateStores }, { on := 16, ground := Ground.phase }, { on := 17, ground := Ground.phase }], guard := none }) (v := ?_) rfl (by kernel_rfl) (by kernel_rfl) (by kernel_rfl) (fun _ _ _ h => h) (Or.inl ⟨by rfl, ?_⟩) (by assumption) ?_
          rotate_left
          · intro w hSw
            go_simp
            try with_reducible rfl
          try simp only [Act.put, List.setIfInBounds_toArray, List.set_cons_zero, List.set_cons_succ]
          refine wpAnyH_take (i := 19) (oi := { dst := some 8, op := Op.assign (Operand.tmp 29), type := 31, pos := "more.go:75", after := #[{ on := 15, ground := Ground.data }, { on := 18, ground := Ground.chain }, { on := 0, ground := Ground.phase }, { on := 1, ground := Ground.phase }, { on := 2, ground := Ground.phase }, { on := 3, ground := Ground.phase }, { on := 4, ground := Ground.phase }, { on := 5, ground := Ground.phase }, { on := 6, ground := Ground.phase }, { on := 7, ground := Ground.phase }, { on := 8, ground := Ground.phase }, { on := 9, ground := Ground.phase }, { on := 10, ground := Ground.phase }, { on := 11, ground := Ground.phase }, { on := 12, ground := Ground.phase }, { on := 13, ground := Ground.phase }, { on := 14, ground := Ground.phase }, { on := 15, ground := Ground.phase }, { on := 16, ground := Ground.phase }, { on := 17, ground := Ground.phase }, { on := 18, ground := Ground.phase }], guard := none }) (v := ?_) rfl (by kernel_rfl) (by kernel_rfl) (by kernel_rfl) (fun _ _ _ h => h) (Or.inl ⟨by rfl, ?_⟩) (by assumption) ?_
          rotate_left
          · intro w hSw
            go_simp
            try with_reducible rfl
          try simp only [Act.put, List.setIfInBounds_toArray, List.set_cons_zero, List.set_cons_succ]
          refine wpAnyH_done (by kernel_rfl) ?_ _
          have HF := hide (ModIn.stored (unhide KC28) (unhide VA23) (unhide BC28) (unhide MH28) (unhide MB28))
          exact HC _ _ _ _ _ _ _ _ (unhide HF)
      · go_simp
        refine hK.out _ _ ?_ (fun hHeld => ?_)
        · exact (World.cell?_alloc_lt _ _ _ (unhide LC20)).trans (unhide SC20)
        have KA21 := hide ((unhide KC20).alloc (.cells #[.string ⟨#[]⟩, .int .i64 0, .slice none 0 0, .slice none 0 0, .slice none 0 0] 30))
        have BA21 := hide (show Blk (w20.alloc (.cells #[.string ⟨#[]⟩, .int .i64 0, .slice none 0 0, .slice none 0 0, .slice none 0 0] 30)) w20.heap.size 30 #[.string ⟨#[]⟩, .int .i64 0, .slice none 0 0, .slice none 0 0, .slice none 0 0] from Blk.new w20 30 #[.string ⟨#[]⟩, .int .i64 0, .slice none 0 0, .slice none 0 0, .slice none 0 0])
        have VA21 := hide (show w.heap.size ≤ w20.heap.size from (unhide KC20).size)
        have SL := hide (unhide LC20)
        have SA21 := hide ((World.cell?_alloc_lt w20 (.cells #[.string ⟨#[]⟩, .int .i64 0, .slice none 0 0, .slice none 0 0, .slice none 0 0] 30) ⟨w.heap.size, 1, none⟩ (unhide LC20)).trans (unhide SC20))
        have LA21 := hide (Nat.lt_of_lt_of_le (unhide LC20) ((Keeps.refl w20).alloc (.cells #[.string ⟨#[]⟩, .int .i64 0, .slice none 0 0, .slice none 0 0, .slice none 0 0] 30)).size)
        clear hK K
        try simp only [Act.put, List.setIfInBounds_toArray, List.set_cons_zero, List.set_cons_succ]
        refine wpAnyH_ready (rs := [10]) (by kernel_rfl) (by simp) ?_
        refine (AllReadyH.cons (o := { dst := some 25, op := Op.call { callee := Callee.value (Operand.func 9), args := #[Operand.tmp 24], argTypes := #[9] }, type := 9, pos := "more.go:75", after := #[{ on := 9, ground := Ground.data }, { on := 1, ground := Ground.chain }], guard := none }) rfl (fun K hK => ?_) AllReadyH.nil)
        go_simp
        go_at_call 9
        with_reducible refine (unhide HMO _).mono ?_
        rintro e w'30 ⟨rfl, hw30⟩
        subst w'30
        go_wp2_with fail
        refine hK.out _ _ (unhide SA21) (fun hHeld => ?_)
        clear hK K
        try simp only [Act.put, List.setIfInBounds_toArray, List.set_cons_zero, List.set_cons_succ]
        refine wpAnyH_ready (rs := [11]) (by kernel_rfl) (by simp) ?_
        refine (AllReadyH.cons (o := { dst := some 26, op := Op.call { callee := Callee.value (Operand.func 8), args := #[Operand.tmp 25], argTypes := #[9] }, type := 32, pos := "more.go:75", after := #[{ on := 10, ground := Ground.data }, { on := 10, ground := Ground.chain }], guard := none }) rfl (fun K hK => ?_) AllReadyH.nil)
        go_simp
        go_at_call 8
        with_reducible refine (unhide HPR _ (unhide KA21)).mono ?_
        rintro e w31 ⟨A2, c2, A3, c3, A4, c4, rfl, hmh, hk⟩
        have MH31 := hide hmh
        have MB31 := hide ((unhide KA21).size)
        clear hmh
        have KC31 := hide ((unhide KA21).trans hk)
        have SC31 := hide ((Below.cell (p := ⟨w.heap.size, 1, none⟩) hk (unhide LA21)).trans (unhide SA21))
        have LC31 := hide (Nat.lt_of_lt_of_le (unhide LA21) hk.size)
        have BC31 := hide ((unhide BA21).keeps hk)
        clear hk
        go_wp2_with fail
        refine hK.out _ _ (unhide SC31) (fun hHeld => ?_)
        clear hK K
        try simp only [Act.put, List.setIfInBounds_toArray, List.set_cons_zero, List.set_cons_succ]
        refine wpAnyH_take (i := 12) (oi := { dst := some 14, op := Op.move (Operand.tmp 26), type := 32, pos := "more.go:75", after := #[{ on := 11, ground := Ground.data }], guard := none }) (v := ?_) rfl (by kernel_rfl) (by kernel_rfl) (by kernel_rfl) (fun _ _ _ h => h) (Or.inl ⟨by rfl, ?_⟩) (by assumption) ?_
        rotate_left
        · intro w hSw
          go_simp
          try with_reducible rfl
        try simp only [Act.put, List.setIfInBounds_toArray, List.set_cons_zero, List.set_cons_succ]
        refine wpAnyH_take (i := 13) (oi := { dst := some 27, op := Op.extract (Operand.tmp 14) 0, type := 30, pos := "more.go:75", after := #[{ on := 12, ground := Ground.data }], guard := none }) (v := ?_) rfl (by kernel_rfl) (by kernel_rfl) (by kernel_rfl) (fun _ _ _ h => h) (Or.inl ⟨by rfl, ?_⟩) (by assumption) ?_
        rotate_left
        · intro w hSw
          go_simp
          try with_reducible rfl
        try simp only [Act.put, List.setIfInBounds_toArray, List.set_cons_zero, List.set_cons_succ]
        refine wpAnyH_take (i := 14) (oi := { dst := some 28, op := Op.extract (Operand.tmp 14) 1, type := 3, pos := "more.go:75", after := #[{ on := 12, ground := Ground.data }, { on := 17, ground := Ground.gcOnly Departure.lateStores }], guard := none }) (v := ?_) rfl (by kernel_rfl) (by kernel_rfl) (by kernel_rfl) (fun _ _ _ h => h) (Or.inl ⟨by rfl, ?_⟩) (by assumption) ?_
        rotate_left
        · intro w hSw
          go_simp
          try with_reducible rfl
        try simp only [Act.put, List.setIfInBounds_toArray, List.set_cons_zero, List.set_cons_succ]
        refine wpAnyH_take (i := 15) (oi := { dst := some 29, op := Op.extract (Operand.tmp 14) 2, type := 31, pos := "more.go:75", after := #[{ on := 12, ground := Ground.data }, { on := 18, ground := Ground.gcOnly Departure.lateStores }], guard := none }) (v := ?_) rfl (by kernel_rfl) (by kernel_rfl) (by kernel_rfl) (fun _ _ _ h => h) (Or.inl ⟨by rfl, ?_⟩) (by assumption) ?_
        rotate_left
        · intro w hSw
          go_simp
          try with_reducible rfl
        try simp only [Act.put, List.setIfInBounds_toArray, List.set_cons_zero, List.set_cons_succ]
        obtain ⟨hbc, hbf, -⟩ := (unhide BC31).facts
        refine wpAnyH_ready (rs := [17]) (by kernel_rfl) (by simp) ?_
        refine AllReadyH.cons (o := { dst := none, op := Op.store 30 (Operand.tmp 6) (Operand.tmp 27), type := 0, pos := "more.go:75", after := #[{ on := 16, ground := Ground.data }, { on := 13, ground := Ground.data }, { on := 11, ground := Ground.chain }, { on := 0, ground := Ground.phase }, { on := 1, ground := Ground.phase }, { on := 2, ground := Ground.phase }, { on := 3, ground := Ground.phase }, { on := 4, ground := Ground.phase }, { on := 5, ground := Ground.phase }, { on := 6, ground := Ground.phase }, { on := 7, ground := Ground.phase }, { on := 8, ground := Ground.phase }, { on := 9, ground := Ground.phase }, { on := 10, ground := Ground.phase }, { on := 11, ground := Ground.phase }, { on := 12, ground := Ground.phase }, { on := 13, ground := Ground.phase }, { on := 14, ground := Ground.textOnly Departure.lateStores }, { on := 15, ground := Ground.textOnly Departure.lateStores }, { on := 16, ground := Ground.phase }], guard := none }) rfl (fun K hK => ?_) AllReadyH.nil
        go_simp
        refine hK.out _ _ ?_ (fun hHeld => ?_)
        · exact (set5_cell (Nat.ne_of_lt (unhide SL)) _ _ _ _ _ _).trans (unhide SC31)
        clear hK K hbc hbf
        try simp only [Act.put, List.setIfInBounds_toArray, List.set_cons_zero, List.set_cons_succ]
        refine wpAnyH_take (i := 18) (oi := { dst := some 7, op := Op.assign (Operand.tmp 28), type := 3, pos := "more.go:75", after := #[{ on := 14, ground := Ground.data }, { on := 17, ground := Ground.chain }, { on := 0, ground := Ground.phase }, { on := 1, ground := Ground.phase }, { on := 2, ground := Ground.phase }, { on := 3, ground := Ground.phase }, { on := 4, ground := Ground.phase }, { on := 5, ground := Ground.phase }, { on := 6, ground := Ground.phase }, { on := 7, ground := Ground.phase }, { on := 8, ground := Ground.phase }, { on := 9, ground := Ground.phase }, { on := 10, ground := Ground.phase }, { on := 11, ground := Ground.phase }, { on := 12, ground := Ground.phase }, { on := 13, ground := Ground.phase }, { on := 14, ground := Ground.phase }, { on := 15, ground := Ground.textOnly Departure.lateStores }, { on := 16, ground := Ground.phase }, { on := 17, ground := Ground.phase }], guard := none }) (v := ?_) rfl (by kernel_rfl) (by kernel_rfl) (by kernel_rfl) (fun _ _ _ h => h) (Or.inl ⟨by rfl, ?_⟩) (by assumption) ?_
        rotate_left
        · intro w hSw
          go_simp
          try with_reducible rfl
        try simp only [Act.put, List.setIfInBounds_toArray, List.set_cons_zero, List.set_cons_succ]
        refine wpAnyH_take (i := 19) (oi := { dst := some 8, op := Op.assign (Operand.tmp 29), type := 31, pos := "more.go:75", after := #[{ on := 15, ground := Ground.data }, { on := 18, ground := Ground.chain }, { on := 0, ground := Ground.phase }, { on := 1, ground := Ground.phase }, { on := 2, ground := Ground.phase }, { on := 3, ground := Ground.phase }, { on := 4, ground := Ground.phase }, { on := 5, ground := Ground.phase }, { on := 6, ground := Ground.phase }, { on := 7, ground := Ground.phase }, { on := 8, ground := Ground.phase }, { on := 9, ground := Ground.phase }, { on := 10, ground := Ground.phase }, { on := 11, ground := Ground.phase }, { on := 12, ground := Ground.phase }, { on := 13, ground := Ground.phase }, { on := 14, ground := Ground.phase }, { on := 15, ground := Ground.phase }, { on := 16, ground := Ground.phase }, { on := 17, ground := Ground.phase }, { on := 18, ground := Ground.phase }], guard := none }) (v := ?_) rfl (by kernel_rfl) (by kernel_rfl) (by kernel_rfl) (fun _ _ _ h => h) (Or.inl ⟨by rfl, ?_⟩) (by assumption) ?_
        rotate_left
        · intro w hSw
          go_simp
          try with_reducible rfl
        try simp only [Act.put, List.setIfInBounds_toArray, List.set_cons_zero, List.set_cons_succ]
        refine wpAnyH_done (by kernel_rfl) ?_ _
        have HF := hide (ModIn.stored (unhide KC31) (unhide VA21) (unhide BC31) (unhide MH31) (unhide MB31))
        exact HC _ _ _ _ _ _ _ _ (unhide HF)
    · go_simp
      refine hK.out _ _ ?_ (fun hHeld => ?_)
      · exact (World.cell?_alloc_lt _ _ _ (unhide HLd)).trans (unhide HSd)
      have KA19 := hide ((unhide HKd).alloc (.cells #[.string ⟨#[]⟩, .int .i64 0, .slice none 0 0, .slice none 0 0, .slice none 0 0] 30))
      have BA19 := hide (show Blk (v0.drew.alloc (.cells #[.string ⟨#[]⟩, .int .i64 0, .slice none 0 0, .slice none 0 0, .slice none 0 0] 30)) v0.heap.size 30 #[.string ⟨#[]⟩, .int .i64 0, .slice none 0 0, .slice none 0 0, .slice none 0 0] from Blk.new v0.drew 30 #[.string ⟨#[]⟩, .int .i64 0, .slice none 0 0, .slice none 0 0, .slice none 0 0])
      have VA19 := hide (show w.heap.size ≤ v0.heap.size from (unhide HKd).size)
      have SL := hide (unhide HLd)
      have SA19 := hide ((World.cell?_alloc_lt v0.drew (.cells #[.string ⟨#[]⟩, .int .i64 0, .slice none 0 0, .slice none 0 0, .slice none 0 0] 30) ⟨w.heap.size, 1, none⟩ (unhide HLd)).trans (unhide HSd))
      have LA19 := hide (Nat.lt_of_lt_of_le (unhide HLd) ((Keeps.refl v0.drew).alloc (.cells #[.string ⟨#[]⟩, .int .i64 0, .slice none 0 0, .slice none 0 0, .slice none 0 0] 30)).size)
      clear hK K
      try simp only [Act.put, List.setIfInBounds_toArray, List.set_cons_zero, List.set_cons_succ]
      refine wpAnyH_ready (rs := [1]) (by kernel_rfl) (by simp) ?_
      refine (AllReadyH.cons (o := { dst := some 16, op := Op.call { callee := Callee.value (Operand.func 7), args := #[Operand.tmp 15], argTypes := #[2] }, type := 9, pos := "more.go:75", after := #[{ on := 0, ground := Ground.data }], guard := none }) rfl (fun K hK => ?_) AllReadyH.nil)
      go_simp
      go_at_call 7
      with_reducible refine (unhide HN _).mono ?_
      rintro e w33 ⟨rfl, hk⟩
      have KC33 := hide ((unhide KA19).trans hk)
      have SC33 := hide ((Below.cell (p := ⟨w.heap.size, 1, none⟩) hk (unhide LA19)).trans (unhide SA19))
      have LC33 := hide (Nat.lt_of_lt_of_le (unhide LA19) hk.size)
      have BC33 := hide ((unhide BA19).keeps hk)
      clear hk
      go_wp2_with fail
      refine hK.out _ _ (unhide SC33) (fun hHeld => ?_)
      clear hK K
      try simp only [Act.put, List.setIfInBounds_toArray, List.set_cons_zero, List.set_cons_succ]
      refine wpAnyH_take (i := 2) (oi := { dst := some 17, op := Op.binOp BinOp.add 9 (Operand.const (Value.string { data := #[91] })) (Operand.tmp 16) 9, type := 9, pos := "more.go:75", after := #[{ on := 1, ground := Ground.data }], guard := none }) (v := ?_) rfl (by kernel_rfl) (by kernel_rfl) (by kernel_rfl) (fun _ _ _ h => h) (Or.inl ⟨by rfl, ?_⟩) (by assumption) ?_
      rotate_left
      · intro w hSw
        go_simp
        try with_reducible rfl
      try simp only [Act.put, List.setIfInBounds_toArray, List.set_cons_zero, List.set_cons_succ]
      refine wpAnyH_take (i := 3) (oi := { dst := some 18, op := Op.binOp BinOp.add 9 (Operand.tmp 17) (Operand.const (Value.string { data := #[93, 32] })) 9, type := 9, pos := "more.go:75", after := #[{ on := 2, ground := Ground.data }], guard := none }) (v := ?_) rfl (by kernel_rfl) (by kernel_rfl) (by kernel_rfl) (fun _ _ _ h => h) (Or.inl ⟨by rfl, ?_⟩) (by assumption) ?_
      rotate_left
      · intro w hSw
        go_simp
        try with_reducible rfl
      try simp only [Act.put, List.setIfInBounds_toArray, List.set_cons_zero, List.set_cons_succ]
      refine wpAnyH_take (i := 8) (oi := { dst := some 23, op := Op.binOp BinOp.add 9 (Operand.tmp 18) (Operand.tmp 22) 9, type := 9, pos := "more.go:75", after := #[{ on := 3, ground := Ground.data }, { on := 7, ground := Ground.data }], guard := none }) (v := ?_) rfl (by kernel_rfl) (by kernel_rfl) (by kernel_rfl) (fun _ _ _ h => h) (Or.inl ⟨by rfl, ?_⟩) (by assumption) ?_
      rotate_left
      · intro w hSw
        go_simp
        try with_reducible rfl
      try simp only [Act.put, List.setIfInBounds_toArray, List.set_cons_zero, List.set_cons_succ]
      refine wpAnyH_take (i := 9) (oi := { dst := some 24, op := Op.binOp BinOp.add 9 (Operand.tmp 23) (Operand.const (Value.string { data := #[78, 85, 76, 76] })) 9, type := 9, pos := "more.go:75", after := #[{ on := 8, ground := Ground.data }], guard := none }) (v := ?_) rfl (by kernel_rfl) (by kernel_rfl) (by kernel_rfl) (fun _ _ _ h => h) (Or.inl ⟨by rfl, ?_⟩) (by assumption) ?_
      rotate_left
      · intro w hSw
        go_simp
        try with_reducible rfl
      try simp only [Act.put, List.setIfInBounds_toArray, List.set_cons_zero, List.set_cons_succ]
      refine wpAnyH_ready (rs := [10]) (by kernel_rfl) (by simp) ?_
      refine (AllReadyH.cons (o := { dst := some 25, op := Op.call { callee := Callee.value (Operand.func 9), args := #[Operand.tmp 24], argTypes := #[9] }, type := 9, pos := "more.go:75", after := #[{ on := 9, ground := Ground.data }, { on := 1, ground := Ground.chain }], guard := none }) rfl (fun K hK => ?_) AllReadyH.nil)
      go_simp
      go_at_call 9
      with_reducible refine (unhide HMO _).mono ?_
      rintro e w'34 ⟨rfl, hw34⟩
      subst w'34
      go_wp2_with fail
      refine hK.out _ _ (unhide SC33) (fun hHeld => ?_)
      clear hK K
      try simp only [Act.put, List.setIfInBounds_toArray, List.set_cons_zero, List.set_cons_succ]
      refine wpAnyH_ready (rs := [11]) (by kernel_rfl) (by simp) ?_
      refine (AllReadyH.cons (o := { dst := some 26, op := Op.call { callee := Callee.value (Operand.func 8), args := #[Operand.tmp 25], argTypes := #[9] }, type := 32, pos := "more.go:75", after := #[{ on := 10, ground := Ground.data }, { on := 10, ground := Ground.chain }], guard := none }) rfl (fun K hK => ?_) AllReadyH.nil)
      go_simp
      go_at_call 8
      with_reducible refine (unhide HPR _ (unhide KC33)).mono ?_
      rintro e w35 ⟨A2, c2, A3, c3, A4, c4, rfl, hmh, hk⟩
      have MH35 := hide hmh
      have MB35 := hide ((unhide KC33).size)
      clear hmh
      have KC35 := hide ((unhide KC33).trans hk)
      have SC35 := hide ((Below.cell (p := ⟨w.heap.size, 1, none⟩) hk (unhide LC33)).trans (unhide SC33))
      have LC35 := hide (Nat.lt_of_lt_of_le (unhide LC33) hk.size)
      have BC35 := hide ((unhide BC33).keeps hk)
      clear hk
      go_wp2_with fail
      refine hK.out _ _ (unhide SC35) (fun hHeld => ?_)
      clear hK K
      try simp only [Act.put, List.setIfInBounds_toArray, List.set_cons_zero, List.set_cons_succ]
      refine wpAnyH_take (i := 12) (oi := { dst := some 14, op := Op.move (Operand.tmp 26), type := 32, pos := "more.go:75", after := #[{ on := 11, ground := Ground.data }], guard := none }) (v := ?_) rfl (by kernel_rfl) (by kernel_rfl) (by kernel_rfl) (fun _ _ _ h => h) (Or.inl ⟨by rfl, ?_⟩) (by assumption) ?_
      rotate_left
      · intro w hSw
        go_simp
        try with_reducible rfl
      try simp only [Act.put, List.setIfInBounds_toArray, List.set_cons_zero, List.set_cons_succ]
      refine wpAnyH_take (i := 13) (oi := { dst := some 27, op := Op.extract (Operand.tmp 14) 0, type := 30, pos := "more.go:75", after := #[{ on := 12, ground := Ground.data }], guard := none }) (v := ?_) rfl (by kernel_rfl) (by kernel_rfl) (by kernel_rfl) (fun _ _ _ h => h) (Or.inl ⟨by rfl, ?_⟩) (by assumption) ?_
      rotate_left
      · intro w hSw
        go_simp
        try with_reducible rfl
      try simp only [Act.put, List.setIfInBounds_toArray, List.set_cons_zero, List.set_cons_succ]
      refine wpAnyH_take (i := 14) (oi := { dst := some 28, op := Op.extract (Operand.tmp 14) 1, type := 3, pos := "more.go:75", after := #[{ on := 12, ground := Ground.data }, { on := 17, ground := Ground.gcOnly Departure.lateStores }], guard := none }) (v := ?_) rfl (by kernel_rfl) (by kernel_rfl) (by kernel_rfl) (fun _ _ _ h => h) (Or.inl ⟨by rfl, ?_⟩) (by assumption) ?_
      rotate_left
      · intro w hSw
        go_simp
        try with_reducible rfl
      try simp only [Act.put, List.setIfInBounds_toArray, List.set_cons_zero, List.set_cons_succ]
      refine wpAnyH_take (i := 15) (oi := { dst := some 29, op := Op.extract (Operand.tmp 14) 2, type := 31, pos := "more.go:75", after := #[{ on := 12, ground := Ground.data }, { on := 18, ground := Ground.gcOnly Departure.lateStores }], guard := none }) (v := ?_) rfl (by kernel_rfl) (by kernel_rfl) (by kernel_rfl) (fun _ _ _ h => h) (Or.inl ⟨by rfl, ?_⟩) (by assumption) ?_
      rotate_left
      · intro w hSw
        go_simp
        try with_reducible rfl
      try simp only [Act.put, List.setIfInBounds_toArray, List.set_cons_zero, List.set_cons_succ]
      obtain ⟨hbc, hbf, -⟩ := (unhide BC35).facts
      refine wpAnyH_ready (rs := [17]) (by kernel_rfl) (by simp) ?_
      refine AllReadyH.cons (o := { dst := none, op := Op.store 30 (Operand.tmp 6) (Operand.tmp 27), type := 0, pos := "more.go:75", after := #[{ on := 16, ground := Ground.data }, { on := 13, ground := Ground.data }, { on := 11, ground := Ground.chain }, { on := 0, ground := Ground.phase }, { on := 1, ground := Ground.phase }, { on := 2, ground := Ground.phase }, { on := 3, ground := Ground.phase }, { on := 4, ground := Ground.phase }, { on := 5, ground := Ground.phase }, { on := 6, ground := Ground.phase }, { on := 7, ground := Ground.phase }, { on := 8, ground := Ground.phase }, { on := 9, ground := Ground.phase }, { on := 10, ground := Ground.phase }, { on := 11, ground := Ground.phase }, { on := 12, ground := Ground.phase }, { on := 13, ground := Ground.phase }, { on := 14, ground := Ground.textOnly Departure.lateStores }, { on := 15, ground := Ground.textOnly Departure.lateStores }, { on := 16, ground := Ground.phase }], guard := none }) rfl (fun K hK => ?_) AllReadyH.nil
      go_simp
      refine hK.out _ _ ?_ (fun hHeld => ?_)
      · exact (set5_cell (Nat.ne_of_lt (unhide SL)) _ _ _ _ _ _).trans (unhide SC35)
      clear hK K hbc hbf
      try simp only [Act.put, List.setIfInBounds_toArray, List.set_cons_zero, List.set_cons_succ]
      refine wpAnyH_take (i := 18) (oi := { dst := some 7, op := Op.assign (Operand.tmp 28), type := 3, pos := "more.go:75", after := #[{ on := 14, ground := Ground.data }, { on := 17, ground := Ground.chain }, { on := 0, ground := Ground.phase }, { on := 1, ground := Ground.phase }, { on := 2, ground := Ground.phase }, { on := 3, ground := Ground.phase }, { on := 4, ground := Ground.phase }, { on := 5, ground := Ground.phase }, { on := 6, ground := Ground.phase }, { on := 7, ground := Ground.phase }, { on := 8, ground := Ground.phase }, { on := 9, ground := Ground.phase }, { on := 10, ground := Ground.phase }, { on := 11, ground := Ground.phase }, { on := 12, ground := Ground.phase }, { on := 13, ground := Ground.phase }, { on := 14, ground := Ground.phase }, { on := 15, ground := Ground.textOnly Departure.lateStores }, { on := 16, ground := Ground.phase }, { on := 17, ground := Ground.phase }], guard := none }) (v := ?_) rfl (by kernel_rfl) (by kernel_rfl) (by kernel_rfl) (fun _ _ _ h => h) (Or.inl ⟨by rfl, ?_⟩) (by assumption) ?_
      rotate_left
      · intro w hSw
        go_simp
        try with_reducible rfl
      try simp only [Act.put, List.setIfInBounds_toArray, List.set_cons_zero, List.set_cons_succ]
      refine wpAnyH_take (i := 19) (oi := { dst := some 8, op := Op.assign (Operand.tmp 29), type := 31, pos := "more.go:75", after := #[{ on := 15, ground := Ground.data }, { on := 18, ground := Ground.chain }, { on := 0, ground := Ground.phase }, { on := 1, ground := Ground.phase }, { on := 2, ground := Ground.phase }, { on := 3, ground := Ground.phase }, { on := 4, ground := Ground.phase }, { on := 5, ground := Ground.phase }, { on := 6, ground := Ground.phase }, { on := 7, ground := Ground.phase }, { on := 8, ground := Ground.phase }, { on := 9, ground := Ground.phase }, { on := 10, ground := Ground.phase }, { on := 11, ground := Ground.phase }, { on := 12, ground := Ground.phase }, { on := 13, ground := Ground.phase }, { on := 14, ground := Ground.phase }, { on := 15, ground := Ground.phase }, { on := 16, ground := Ground.phase }, { on := 17, ground := Ground.phase }, { on := 18, ground := Ground.phase }], guard := none }) (v := ?_) rfl (by kernel_rfl) (by kernel_rfl) (by kernel_rfl) (fun _ _ _ h => h) (Or.inl ⟨by rfl, ?_⟩) (by assumption) ?_
      rotate_left
      · intro w hSw
        go_simp
        try with_reducible rfl
      try simp only [Act.put, List.setIfInBounds_toArray, List.set_cons_zero, List.set_cons_succ]
      refine wpAnyH_done (by kernel_rfl) ?_ _
      have HF := hide (ModIn.stored (unhide KC35) (unhide VA19) (unhide BC35) (unhide MH35) (unhide MB35))
      exact HC _ _ _ _ _ _ _ _ (unhide HF)
  · intro w1 V A2 c2 A3 c3 A4 c4 hm
    have hcase := unhide HX
    skip
    have HM := hide hm.at_
    have hb0 := hm.2.1
    have HB0 := hide hb0
    clear hm hb0
    rcases hcase with ⟨hx, hnl, rfl, rfl⟩ | ⟨hx, hnl, rfl⟩
    · have hl0 : md.nodes.length = 0 := by rw [hnl]; rfl
      have hx2 : (decide (v < 0) || decide (268435456 < v)) = true := by simpa using hx
      have HX2 := hide hx2
      clear hx2
      rw [hl0] at HB0
      clear hnl hl0
      rcases Int.lt_or_le v 0 with hv0 | hv0
      · go_wp2_with fail
        refine (unhide HA _ (unhide HM).1).mono ?_
        rintro e w2 ⟨rfl, hk2⟩
        have HK2 := hide ((unhide HM).1.trans hk2)
        obtain ⟨htc, htf, -⟩ := ((unhide HB0).keeps hk2).facts
        clear hk2
        go_wp2_with fail
        refine (unhide HME _).mono ?_
        rintro e w' ⟨rfl, rfl⟩
        go_wp2
        go_ret
        exact ⟨rfl, unhide HK2⟩
      · have hv1 : ¬ v < 0 := by omega
        have hv2 : 268435456 < v := by omega
        go_wp2_with fail
        refine (unhide HA _ (unhide HM).1).mono ?_
        rintro e w2 ⟨rfl, hk2⟩
        have HK2 := hide ((unhide HM).1.trans hk2)
        obtain ⟨htc, htf, -⟩ := ((unhide HB0).keeps hk2).facts
        clear hk2
        go_wp2_with fail
        refine (unhide HME _).mono ?_
        rintro e w' ⟨rfl, rfl⟩
        go_wp2
        go_ret
        exact ⟨rfl, unhide HK2⟩
    · have hv1 : ¬ v < 0 := by omega
      have hv2 : ¬ 268435456 < v := by omega
      clear HB0
      go_wp2_with fail
      refine (unhide HA _ (unhide HM).1).mono ?_
      rintro e w2 ⟨rfl, hk2⟩
      have HM2 := hide ((unhide HM).keeps hk2)
      have hnn : md.nodes[0]? = some ({ kind := 4, mHas := true, mNum := v, mMode := 1 } : NodeV) := by rw [hnl]; rfl
      obtain ⟨B2, d2, B3, d3, R, c, vi, vf, hb, hR, hc⟩ := (unhide HM2).node hnn
      have h2 : w2.cell? ⟨R, 2, none⟩ = some (.bool true) := hc 2 _ (by decide) rfl
      have h3 : w2.cell? ⟨R, 3, none⟩ = some (.int .i64 v) := hc 3 _ (by decide) rfl
      have h4 : w2.cell? ⟨R, 4, none⟩ = some (.int .i64 1) := hc 4 _ (by decide) rfl
      have hl1 : md.nodes.length = 1 := by rw [hnl]; rfl
      rw [hl1] at hb
      have hk2' := hide hk2
      obtain ⟨htc, htf, -⟩ := hb.facts
      have HK2 := hide (unhide HM2).1
      have hwv := unhide HWV
      clear hk2 hk2' hc hnn hl1 hnl HM HM2 hb HX
      go_wp2
      go_ret
      exact ⟨rfl, unhide HK2⟩
set_option maxRecDepth 100000 in
set_option maxHeartbeats 16000000 in
theorem syntaxMarks_2 {w : World} (hL : LexW w) (v n : Int) (h0 : -9223372036854775808 ≤ v) (h1 : v ≤ 9223372036854775807) (hm' : wrap64 ((IntKind.u64.wrap n).tmod 3) = 2) : Calls Tryd.prog 6 #[.int .i64 v, .int .i64 n] w fun e w' => e = .returned (.bool true) ∧ Keeps w w' := by
  have HA := hide (fun (w1 : World) (hk : Keeps w w1) => awake05_any (hL.keeps hk))
  have HN := hide (fun w => number_help v h0 h1 w)
  obtain ⟨md, p, x, hpr, hcase⟩ := marks_any hL v h0 h1 2 (by decide)
  have HPR := hide (fun (w1 : World) (hk : Keeps w w1) => (show Calls Tryd.prog 8 #[.string (⟨#[77, 32, 68, 69, 70, 73, 78, 73, 84, 73, 79, 78, 83, 32, 58, 58, 61, 32, 66, 69, 71, 73, 78, 32, 65, 32, 58, 58, 61, 32]⟩ ++ (⟨#[91]⟩ ++ numB v ++ ⟨#[93, 32]⟩ ++ ⟨#[73, 77, 80, 76, 73, 67, 73, 84, 32]⟩ ++ ⟨#[78, 85, 76, 76]⟩) ++ ⟨#[32, 69, 78, 68]⟩)] w1 (GivesM md p x w1) from hpr w1 hk))
  have hms := mk_size v 2 (by decide)
  have HMO := hide (fun w => module05_any (⟨#[91]⟩ ++ numB v ++ ⟨#[93, 32]⟩ ++ ⟨#[73, 77, 80, 76, 73, 67, 73, 84, 32]⟩ ++ ⟨#[78, 85, 76, 76]⟩) w (by show (mkB (numB v) 2).size ≤ _; omega))
  have HME := hide (fun w => module05_any ⟨#[]⟩ w (by decide))
  have hns := num_size v
  have hq1 : ¬ 9223372036854775807 < 1 + (numB v).size := by omega
  have hq2 : ¬ 9223372036854775807 < 1 + (numB v).size + 2 := by omega
  have hq3 : ¬ 9223372036854775807 < 1 + (numB v).size + 2 + 9 := by omega
  have hq4 : ¬ 9223372036854775807 < 1 + (numB v).size + 2 + 9 + 4 := by omega
  have HX := hide hcase
  have HWV := hide (show wrap64 v = v by unfold wrap64; omega)
  clear hms hns hL hpr hcase
  go_enter Tryd.func6, Tryd.ntmps6
  go_wp2_with fail
  rw [hm']
  clear hm'
  go_wp2_with fail
  have HT0 := hide (Blk.new w 9 #[.string ⟨#[]⟩, .string ⟨#[69, 88, 80, 76, 73, 67, 73, 84, 32]⟩, .string ⟨#[73, 77, 80, 76, 73, 67, 73, 84, 32]⟩])
  have hc0 : (w.alloc (.cells #[.string ⟨#[]⟩, .string ⟨#[69, 88, 80, 76, 73, 67, 73, 84, 32]⟩, .string ⟨#[73, 77, 80, 76, 73, 67, 73, 84, 32]⟩] 9)).cell? ⟨w.heap.size, 2, none⟩ = some (.string ⟨#[73, 77, 80, 76, 73, 67, 73, 84, 32]⟩) := (unhide HT0).cell 2
  have HKd := hide (drew_keeps ((Keeps.refl w).alloc (.cells #[.string ⟨#[]⟩, .string ⟨#[69, 88, 80, 76, 73, 67, 73, 84, 32]⟩, .string ⟨#[73, 77, 80, 76, 73, 67, 73, 84, 32]⟩] 9)))
  have HSd := hide (drew_cell hc0)
  have HLd := hide (show w.heap.size < (w.alloc (.cells #[.string ⟨#[]⟩, .string ⟨#[69, 88, 80, 76, 73, 67, 73, 84, 32]⟩, .string ⟨#[73, 77, 80, 76, 73, 67, 73, 84, 32]⟩] 9)).drew.heap.size by show _ < (w.alloc _).heap.size; rw [World.size_alloc]; omega)
  generalize (w.alloc (.cells #[.string ⟨#[]⟩, .string ⟨#[69, 88, 80, 76, 73, 67, 73, 84, 32]⟩, .string ⟨#[73, 77, 80, 76, 73, 67, 73, 84, 32]⟩] 9)) = v0 at *
  clear HT0
  apply cut_mod (w0 := w) (md := md)
  · intro HC
    refine wp_region_held_drew (S := fun w' => w'.cell? ⟨w.heap.size, 2, none⟩ = some (.string ⟨#[73, 77, 80, 76, 73, 67, 73, 84, 32]⟩)) (by kernel_rfl) hc0 (fun hHeld => ?_)
    refine wpAnyH_take (i := 0) (oi := { dst := some 15, op := Op.move (Operand.tmp 0), type := 2, pos := "more.go:75", after := #[], guard := none }) (v := ?_) rfl (by kernel_rfl) (by kernel_rfl) (by kernel_rfl) (fun _ _ _ h => h) (Or.inl ⟨by rfl, ?_⟩) (by assumption) ?_
    rotate_left
    · intro w hSw
      go_simp
      try with_reducible rfl
    try simp only [Act.put, List.setIfInBounds_toArray, List.set_cons_zero, List.set_cons_succ]
    refine wpAnyH_take (i := 4) (oi := { dst := some 19, op := Op.move (Operand.tmp 5), type := 24, pos := "more.go:75", after := #[], guard := none }) (v := ?_) rfl (by kernel_rfl) (by kernel_rfl) (by kernel_rfl) (fun _ _ _ h => h) (Or.inl ⟨by rfl, ?_⟩) (by assumption) ?_
    rotate_left
    · intro w hSw
      go_simp
      try with_reducible rfl
    try simp only [Act.put, List.setIfInBounds_toArray, List.set_cons_zero, List.set_cons_succ]
    refine wpAnyH_take (i := 5) (oi := { dst := some 20, op := Op.move (Operand.tmp 1), type := 3, pos := "more.go:75", after := #[], guard := none }) (v := ?_) rfl (by kernel_rfl) (by kernel_rfl) (by kernel_rfl) (fun _ _ _ h => h) (Or.inl ⟨by rfl, ?_⟩) (by assumption) ?_
    rotate_left
    · intro w hSw
      go_simp
      try with_reducible rfl
    try simp only [Act.put, List.setIfInBounds_toArray, List.set_cons_zero, List.set_cons_succ]
    refine wpAnyH_take (i := 6) (oi := { dst := some 21, op := Op.indexAddr 24 (Operand.tmp 19) (Operand.tmp 20), type := 0, pos := "more.go:75", after := #[{ on := 4, ground := Ground.data }, { on := 5, ground := Ground.data }], guard := none }) (v := ?_) rfl (by kernel_rfl) (by kernel_rfl) (by kernel_rfl) (fun _ _ _ h => h) (Or.inl ⟨by rfl, ?_⟩) (by assumption) ?_
    rotate_left
    · intro w hSw
      go_simp
      try with_reducible rfl
    try simp only [Act.put, List.setIfInBounds_toArray, List.set_cons_zero, List.set_cons_succ]
    refine wpAnyH_take (i := 7) (oi := { dst := some 22, op := Op.load 9 (Operand.tmp 21), type := 9, pos := "more.go:75", after := #[{ on := 6, ground := Ground.data }], guard := none }) (v := ?_) rfl (by kernel_rfl) (by kernel_rfl) (by kernel_rfl) (fun _ _ _ h => h) (Or.inl ⟨by rfl, ?_⟩) (by assumption) ?_
    rotate_left
    · intro w hSw
      go_simp
      try with_reducible rfl
    try simp only [Act.put, List.setIfInBounds_toArray, List.set_cons_zero, List.set_cons_succ]
    refine wpAnyH_ready (rs := [1, 16]) (by kernel_rfl) (by simp) ?_
    refine (AllReadyH.cons (o := { dst := some 16, op := Op.call { callee := Callee.value (Operand.func 7), args := #[Operand.tmp 15], argTypes := #[2] }, type := 9, pos := "more.go:75", after := #[{ on := 0, ground := Ground.data }], guard := none }) rfl (fun K hK => ?_) (AllReadyH.cons (o := { dst := some 6, op := Op.alloc 30, type := 0, pos := "more.go:75", after := #[], guard := none }) rfl (fun K hK => ?_) AllReadyH.nil))
    · go_simp
      go_at_call 7
      with_reducible refine (unhide HN _).mono ?_
      rintro e w38 ⟨rfl, hk⟩
      have KC38 := hide ((unhide HKd).trans hk)
      have SC38 := hide ((Below.cell (p := ⟨w.heap.size, 2, none⟩) hk (unhide HLd)).trans (unhide HSd))
      have LC38 := hide (Nat.lt_of_lt_of_le (unhide HLd) hk.size)
      clear hk
      go_wp2_with fail
      refine hK.out _ _ (unhide SC38) (fun hHeld => ?_)
      clear hK K
      try simp only [Act.put, List.setIfInBounds_toArray, List.set_cons_zero, List.set_cons_succ]
      refine wpAnyH_take (i := 2) (oi := { dst := some 17, op := Op.binOp BinOp.add 9 (Operand.const (Value.string { data := #[91] })) (Operand.tmp 16) 9, type := 9, pos := "more.go:75", after := #[{ on := 1, ground := Ground.data }], guard := none }) (v := ?_) rfl (by kernel_rfl) (by kernel_rfl) (by kernel_rfl) (fun _ _ _ h => h) (Or.inl ⟨by rfl, ?_⟩) (by assumption) ?_
      rotate_left
      · intro w hSw
        go_simp
        try with_reducible rfl
      try simp only [Act.put, List.setIfInBounds_toArray, List.set_cons_zero, List.set_cons_succ]
      refine wpAnyH_take (i := 3) (oi := { dst := some 18, op := Op.binOp BinOp.add 9 (Operand.tmp 17) (Operand.const (Value.string { data := #[93, 32] })) 9, type := 9, pos := "more.go:75", after := #[{ on := 2, ground := Ground.data }], guard := none }) (v := ?_) rfl (by kernel_rfl) (by kernel_rfl) (by kernel_rfl) (fun _ _ _ h => h) (Or.inl ⟨by rfl, ?_⟩) (by assumption) ?_
      rotate_left
      · intro w hSw
        go_simp
        try with_reducible rfl
      try simp only [Act.put, List.setIfInBounds_toArray, List.set_cons_zero, List.set_cons_succ]
      refine wpAnyH_take (i := 8) (oi := { dst := some 23, op := Op.binOp BinOp.add 9 (Operand.tmp 18) (Operand.tmp 22) 9, type := 9, pos := "more.go:75", after := #[{ on := 3, ground := Ground.data }, { on := 7, ground := Ground.data }], guard := none }) (v := ?_) rfl (by kernel_rfl) (by kernel_rfl) (by kernel_rfl) (fun _ _ _ h => h) (Or.inl ⟨by rfl, ?_⟩) (by assumption) ?_
      rotate_left
      · intro w hSw
        go_simp
        try with_reducible rfl
      try simp only [Act.put, List.setIfInBounds_toArray, List.set_cons_zero, List.set_cons_succ]
      refine wpAnyH_take (i := 9) (oi := { dst := some 24, op := Op.binOp BinOp.add 9 (Operand.tmp 23) (Operand.const (Value.string { data := #[78, 85, 76, 76] })) 9, type := 9, pos := "more.go:75", after := #[{ on := 8, ground := Ground.data }], guard := none }) (v := ?_) rfl (by kernel_rfl) (by kernel_rfl) (by kernel_rfl) (fun _ _ _ h => h) (Or.inl ⟨by rfl, ?_⟩) (by assumption) ?_
      rotate_left
      · intro w hSw
        go_simp
        try with_reducible rfl
      try simp only [Act.put, List.setIfInBounds_toArray, List.set_cons_zero, List.set_cons_succ]
      refine wpAnyH_ready (rs := [10, 16]) (by kernel_rfl) (by simp) ?_
      refine (AllReadyH.cons (o := { dst := some 25, op := Op.call { callee := Callee.value (Operand.func 9), args := #[Operand.tmp 24], argTypes := #[9] }, type := 9, pos := "more.go:75", after := #[{ on := 9, ground := Ground.data }, { on := 1, ground := Ground.chain }], guard := none }) rfl (fun K hK => ?_) (AllReadyH.cons (o := { dst := some 6, op := Op.alloc 30, type := 0, pos := "more.go:75", after := #[], guard := none }) rfl (fun K hK => ?_) AllReadyH.nil))
      · go_simp
        go_at_call 9
        with_reducible refine (unhide HMO _).mono ?_
        rintro e w'40 ⟨rfl, hw40⟩
        subst w'40
        go_wp2_with fail
        refine hK.out _ _ (unhide SC38) (fun hHeld => ?_)
        clear hK K
        try simp only [Act.put, List.setIfInBounds_toArray, List.set_cons_zero, List.set_cons_succ]
        refine wpAnyH_ready (rs := [11, 16]) (by kernel_rfl) (by simp) ?_
        refine (AllReadyH.cons (o := { dst := some 26, op := Op.call { callee := Callee.value (Operand.func 8), args := #[Operand.tmp 25], argTypes := #[9] }, type := 32, pos := "more.go:75", after := #[{ on := 10, ground := Ground.data }, { on := 10, ground := Ground.chain }], guard := none }) rfl (fun K hK => ?_) (AllReadyH.cons (o := { dst := some 6, op := Op.alloc 30, type := 0, pos := "more.go:75", after := #[], guard := none }) rfl (fun K hK => ?_) AllReadyH.nil))
        · go_simp
          go_at_call 8
          with_reducible refine (unhide HPR _ (unhide KC38)).mono ?_
          rintro e w42 ⟨A2, c2, A3, c3, A4, c4, rfl, hmh, hk⟩
          have MH42 := hide hmh
          have MB42 := hide ((unhide KC38).size)
          clear hmh
          have KC42 := hide ((unhide KC38).trans hk)
          have SC42 := hide ((Below.cell (p := ⟨w.heap.size, 2, none⟩) hk (unhide LC38)).trans (unhide SC38))
          have LC42 := hide (Nat.lt_of_lt_of_le (unhide LC38) hk.size)
          clear hk
          go_wp2_with fail
          refine hK.out _ _ (unhide SC42) (fun hHeld => ?_)
          clear hK K
          try simp only [Act.put, List.setIfInBounds_toArray, List.set_cons_zero, List.set_cons_succ]
          refine wpAnyH_take (i := 12) (oi := { dst := some 14, op := Op.move (Operand.tmp 26), type := 32, pos := "more.go:75", after := #[{ on := 11, ground := Ground.data }], guard := none }) (v := ?_) rfl (by kernel_rfl) (by kernel_rfl) (by kernel_rfl) (fun _ _ _ h => h) (Or.inl ⟨by rfl, ?_⟩) (by assumption) ?_
          rotate_left
          · intro w hSw
            go_simp
            try with_reducible rfl
          try simp only [Act.put, List.setIfInBounds_toArray, List.set_cons_zero, List.set_cons_succ]
          refine wpAnyH_take (i := 13) (oi := { dst := some 27, op := Op.extract (Operand.tmp 14) 0, type := 30, pos := "more.go:75", after := #[{ on := 12, ground := Ground.data }], guard := none }) (v := ?_) rfl (by kernel_rfl) (by kernel_rfl) (by kernel_rfl) (fun _ _ _ h => h) (Or.inl ⟨by rfl, ?_⟩) (by assumption) ?_
          rotate_left
          · intro w hSw
            go_simp
            try with_reducible rfl
          try simp only [Act.put, List.setIfInBounds_toArray, List.set_cons_zero, List.set_cons_succ]
          refine wpAnyH_take (i := 14) (oi := { dst := some 28, op := Op.extract (Operand.tmp 14) 1, type := 3, pos := "more.go:75", after := #[{ on := 12, ground := Ground.data }, { on := 17, ground := Ground.gcOnly Departure.lateStores }], guard := none }) (v := ?_) rfl (by kernel_rfl) (by kernel_rfl) (by kernel_rfl) (fun _ _ _ h => h) (Or.inl ⟨by rfl, ?_⟩) (by assumption) ?_
          rotate_left
          · intro w hSw
            go_simp
            try with_reducible rfl
          try simp only [Act.put, List.setIfInBounds_toArray, List.set_cons_zero, List.set_cons_succ]
          refine wpAnyH_take (i := 15) (oi := { dst := some 29, op := Op.extract (Operand.tmp 14) 2, type := 31, pos := "more.go:75", after := #[{ on := 12, ground := Ground.data }, { on := 18, ground := Ground.gcOnly Departure.lateStores }], guard := none }) (v := ?_) rfl (by kernel_rfl) (by kernel_rfl) (by kernel_rfl) (fun _ _ _ h => h) (Or.inl ⟨by rfl, ?_⟩) (by assumption) ?_
          rotate_left
          · intro w hSw
            go_simp
            try with_reducible rfl
          try simp only [Act.put, List.setIfInBounds_toArray, List.set_cons_zero, List.set_cons_succ]
          refine wpAnyH_ready (rs := [16]) (by kernel_rfl) (by simp) ?_
          refine (AllReadyH.cons (o := { dst := some 6, op := Op.alloc 30, type := 0, pos := "more.go:75", after := #[], guard := none }) rfl (fun K hK => ?_) AllReadyH.nil)
          go_simp
          refine hK.out _ _ ?_ (fun hHeld => ?_)
          · exact (World.cell?_alloc_lt _ _ _ (unhide LC42)).trans (unhide SC42)
          have KA43 := hide ((unhide KC42).alloc (.cells #[.string ⟨#[]⟩, .int .i64 0, .slice none 0 0, .slice none 0 0, .slice none 0 0] 30))
          have BA43 := hide (show Blk (w42.alloc (.cells #[.string ⟨#[]⟩, .int .i64 0, .slice none 0 0, .slice none 0 0, .slice none 0 0] 30)) w42.heap.size 30 #[.string ⟨#[]⟩, .int .i64 0, .slice none 0 0, .slice none 0 0, .slice none 0 0] from Blk.new w42 30 #[.string ⟨#[]⟩, .int .i64 0, .slice none 0 0, .slice none 0 0, .slice none 0 0])
          have VA43 := hide (show w.heap.size ≤ w42.heap.size from (unhide KC42).size)
          have SL := hide (unhide LC42)
          have SA43 := hide ((World.cell?_alloc_lt w42 (.cells #[.string ⟨#[]⟩, .int .i64 0, .slice none 0 0, .slice none 0 0, .slice none 0 0] 30) ⟨w.heap.size, 2, none⟩ (unhide LC42)).trans (unhide SC42))
          have LA43 := hide (Nat.lt_of_lt_of_le (unhide LC42) ((Keeps.refl w42).alloc (.cells #[.string ⟨#[]⟩, .int .i64 0, .slice none 0 0, .slice none 0 0, .slice none 0 0] 30)).size)
          clear hK K
          try simp only [Act.put, List.setIfInBounds_toArray, List.set_cons_zero, List.set_cons_succ]
          have MM44 := hide ((unhide MH42).keeps ((Keeps.refl w42).alloc (.cells #[.string ⟨#[]⟩, .int .i64 0, .slice none 0 0, .slice none 0 0, .slice none 0 0] 30)))
          obtain ⟨hbc, hbf, -⟩ := (unhide BA43).facts
          refine wpAnyH_ready (rs := [17]) (by kernel_rfl) (by simp) ?_
          refine AllReadyH.cons (o := { dst := none, op := Op.store 30 (Operand.tmp 6) (Operand.tmp 27), type := 0, pos := "more.go:75", after := #[{ on := 16, ground := Ground.data }, { on := 13, ground := Ground.data }, { on := 11, ground := Ground.chain }, { on := 0, ground := Ground.phase }, { on := 1, ground := Ground.phase }, { on := 2, ground := Ground.phase }, { on := 3, ground := Ground.phase }, { on := 4, ground := Ground.phase }, { on := 5, ground := Ground.phase }, { on := 6, ground := Ground.phase }, { on := 7, ground := Ground.phase }, { on := 8, ground := Ground.phase }, { on := 9, ground := Ground.phase }, { on := 10, ground := Ground.phase }, { on := 11, ground := Ground.phase }, { on := 12, ground := Ground.phase }, { on := 13, ground := Ground.phase }, { on := 14, ground := Ground.textOnly Departure.lateStores }, { on := 15, ground := Ground.textOnly Departure.lateStores }, { on := 16, ground := Ground.phase }], guard := none }) rfl (fun K hK => ?_) AllReadyH.nil
          go_simp
          refine hK.out _ _ ?_ (fun hHeld => ?_)
          · exact (World.cell?_alloc_lt _ _ _ (unhide LC42)).trans (unhide SC42)
          clear hK K hbc hbf
          try simp only [Act.put, List.setIfInBounds_toArray, List.set_cons_zero, List.set_cons_succ]
          refine wpAnyH_take (i := 18) (oi := { dst := some 7, op := Op.assign (Operand.tmp 28), type := 3, pos := "more.go:75", after := #[{ on := 14, ground := Ground.data }, { on := 17, ground := Ground.chain }, { on := 0, ground := Ground.phase }, { on := 1, ground := Ground.phase }, { on := 2, ground := Ground.phase }, { on := 3, ground := Ground.phase }, { on := 4, ground := Ground.phase }, { on := 5, ground := Ground.phase }, { on := 6, ground := Ground.phase }, { on := 7, ground := Ground.phase }, { on := 8, ground := Ground.phase }, { on := 9, ground := Ground.phase }, { on := 10, ground := Ground.phase }, { on := 11, ground := Ground.phase }, { on := 12, ground := Ground.phase }, { on := 13, ground := Ground.phase }, { on := 14, ground := Ground.phase }, { on := 15, ground := Ground.textOnly Departure.lateStores }, { on := 16, ground := Ground.phase }, { on := 17, ground := Ground.phase }], guard := none }) (v := ?_) rfl (by kernel_rfl) (by kernel_rfl) (by kernel_rfl) (fun _ _ _ h => h) (Or.inl ⟨by rfl, ?_⟩) (by assumption) ?_
          rotate_left
          · intro w hSw
            go_simp
            try with_reducible rfl
          try simp only [Act.put, List.setIfInBounds_toArray, List.set_cons_zero, List.set_cons_succ]
          refine wpAnyH_take (i := 19) (oi := { dst := some 8, op := Op.assign (Operand.tmp 29), type := 31, pos := "more.go:75", after := #[{ on := 15, ground := Ground.data }, { on := 18, ground := Ground.chain }, { on := 0, ground := Ground.phase }, { on := 1, ground := Ground.phase }, { on := 2, ground := Ground.phase }, { on := 3, ground := Ground.phase }, { on := 4, ground := Ground.phase }, { on := 5, ground := Ground.phase }, { on := 6, ground := Ground.phase }, { on := 7, ground := Ground.phase }, { on := 8, ground := Ground.phase }, { on := 9, ground := Ground.phase }, { on := 10, ground := Ground.phase }, { on := 11, ground := Ground.phase }, { on := 12, ground := Ground.phase }, { on := 13, ground := Ground.phase }, { on := 14, ground := Ground.phase }, { on := 15, ground := Ground.phase }, { on := 16, ground := Ground.phase }, { on := 17, ground := Ground.phase }, { on := 18, ground := Ground.phase }], guard := none }) (v := ?_) rfl (by kernel_rfl) (by kernel_rfl) (by kernel_rfl) (fun _ _ _ h => h) (Or.inl ⟨by rfl, ?_⟩) (by assumption) ?_
          rotate_left
          · intro w hSw
            go_simp
            try with_reducible rfl
          try simp only [Act.put, List.setIfInBounds_toArray, List.set_cons_zero, List.set_cons_succ]
          refine wpAnyH_done (by kernel_rfl) ?_ _
          have HF := hide (ModIn.fresh (unhide KC42) (unhide MH42) (unhide MB42))
          generalize (w42.alloc (.cells #[.string md.name, .int .i64 md.tagging, .slice A2 md.names.length c2, .slice A3 md.types.length c3, .slice A4 md.nodes.length c4] 30)) = w9 at HF ⊢
          generalize w42.heap.size = g9 at HF ⊢
          exact HC w9 g9 A2 c2 A3 c3 A4 c4 (unhide HF)
        · go_simp
          refine hK.out _ _ ?_ (fun hHeld => ?_)
          · exact (World.cell?_alloc_lt _ _ _ (unhide LC38)).trans (unhide SC38)
          have KA41 := hide ((unhide KC38).alloc (.cells #[.string ⟨#[]⟩, .int .i64 0, .slice none 0 0, .slice none 0 0, .slice none 0 0] 30))
          have BA41 := hide (show Blk (w38.alloc (.cells #[.string ⟨#[]⟩, .int .i64 0, .slice none 0 0, .slice none 0 0, .slice none 0 0] 30)) w38.heap.size 30 #[.string ⟨#[]⟩, .int .i64 0, .slice none 0 0, .slice none 0 0, .slice none 0 0] from Blk.new w38 30 #[.string ⟨#[]⟩, .int .i64 0, .slice none 0 0, .slice none 0 0, .slice none 0 0])
          have VA41 := hide (show w.heap.size ≤ w38.heap.size from (unhide KC38).size)
          have SL := hide (unhide LC38)
          have SA41 := hide ((World.cell?_alloc_lt w38 (.cells #[.string ⟨#[]⟩, .int .i64 0, .slice none 0 0, .slice none 0 0, .slice none 0 0] 30) ⟨w.heap.size, 2, none⟩ (unhide LC38)).trans (unhide SC38))
          have LA41 := hide (Nat.lt_of_lt_of_le (unhide LC38) ((Keeps.refl w38).alloc (.cells #[.string ⟨#[]⟩, .int .i64 0, .slice none 0 0, .slice none 0 0, .slice none 0 0] 30)).size)
          clear hK K
          try simp only [Act.put, List.setIfInBounds_toArray, List.set_cons_zero, List.set_cons_succ]
          refine wpAnyH_ready (rs := [11]) (by kernel_rfl) (by simp) ?_
          refine (AllReadyH.cons (o := { dst := some 26, op := Op.call { callee := Callee.value (Operand.func 8), args := #[Operand.tmp 25], argTypes := #[9] }, type := 32, pos := "more.go:75", after := #[{ on := 10, ground := Ground.data }, { on := 10, ground := Ground.chain }], guard := none }) rfl (fun K hK => ?_) AllReadyH.nil)
          go_simp
          go_at_call 8
          with_reducible refine (unhide HPR _ (unhide KA41)).mono ?_
          rintro e w46 ⟨A2, c2, A3, c3, A4, c4, rfl, hmh, hk⟩
          have MH46 := hide hmh
          have MB46 := hide ((unhide KA41).size)
          clear hmh
          have KC46 := hide ((unhide KA41).trans hk)
          have SC46 := hide ((Below.cell (p := ⟨w.heap.size, 2, none⟩) hk (unhide LA41)).trans (unhide SA41))
          have LC46 := hide (Nat.lt_of_lt_of_le (unhide LA41) hk.size)
          have BC46 := hide ((unhide BA41).keeps hk)
          clear hk
          go_wp2_with fail
          refine hK.out _ _ (unhide SC46) (fun hHeld => ?_)
          clear hK K
          try simp only [Act.put, List.setIfInBounds_toArray, List.set_cons_zero, List.set_cons_succ]
          refine wpAnyH_take (i := 12) (oi := { dst := some 14, op := Op.move (Operand.tmp 26), type := 32, pos := "more.go:75", after := #[{ on := 11, ground := Ground.data }], guard := none }) (v := ?_) rfl (by kernel_rfl) (by kernel_rfl) (by kernel_rfl) (fun _ _ _ h => h) (Or.inl ⟨by rfl, ?_⟩) (by assumption) ?_
          rotate_left
          · intro w hSw
            go_simp
            try with_reducible rfl
          try simp only [Act.put, List.setIfInBounds_toArray, List.set_cons_zero, List.set_cons_succ]
          refine wpAnyH_take (i := 13) (oi := { dst := some 27, op := Op.extract (Operand.tmp 14) 0, type := 30, pos := "more.go:75", after := #[{ on := 12, ground := Ground.data }], guard := none }) (v := ?_) rfl (by kernel_rfl) (by kernel_rfl) (by kernel_rfl) (fun _ _ _ h => h) (Or.inl ⟨by rfl, ?_⟩) (by assumption) ?_
          rotate_left
          · intro w hSw
            go_simp
            try with_reducible rfl
          try simp only [Act.put, List.setIfInBounds_toArray, List.set_cons_zero, List.set_cons_succ]
          refine wpAnyH_take (i := 14) (oi := { dst := some 28, op := Op.extract (Operand.tmp 14) 1, type := 3, pos := "more.go:75", after := #[{ on := 12, ground := Ground.data }, { on := 17, ground := Ground.gcOnly Departure.lateStores }], guard := none }) (v := ?_) rfl (by kernel_rfl) (by kernel_rfl) (by kernel_rfl) (fun _ _ _ h => h) (Or.inl ⟨by rfl, ?_⟩) (by assumption) ?_
          rotate_left
          · intro w hSw
            go_simp
            try with_reducible rfl
          try simp only [Act.put, List.setIfInBounds_toArray, List.set_cons_zero, List.set_cons_succ]
          refine wpAnyH_take (i := 15) (oi := { dst := some 29, op := Op.extract (Operand.tmp 14) 2, type := 31, pos := "more.go:75", after := #[{ on := 12, ground := Ground.data }, { on := 18, ground := Ground.gcOnly Departure.lateStores }], guard := none }) (v := ?_) rfl (by kernel_rfl) (by kernel_rfl) (by kernel_rfl) (fun _ _ _ h => h) (Or.inl ⟨by rfl, ?_⟩) (by assumption) ?_
          rotate_left
          · intro w hSw
            go_simp
            try with_reducible rfl
          try simp only [Act.put, List.setIfInBounds_toArray, List.set_cons_zero, List.set_cons_succ]
          obtain ⟨hbc, hbf, -⟩ := (unhide BC46).facts
          refine wpAnyH_ready (rs := [17]) (by kernel_rfl) (by simp) ?_
          refine AllReadyH.cons (o := { dst := none, op := Op.store 30 (Operand.tmp 6) (Operand.tmp 27), type := 0, pos := "more.go:75", after := #[{ on := 16, ground := Ground.data }, { on := 13, ground := Ground.data }, { on := 11, ground := Ground.chain }, { on := 0, ground := Ground.phase }, { on := 1, ground := Ground.phase }, { on := 2, ground := Ground.phase }, { on := 3, ground := Ground.phase }, { on := 4, ground := Ground.phase }, { on := 5, ground := Ground.phase }, { on := 6, ground := Ground.phase }, { on := 7, ground := Ground.phase }, { on := 8, ground := Ground.phase }, { on := 9, ground := Ground.phase }, { on := 10, ground := Ground.phase }, { on := 11, ground := Ground.phase }, { on := 12, ground := Ground.phase }, { on := 13, ground := Ground.phase }, { on := 14, ground := Ground.textOnly Departure.lateStores }, { on := 15, ground := Ground.textOnly Departure.lateStores }, { on := 16, ground := Ground.phase }], guard := none }) rfl (fun K hK => ?_) AllReadyH.nil
          go_simp
          refine hK.out _ _ ?_ (fun hHeld => ?_)
          · exact (set5_cell (Nat.ne_of_lt (unhide SL)) _ _ _ _ _ _).trans (unhide SC46)
          clear hK K hbc hbf
          try simp only [Act.put, List.setIfInBounds_toArray, List.set_cons_zero, List.set_cons_succ]
          refine wpAnyH_take (i := 18) (oi := { dst := some 7, op := Op.assign (Operand.tmp 28), type := 3, pos := "more.go:75", after := #[{ on := 14, ground := Ground.data }, { on := 17, ground := Ground.chain }, { on := 0, ground := Ground.phase }, { on := 1, ground := Ground.phase }, { on := 2, ground := Ground.phase }, { on := 3, ground := Ground.phase }, { on := 4, ground := Ground.phase }, { on := 5, ground := Ground.phase }, { on := 6, ground := Ground.phase }, { on := 7, ground := Ground.phase }, { on := 8, ground := Ground.phase }, { on := 9, ground := Ground.phase }, { on := 10, ground := Ground.phase }, { on := 11, ground := Ground.phase }, { on := 12, ground := Ground.phase }, { on := 13, ground := Ground.phase }, { on := 14, ground := Ground.phase }, { on := 15, ground := Ground.textOnly Departure.lateStores }, { on := 16, ground := Ground.phase }, { on := 17, ground := Ground.phase }], guard := none }) (v := ?_) rfl (by kernel_rfl) (by kernel_rfl) (by kernel_rfl) (fun _ _ _ h => h) (Or.inl ⟨by rfl, ?_⟩) (by assumption) ?_
          rotate_left
          · intro w hSw
            go_simp
            try with_reducible rfl
          try simp only [Act.put, List.setIfInBounds_toArray, List.set_cons_zero, List.set_cons_succ]
          refine wpAnyH_take (i := 19) (oi := { dst := some 8, op := Op.assign (Operand.tmp 29), type := 31, pos := "more.go:75", after := #[{ on := 15, ground := Ground.data }, { on := 18, ground := Ground.chain }, { on := 0, ground := Ground.phase }, { on := 1, ground := Ground.phase }, { on := 2, ground := Ground.phase }, { on := 3, ground := Ground.phase }, { on := 4, ground := Ground.phase }, { on := 5, ground := Ground.phase }, { on := 6, ground := Ground.phase }, { on := 7, ground := Ground.phase }, { on := 8, ground := Ground.phase }, { on := 9, ground := Ground.phase }, { on := 10, ground := Ground.phase }, { on := 11, ground := Ground.phase }, { on := 12, ground := Ground.phase }, { on := 13, ground := Ground.phase }, { on := 14, ground := Ground.phase }, { on := 15, ground := Ground.phase }, { on := 16, ground := Ground.phase }, { on := 17, ground := Ground.phase }, { on := 18, ground := Ground.phase }], guard := none }) (v := ?_) rfl (by kernel_rfl) (by kernel_rfl) (by kernel_rfl) (fun _ _ _ h => h) (Or.inl ⟨by rfl, ?_⟩) (by assumption) ?_
          rotate_left
          · intro w hSw
            go_simp
            try with_reducible rfl
          try simp only [Act.put, List.setIfInBounds_toArray, List.set_cons_zero, List.set_cons_succ]
          refine wpAnyH_done (by kernel_rfl) ?_ _
          have HF := hide (ModIn.stored (unhide KC46) (unhide VA41) (unhide BC46) (unhide MH46) (unhide MB46))
          exact HC _ _ _ _ _ _ _ _ (unhide HF)
      · go_simp
        refine hK.out _ _ ?_ (fun hHeld => ?_)
        · exact (World.cell?_alloc_lt _ _ _ (unhide LC38)).trans (unhide SC38)
        have KA39 := hide ((unhide KC38).alloc (.cells #[.string ⟨#[]⟩, .int .i64 0, .slice none 0 0, .slice none 0 0, .slice none 0 0] 30))
        have BA39 := hide (show Blk (w38.alloc (.cells #[.string ⟨#[]⟩, .int .i64 0, .slice none 0 0, .slice none 0 0, .slice none 0 0] 30)) w38.heap.size 30 #[.string ⟨#[]⟩, .int .i64 0, .slice none 0 0, .slice none 0 0, .slice none 0 0] from Blk.new w38 30 #[.string ⟨#[]⟩, .int .i64 0, .slice none 0 0, .slice none 0 0, .slice none 0 0])
        have VA39 := hide (show w.heap.size ≤ w38.heap.size from (unhide KC38).size)
        have SL := hide (unhide LC38)
        have SA39 := hide ((World.cell?_alloc_lt w38 (.cells #[.string ⟨#[]⟩, .int .i64 0, .slice none 0 0, .slice none 0 0, .slice none 0 0] 30) ⟨w.heap.size, 2, none⟩ (unhide LC38)).trans (unhide SC38))
        have LA39 := hide (Nat.lt_of_lt_of_le (unhide LC38) ((Keeps.refl w38).alloc (.cells #[.string ⟨#[]⟩, .int .i64 0, .slice none 0 0, .slice none 0 0, .slice none 0 0] 30)).size)
        clear hK K
        try simp only [Act.put, List.setIfInBounds_toArray, List.set_cons_zero, List.set_cons_succ]
        refine wpAnyH_ready (rs := [10]) (by kernel_rfl) (by simp) ?_
        refine (AllReadyH.cons (o := { dst := some 25, op := Op.call { callee := Callee.value (Operand.func 9), args := #[Operand.tmp 24], argTypes := #[9] }, type := 9, pos := "more.go:75", after := #[{ on := 9, ground := Ground.data }, { on := 1, ground := Ground.chain }], guard := none }) rfl (fun K hK => ?_) AllReadyH.nil)
        go_simp
        go_at_call 9
        with_reducible refine (unhide HMO _).mono ?_
        rintro e w'48 ⟨rfl, hw48⟩
        subst w'48
        go_wp2_with fail
        refine hK.out _ _ (unhide SA39) (fun hHeld => ?_)
        clear hK K
        try simp only [Act.put, List.setIfInBounds_toArray, List.set_cons_zero, List.set_cons_succ]
        refine wpAnyH_ready (rs := [11]) (by kernel_rfl) (by simp) ?_
        refine (AllReadyH.cons (o := { dst := some 26, op := Op.call { callee := Callee.value (Operand.func 8), args := #[Operand.tmp 25], argTypes := #[9] }, type := 32, pos := "more.go:75", after := #[{ on := 10, ground := Ground.data }, { on := 10, ground := Ground.chain }], guard := none }) rfl (fun K hK => ?_) AllReadyH.nil)
        go_simp
        go_at_call 8
        with_reducible refine (unhide HPR _ (unhide KA39)).mono ?_
        rintro e w49 ⟨A2, c2, A3, c3, A4, c4, rfl, hmh, hk⟩
        have MH49 := hide hmh
        have MB49 := hide ((unhide KA39).size)
        clear hmh
        have KC49 := hide ((unhide KA39).trans hk)
        have SC49 := hide ((Below.cell (p := ⟨w.heap.size, 2, none⟩) hk (unhide LA39)).trans (unhide SA39))
        have LC49 := hide (Nat.lt_of_lt_of_le (unhide LA39) hk.size)
        have BC49 := hide ((unhide BA39).keeps hk)
        clear hk
        go_wp2_with fail
        refine hK.out _ _ (unhide SC49) (fun hHeld => ?_)
        clear hK K
        try simp only [Act.put, List.setIfInBounds_toArray, List.set_cons_zero, List.set_cons_succ]
        refine wpAnyH_take (i := 12) (oi := { dst := some 14, op := Op.move (Operand.tmp 26), type := 32, pos := "more.go:75", after := #[{ on := 11, ground := Ground.data }], guard := none }) (v := ?_) rfl (by kernel_rfl) (by kernel_rfl) (by kernel_rfl) (fun _ _ _ h => h) (Or.inl ⟨by rfl, ?_⟩) (by assumption) ?_
        rotate_left
        · intro w hSw
          go_simp
          try with_reducible rfl
        try simp only [Act.put, List.setIfInBounds_toArray, List.set_cons_zero, List.set_cons_succ]
        refine wpAnyH_take (i := 13) (oi := { dst := some 27, op := Op.extract (Operand.tmp 14) 0, type := 30, pos := "more.go:75", after := #[{ on := 12, ground := Ground.data }], guard := none }) (v := ?_) rfl (by kernel_rfl) (by kernel_rfl) (by kernel_rfl) (fun _ _ _ h => h) (Or.inl ⟨by rfl, ?_⟩) (by assumption) ?_
        rotate_left
        · intro w hSw
          go_simp
          try with_reducible rfl
        try simp only [Act.put, List.setIfInBounds_toArray, List.set_cons_zero, List.set_cons_succ]
        refine wpAnyH_take (i := 14) (oi := { dst := some 28, op := Op.extract (Operand.tmp 14) 1, type := 3, pos := "more.go:75", after := #[{ on := 12, ground := Ground.data }, { on := 17, ground := Ground.gcOnly Departure.lateStores }], guard := none }) (v := ?_) rfl (by kernel_rfl) (by kernel_rfl) (by kernel_rfl) (fun _ _ _ h => h) (Or.inl ⟨by rfl, ?_⟩) (by assumption) ?_
        rotate_left
        · intro w hSw
          go_simp
          try with_reducible rfl
        try simp only [Act.put, List.setIfInBounds_toArray, List.set_cons_zero, List.set_cons_succ]
        refine wpAnyH_take (i := 15) (oi := { dst := some 29, op := Op.extract (Operand.tmp 14) 2, type := 31, pos := "more.go:75", after := #[{ on := 12, ground := Ground.data }, { on := 18, ground := Ground.gcOnly Departure.lateStores }], guard := none }) (v := ?_) rfl (by kernel_rfl) (by kernel_rfl) (by kernel_rfl) (fun _ _ _ h => h) (Or.inl ⟨by rfl, ?_⟩) (by assumption) ?_
        rotate_left
        · intro w hSw
          go_simp
          try with_reducible rfl
        try simp only [Act.put, List.setIfInBounds_toArray, List.set_cons_zero, List.set_cons_succ]
        obtain ⟨hbc, hbf, -⟩ := (unhide BC49).facts
        refine wpAnyH_ready (rs := [17]) (by kernel_rfl) (by simp) ?_
        refine AllReadyH.cons (o := { dst := none, op := Op.store 30 (Operand.tmp 6) (Operand.tmp 27), type := 0, pos := "more.go:75", after := #[{ on := 16, ground := Ground.data }, { on := 13, ground := Ground.data }, { on := 11, ground := Ground.chain }, { on := 0, ground := Ground.phase }, { on := 1, ground := Ground.phase }, { on := 2, ground := Ground.phase }, { on := 3, ground := Ground.phase }, { on := 4, ground := Ground.phase }, { on := 5, ground := Ground.phase }, { on := 6, ground := Ground.phase }, { on := 7, ground := Ground.phase }, { on := 8, ground := Ground.phase }, { on := 9, ground := Ground.phase }, { on := 10, ground := Ground.phase }, { on := 11, ground := Ground.phase }, { on := 12, ground := Ground.phase }, { on := 13, ground := Ground.phase }, { on := 14, ground := Ground.textOnly Departure.lateStores }, { on := 15, ground := Ground.textOnly Departure.lateStores }, { on := 16, ground := Ground.phase }], guard := none }) rfl (fun K hK => ?_) AllReadyH.nil
        go_simp
        refine hK.out _ _ ?_ (fun hHeld => ?_)
        · exact (set5_cell (Nat.ne_of_lt (unhide SL)) _ _ _ _ _ _).trans (unhide SC49)
        clear hK K hbc hbf
        try simp only [Act.put, List.setIfInBounds_toArray, List.set_cons_zero, List.set_cons_succ]
        refine wpAnyH_take (i := 18) (oi := { dst := some 7, op := Op.assign (Operand.tmp 28), type := 3, pos := "more.go:75", after := #[{ on := 14, ground := Ground.data }, { on := 17, ground := Ground.chain }, { on := 0, ground := Ground.phase }, { on := 1, ground := Ground.phase }, { on := 2, ground := Ground.phase }, { on := 3, ground := Ground.phase }, { on := 4, ground := Ground.phase }, { on := 5, ground := Ground.phase }, { on := 6, ground := Ground.phase }, { on := 7, ground := Ground.phase }, { on := 8, ground := Ground.phase }, { on := 9, ground := Ground.phase }, { on := 10, ground := Ground.phase }, { on := 11, ground := Ground.phase }, { on := 12, ground := Ground.phase }, { on := 13, ground := Ground.phase }, { on := 14, ground := Ground.phase }, { on := 15, ground := Ground.textOnly Departure.lateStores }, { on := 16, ground := Ground.phase }, { on := 17, ground := Ground.phase }], guard := none }) (v := ?_) rfl (by kernel_rfl) (by kernel_rfl) (by kernel_rfl) (fun _ _ _ h => h) (Or.inl ⟨by rfl, ?_⟩) (by assumption) ?_
        rotate_left
        · intro w hSw
          go_simp
          try with_reducible rfl
        try simp only [Act.put, List.setIfInBounds_toArray, List.set_cons_zero, List.set_cons_succ]
        refine wpAnyH_take (i := 19) (oi := { dst := some 8, op := Op.assign (Operand.tmp 29), type := 31, pos := "more.go:75", after := #[{ on := 15, ground := Ground.data }, { on := 18, ground := Ground.chain }, { on := 0, ground := Ground.phase }, { on := 1, ground := Ground.phase }, { on := 2, ground := Ground.phase }, { on := 3, ground := Ground.phase }, { on := 4, ground := Ground.phase }, { on := 5, ground := Ground.phase }, { on := 6, ground := Ground.phase }, { on := 7, ground := Ground.phase }, { on := 8, ground := Ground.phase }, { on := 9, ground := Ground.phase }, { on := 10, ground := Ground.phase }, { on := 11, ground := Ground.phase }, { on := 12, ground := Ground.phase }, { on := 13, ground := Ground.phase }, { on := 14, ground := Ground.phase }, { on := 15, ground := Ground.phase }, { on := 16, ground := Ground.phase }, { on := 17, ground := Ground.phase }, { on := 18, ground := Ground.phase }], guard := none }) (v := ?_) rfl (by kernel_rfl) (by kernel_rfl) (by kernel_rfl) (fun _ _ _ h => h) (Or.inl ⟨by rfl, ?_⟩) (by assumption) ?_
        rotate_left
        · intro w hSw
          go_simp
          try with_reducible rfl
        try simp only [Act.put, List.setIfInBounds_toArray, List.set_cons_zero, List.set_cons_succ]
        refine wpAnyH_done (by kernel_rfl) ?_ _
        have HF := hide (ModIn.stored (unhide KC49) (unhide VA39) (unhide BC49) (unhide MH49) (unhide MB49))
        exact HC _ _ _ _ _ _ _ _ (unhide HF)
    · go_simp
      refine hK.out _ _ ?_ (fun hHeld => ?_)
      · exact (World.cell?_alloc_lt _ _ _ (unhide HLd)).trans (unhide HSd)
      have KA37 := hide ((unhide HKd).alloc (.cells #[.string ⟨#[]⟩, .int .i64 0, .slice none 0 0, .slice none 0 0, .slice none 0 0] 30))
      have BA37 := hide (show Blk (v0.drew.alloc (.cells #[.string ⟨#[]⟩, .int .i64 0, .slice none 0 0, .slice none 0 0, .slice none 0 0] 30)) v0.heap.size 30 #[.string ⟨#[]⟩, .int .i64 0, .slice none 0 0, .slice none 0 0, .slice none 0 0] from Blk.new v0.drew 30 #[.string ⟨#[]⟩, .int .i64 0, .slice none 0 0, .slice none 0 0, .slice none 0 0])
      have VA37 := hide (show w.heap.size ≤ v0.heap.size from (unhide HKd).size)
      have SL := hide (unhide HLd)
      have SA37 := hide ((World.cell?_alloc_lt v0.drew (.cells #[.string ⟨#[]⟩, .int .i64 0, .slice none 0 0, .slice none 0 0, .slice none 0 0] 30) ⟨w.heap.size, 2, none⟩ (unhide HLd)).trans (unhide HSd))
      have LA37 := hide (Nat.lt_of_lt_of_le (unhide HLd) ((Keeps.refl v0.drew).alloc (.cells #[.string ⟨#[]⟩, .int .i64 0, .slice none 0 0, .slice none 0 0, .slice none 0 0] 30)).size)
      clear hK K
      try simp only [Act.put, List.setIfInBounds_toArray, List.set_cons_zero, List.set_cons_succ]
      refine wpAnyH_ready (rs := [1]) (by kernel_rfl) (by simp) ?_
      refine (AllReadyH.cons (o := { dst := some 16, op := Op.call { callee := Callee.value (Operand.func 7), args := #[Operand.tmp 15], argTypes := #[2] }, type := 9, pos := "more.go:75", after := #[{ on := 0, ground := Ground.data }], guard := none }) rfl (fun K hK => ?_) AllReadyH.nil)
      go_simp
      go_at_call 7
      with_reducible refine (unhide HN _).mono ?_
      rintro e w51 ⟨rfl, hk⟩
      have KC51 := hide ((unhide KA37).trans hk)
      have SC51 := hide ((Below.cell (p := ⟨w.heap.size, 2, none⟩) hk (unhide LA37)).trans (unhide SA37))
      have LC51 := hide (Nat.lt_of_lt_of_le (unhide LA37) hk.size)
      have BC51 := hide ((unhide BA37).keeps hk)
      clear hk
      go_wp2_with fail
      refine hK.out _ _ (unhide SC51) (fun hHeld => ?_)
      clear hK K
      try simp only [Act.put, List.setIfInBounds_toArray, List.set_cons_zero, List.set_cons_succ]
      refine wpAnyH_take (i := 2) (oi := { dst := some 17, op := Op.binOp BinOp.add 9 (Operand.const (Value.string { data := #[91] })) (Operand.tmp 16) 9, type := 9, pos := "more.go:75", after := #[{ on := 1, ground := Ground.data }], guard := none }) (v := ?_) rfl (by kernel_rfl) (by kernel_rfl) (by kernel_rfl) (fun _ _ _ h => h) (Or.inl ⟨by rfl, ?_⟩) (by assumption) ?_
      rotate_left
      · intro w hSw
        go_simp
        try with_reducible rfl
      try simp only [Act.put, List.setIfInBounds_toArray, List.set_cons_zero, List.set_cons_succ]
      refine wpAnyH_take (i := 3) (oi := { dst := some 18, op := Op.binOp BinOp.add 9 (Operand.tmp 17) (Operand.const (Value.string { data := #[93, 32] })) 9, type := 9, pos := "more.go:75", after := #[{ on := 2, ground := Ground.data }], guard := none }) (v := ?_) rfl (by kernel_rfl) (by kernel_rfl) (by kernel_rfl) (fun _ _ _ h => h) (Or.inl ⟨by rfl, ?_⟩) (by assumption) ?_
      rotate_left
      · intro w hSw
        go_simp
        try with_reducible rfl
      try simp only [Act.put, List.setIfInBounds_toArray, List.set_cons_zero, List.set_cons_succ]
      refine wpAnyH_take (i := 8) (oi := { dst := some 23, op := Op.binOp BinOp.add 9 (Operand.tmp 18) (Operand.tmp 22) 9, type := 9, pos := "more.go:75", after := #[{ on := 3, ground := Ground.data }, { on := 7, ground := Ground.data }], guard := none }) (v := ?_) rfl (by kernel_rfl) (by kernel_rfl) (by kernel_rfl) (fun _ _ _ h => h) (Or.inl ⟨by rfl, ?_⟩) (by assumption) ?_
      rotate_left
      · intro w hSw
        go_simp
        try with_reducible rfl
      try simp only [Act.put, List.setIfInBounds_toArray, List.set_cons_zero, List.set_cons_succ]
      refine wpAnyH_take (i := 9) (oi := { dst := some 24, op := Op.binOp BinOp.add 9 (Operand.tmp 23) (Operand.const (Value.string { data := #[78, 85, 76, 76] })) 9, type := 9, pos := "more.go:75", after := #[{ on := 8, ground := Ground.data }], guard := none }) (v := ?_) rfl (by kernel_rfl) (by kernel_rfl) (by kernel_rfl) (fun _ _ _ h => h) (Or.inl ⟨by rfl, ?_⟩) (by assumption) ?_
      rotate_left
      · intro w hSw
        go_simp
        try with_reducible rfl
      try simp only [Act.put, List.setIfInBounds_toArray, List.set_cons_zero, List.set_cons_succ]
      refine wpAnyH_ready (rs := [10]) (by kernel_rfl) (by simp) ?_
      refine (AllReadyH.cons (o := { dst := some 25, op := Op.call { callee := Callee.value (Operand.func 9), args := #[Operand.tmp 24], argTypes := #[9] }, type := 9, pos := "more.go:75", after := #[{ on := 9, ground := Ground.data }, { on := 1, ground := Ground.chain }], guard := none }) rfl (fun K hK => ?_) AllReadyH.nil)
      go_simp
      go_at_call 9
      with_reducible refine (unhide HMO _).mono ?_
      rintro e w'52 ⟨rfl, hw52⟩
      subst w'52
      go_wp2_with fail
      refine hK.out _ _ (unhide SC51) (fun hHeld => ?_)
      clear hK K
      try simp only [Act.put, List.setIfInBounds_toArray, List.set_cons_zero, List.set_cons_succ]
      refine wpAnyH_ready (rs := [11]) (by kernel_rfl) (by simp) ?_
      refine (AllReadyH.cons (o := { dst := some 26, op := Op.call { callee := Callee.value (Operand.func 8), args := #[Operand.tmp 25], argTypes := #[9] }, type := 32, pos := "more.go:75", after := #[{ on := 10, ground := Ground.data }, { on := 10, ground := Ground.chain }], guard := none }) rfl (fun K hK => ?_) AllReadyH.nil)
      go_simp
      go_at_call 8
      with_reducible refine (unhide HPR _ (unhide KC51)).mono ?_
      rintro e w53 ⟨A2, c2, A3, c3, A4, c4, rfl, hmh, hk⟩
      have MH53 := hide hmh
      have MB53 := hide ((unhide KC51).size)
      clear hmh
      have KC53 := hide ((unhide KC51).trans hk)
      have SC53 := hide ((Below.cell (p := ⟨w.heap.size, 2, none⟩) hk (unhide LC51)).trans (unhide SC51))
      have LC53 := hide (Nat.lt_of_lt_of_le (unhide LC51) hk.size)
      have BC53 := hide ((unhide BC51).keeps hk)
      clear hk
      go_wp2_with fail
      refine hK.out _ _ (unhide SC53) (fun hHeld => ?_)
      clear hK K
      try simp only [Act.put, List.setIfInBounds_toArray, List.set_cons_zero, List.set_cons_succ]
      refine wpAnyH_take (i := 12) (oi := { dst := some 14, op := Op.move (Operand.tmp 26), type := 32, pos := "more.go:75", after := #[{ on := 11, ground := Ground.data }], guard := none }) (v := ?_) rfl (by kernel_rfl) (by kernel_rfl) (by kernel_rfl) (fun _ _ _ h => h) (Or.inl ⟨by rfl, ?_⟩) (by assumption) ?_
      rotate_left
      · intro w hSw
        go_simp
        try with_reducible rfl
      try simp only [Act.put, List.setIfInBounds_toArray, List.set_cons_zero, List.set_cons_succ]
      refine wpAnyH_take (i := 13) (oi := { dst := some 27, op := Op.extract (Operand.tmp 14) 0, type := 30, pos := "more.go:75", after := #[{ on := 12, ground := Ground.data }], guard := none }) (v := ?_) rfl (by kernel_rfl) (by kernel_rfl) (by kernel_rfl) (fun _ _ _ h => h) (Or.inl ⟨by rfl, ?_⟩) (by assumption) ?_
      rotate_left
      · intro w hSw
        go_simp
        try with_reducible rfl
      try simp only [Act.put, List.setIfInBounds_toArray, List.set_cons_zero, List.set_cons_succ]
      refine wpAnyH_take (i := 14) (oi := { dst := some 28, op := Op.extract (Operand.tmp 14) 1, type := 3, pos := "more.go:75", after := #[{ on := 12, ground := Ground.data }, { on := 17, ground := Ground.gcOnly Departure.lateStores }], guard := none }) (v := ?_) rfl (by kernel_rfl) (by kernel_rfl) (by kernel_rfl) (fun _ _ _ h => h) (Or.inl ⟨by rfl, ?_⟩) (by assumption) ?_
      rotate_left
      · intro w hSw
        go_simp
        try with_reducible rfl
      try simp only [Act.put, List.setIfInBounds_toArray, List.set_cons_zero, List.set_cons_succ]
      refine wpAnyH_take (i := 15) (oi := { dst := some 29, op := Op.extract (Operand.tmp 14) 2, type := 31, pos := "more.go:75", after := #[{ on := 12, ground := Ground.data }, { on := 18, ground := Ground.gcOnly Departure.lateStores }], guard := none }) (v := ?_) rfl (by kernel_rfl) (by kernel_rfl) (by kernel_rfl) (fun _ _ _ h => h) (Or.inl ⟨by rfl, ?_⟩) (by assumption) ?_
      rotate_left
      · intro w hSw
        go_simp
        try with_reducible rfl
      try simp only [Act.put, List.setIfInBounds_toArray, List.set_cons_zero, List.set_cons_succ]
      obtain ⟨hbc, hbf, -⟩ := (unhide BC53).facts
      refine wpAnyH_ready (rs := [17]) (by kernel_rfl) (by simp) ?_
      refine AllReadyH.cons (o := { dst := none, op := Op.store 30 (Operand.tmp 6) (Operand.tmp 27), type := 0, pos := "more.go:75", after := #[{ on := 16, ground := Ground.data }, { on := 13, ground := Ground.data }, { on := 11, ground := Ground.chain }, { on := 0, ground := Ground.phase }, { on := 1, ground := Ground.phase }, { on := 2, ground := Ground.phase }, { on := 3, ground := Ground.phase }, { on := 4, ground := Ground.phase }, { on := 5, ground := Ground.phase }, { on := 6, ground := Ground.phase }, { on := 7, ground := Ground.phase }, { on := 8, ground := Ground.phase }, { on := 9, ground := Ground.phase }, { on := 10, ground := Ground.phase }, { on := 11, ground := Ground.phase }, { on := 12, ground := Ground.phase }, { on := 13, ground := Ground.phase }, { on := 14, ground := Ground.textOnly Departure.lateStores }, { on := 15, ground := Ground.textOnly Departure.lateStores }, { on := 16, ground := Ground.phase }], guard := none }) rfl (fun K hK => ?_) AllReadyH.nil
      go_simp
      refine hK.out _ _ ?_ (fun hHeld => ?_)
      · exact (set5_cell (Nat.ne_of_lt (unhide SL)) _ _ _ _ _ _).trans (unhide SC53)
      clear hK K hbc hbf
      try simp only [Act.put, List.setIfInBounds_toArray, List.set_cons_zero, List.set_cons_succ]
      refine wpAnyH_take (i := 18) (oi := { dst := some 7, op := Op.assign (Operand.tmp 28), type := 3, pos := "more.go:75", after := #[{ on := 14, ground := Ground.data }, { on := 17, ground := Ground.chain }, { on := 0, ground := Ground.phase }, { on := 1, ground := Ground.phase }, { on := 2, ground := Ground.phase }, { on := 3, ground := Ground.phase }, { on := 4, ground := Ground.phase }, { on := 5, ground := Ground.phase }, { on := 6, ground := Ground.phase }, { on := 7, ground := Ground.phase }, { on := 8, ground := Ground.phase }, { on := 9, ground := Ground.phase }, { on := 10, ground := Ground.phase }, { on := 11, ground := Ground.phase }, { on := 12, ground := Ground.phase }, { on := 13, ground := Ground.phase }, { on := 14, ground := Ground.phase }, { on := 15, ground := Ground.textOnly Departure.lateStores }, { on := 16, ground := Ground.phase }, { on := 17, ground := Ground.phase }], guard := none }) (v := ?_) rfl (by kernel_rfl) (by kernel_rfl) (by kernel_rfl) (fun _ _ _ h => h) (Or.inl ⟨by rfl, ?_⟩) (by assumption) ?_
      rotate_left
      · intro w hSw
        go_simp
        try with_reducible rfl
      try simp only [Act.put, List.setIfInBounds_toArray, List.set_cons_zero, List.set_cons_succ]
      refine wpAnyH_take (i := 19) (oi := { dst := some 8, op := Op.assign (Operand.tmp 29), type := 31, pos := "more.go:75", after := #[{ on := 15, ground := Ground.data }, { on := 18, ground := Ground.chain }, { on := 0, ground := Ground.phase }, { on := 1, ground := Ground.phase }, { on := 2, ground := Ground.phase }, { on := 3, ground := Ground.phase }, { on := 4, ground := Ground.phase }, { on := 5, ground := Ground.phase }, { on := 6, ground := Ground.phase }, { on := 7, ground := Ground.phase }, { on := 8, ground := Ground.phase }, { on := 9, ground := Ground.phase }, { on := 10, ground := Ground.phase }, { on := 11, ground := Ground.phase }, { on := 12, ground := Ground.phase }, { on := 13, ground := Ground.phase }, { on := 14, ground := Ground.phase }, { on := 15, ground := Ground.phase }, { on := 16, ground := Ground.phase }, { on := 17, ground := Ground.phase }, { on := 18, ground := Ground.phase }], guard := none }) (v := ?_) rfl (by kernel_rfl) (by kernel_rfl) (by kernel_rfl) (fun _ _ _ h => h) (Or.inl ⟨by rfl, ?_⟩) (by assumption) ?_
      rotate_left
      · intro w hSw
        go_simp
        try with_reducible rfl
      try simp only [Act.put, List.setIfInBounds_toArray, List.set_cons_zero, List.set_cons_succ]
      refine wpAnyH_done (by kernel_rfl) ?_ _
      have HF := hide (ModIn.stored (unhide KC53) (unhide VA37) (unhide BC53) (unhide MH53) (unhide MB53))
      exact HC _ _ _ _ _ _ _ _ (unhide HF)
  · intro w1 V A2 c2 A3 c3 A4 c4 hm
    have hcase := unhide HX
    skip
    have HM := hide hm.at_
    have hb0 := hm.2.1
    have HB0 := hide hb0
    clear hm hb0
    rcases hcase with ⟨hx, hnl, rfl, rfl⟩ | ⟨hx, hnl, rfl⟩
    · have hl0 : md.nodes.length = 0 := by rw [hnl]; rfl
      have hx2 : (decide (v < 0) || decide (268435456 < v)) = true := by simpa using hx
      have HX2 := hide hx2
      clear hx2
      rw [hl0] at HB0
      clear hnl hl0
      rcases Int.lt_or_le v 0 with hv0 | hv0
      · go_wp2_with fail
        refine (unhide HA _ (unhide HM).1).mono ?_
        rintro e w2 ⟨rfl, hk2⟩
        have HK2 := hide ((unhide HM).1.trans hk2)
        obtain ⟨htc, htf, -⟩ := ((unhide HB0).keeps hk2).facts
        clear hk2
        go_wp2_with fail
        refine (unhide HME _).mono ?_
        rintro e w' ⟨rfl, rfl⟩
        go_wp2
        go_ret
        exact ⟨rfl, unhide HK2⟩
      · have hv1 : ¬ v < 0 := by omega
        have hv2 : 268435456 < v := by omega
        go_wp2_with fail
        refine (unhide HA _ (unhide HM).1).mono ?_
        rintro e w2 ⟨rfl, hk2⟩
        have HK2 := hide ((unhide HM).1.trans hk2)
        obtain ⟨htc, htf, -⟩ := ((unhide HB0).keeps hk2).facts
        clear hk2
        go_wp2_with fail
        refine (unhide HME _).mono ?_
        rintro e w' ⟨rfl, rfl⟩
        go_wp2
        go_ret
        exact ⟨rfl, unhide HK2⟩
    · have hv1 : ¬ v < 0 := by omega
      have hv2 : ¬ 268435456 < v := by omega
      clear HB0
      go_wp2_with fail
      refine (unhide HA _ (unhide HM).1).mono ?_
      rintro e w2 ⟨rfl, hk2⟩
      have HM2 := hide ((unhide HM).keeps hk2)
      have hnn : md.nodes[0]? = some ({ kind := 4, mHas := true, mNum := v, mMode := 2 } : NodeV) := by rw [hnl]; rfl
      obtain ⟨B2, d2, B3, d3, R, c, vi, vf, hb, hR, hc⟩ := (unhide HM2).node hnn
      have h2 : w2.cell? ⟨R, 2, none⟩ = some (.bool true) := hc 2 _ (by decide) rfl
      have h3 : w2.cell? ⟨R, 3, none⟩ = some (.int .i64 v) := hc 3 _ (by decide) rfl
      have h4 : w2.cell? ⟨R, 4, none⟩ = some (.int .i64 2) := hc 4 _ (by decide) rfl
      have hl1 : md.nodes.length = 1 := by rw [hnl]; rfl
      rw [hl1] at hb
      have hk2' := hide hk2
      obtain ⟨htc, htf, -⟩ := hb.facts
      have HK2 := hide (unhide HM2).1
      have hwv := unhide HWV
      clear hk2 hk2' hc hnn hl1 hnl HM HM2 hb HX
      go_wp2
      go_ret
      exact ⟨rfl, unhide HK2⟩
theorem syntaxMarks_any {w : World} (hL : LexW w) (v n : Int) (h0 : -9223372036854775808 ≤ v) (h1 : v ≤ 9223372036854775807) : Calls Tryd.prog 6 #[.int .i64 v, .int .i64 n] w fun e w' => e = .returned (.bool true) ∧ Keeps w w' := by
  obtain ⟨m, hm3, hm⟩ := mod_nat n 3 (by decide) (by decide)
  have hm' : wrap64 ((IntKind.u64.wrap n).tmod 3) = (m : Int) := hm
  rcases (show m = 0 ∨ m = 1 ∨ m = 2 by omega) with rfl | rfl | rfl
  · exact syntaxMarks_0 hL v n h0 h1 hm'
  · exact syntaxMarks_1 hL v n h0 h1 hm'
  · exact syntaxMarks_2 hL v n h0 h1 hm'
end Go.Proofs.YtckcbgijddglpaaDoor
