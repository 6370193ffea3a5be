/- The walk of TlvBack. -/
import Derived.Test.YtpogpjnbgdbpfaaTlvIs
import Derived.Test.YtpogpjnbgdbpfaaTlvCut1
import Derived.Test.YtpogpjnbgdbpfaaBack
namespace Go.Proofs.Ytpogpjnbgdbpfaa
open Go.ChangeShapes Go.WideShapes Go.ChangeAt Go.RowKit

/-- What the last region of TlvBack finds, in whatever order. -/
def BackS (w0 : World) (gt : Nat) (w' : World) : Prop := gt < w'.heap.size ∧ Keeps w0 w'
theorem BackS.k {w0 w' : World} {gt : Nat} (h : BackS w0 gt w') : Keeps w0 w' := h.2
theorem back_step {w0 w w' : World} {gt : Nat} {u v : Value} (h : w.cell? ⟨gt, 0, none⟩ = some u ∧ w.cell? ⟨gt, 1, none⟩ = some v ∧ BackS w0 gt w) (hk : Keeps w w') :
    w'.cell? ⟨gt, 0, none⟩ = some u ∧ w'.cell? ⟨gt, 1, none⟩ = some v ∧ BackS w0 gt w' := by
  obtain ⟨h1, h2, h4, h7⟩ := h
  exact ⟨(Below.cell (p := ⟨gt, 0, none⟩) hk h4).trans h1, (Below.cell (p := ⟨gt, 1, none⟩) hk h4).trans h2, Nat.lt_of_lt_of_le h4 hk.size, h7.trans hk⟩

set_option maxRecDepth 100000 in
set_option maxHeartbeats 2000000 in
theorem back3_any (cls num : Int) (made : Bool) (A B C : Option Addr) (xs ys zs : List Int) (c d f : Nat) (hx : B8 xs) (hy : B8 ys) (hz : B8 zs) (hl : xs.length ≤ maxLen) (hl2 : ys.length ≤ maxLen) (hl3 : zs.length ≤ maxLen) (hcz : zs.length ≤ f) (hn1 : num ≤ 9223372036854775807) (w : World) (hhA : Holds w A xs) (hhB : Holds w B ys) (hhC : Holds w C zs) :
    Calls Try.prog 12 #[tagV cls num, .bool made, .slice A xs.length c, .slice B ys.length d, .slice C zs.length f] w fun e w' => e = .returned (.bool true) ∧ Keeps w w' := by
  unfold maxLen at hl hl2 hl3
  obtain ⟨i0, hi0, hz0, hz1, hz2⟩ := info_parts u8_info
  by_cases hbad : 1000 < xs.length ∨ 300 < ys.length ∨ 300 < zs.length ∨ num < 0 ∨ 268435456 < num
  · clear hhA hhB hhC hx hy hz
    generalize xs.length = n at *
    generalize ys.length = n2 at *
    generalize zs.length = n3 at *
    rcases hbad with hb | hb | hb | hb | hb
    all_goals
      go_enter Try.func12, Try.ntmps12
      go_wp2_with fail
      all_goals first
        | (exfalso; omega)
        | (refine (awake03_any _).mono ?_
           rintro e w1 ⟨rfl, hk1⟩
           have HK1 := hide (((Keeps.refl w).alloc _).trans hk1)
           clear hk1
           go_wp2
           go_ret
           exact ⟨rfl, unhide HK1⟩)
  · have h1 : xs.length ≤ 1000 := by omega
    have h2 : 0 ≤ num := by omega
    have h3 : num ≤ 268435456 := by omega
    have h4 : ys.length ≤ 300 := by omega
    have h5 : zs.length ≤ 300 := by omega
    clear hbad
    have hand := i64_and3 cls
    obtain ⟨hel1, hel2, _⟩ := eOct_len (cls % 4) num made xs
    have hre : ((eOct (cls % 4) num made xs).map (Value.int .u8)).length = _ := List.length_map _
    have HEB := hide (eOct_bytes (cls % 4) num made xs hx)
    have hback := takeF_back (cls % 4) num made xs ys h2 h3 (by omega)
    rw [show cls % 4 % 4 = cls % 4 from by omega] at hback
    have HBACK := hide hback
    clear hback hre
    have HA := hide hhA
    have HB := hide hhB
    have HC := hide hhC
    have HX := hide hx
    have HY := hide hy
    have HZ := hide hz
    clear hhA hhB hhC hx hy hz
    generalize hln : xs.length = n at *
    have HLN := hide hln
    generalize hln2 : ys.length = n2 at *
    have HLN2 := hide hln2
    generalize hln3 : zs.length = n3 at *
    have HLN3 := hide hln3
    clear hln hln2 hln3
    go_enter Try.func12, Try.ntmps12
    go_wp2_with fail
    refine (elem_single _ A xs c n _ (cls % 4) num made hn1 (size_alloc1 _ _) (unhide HLN) (by omega) ((unhide HA).keeps ((Keeps.refl w).alloc _)) (unhide HX)).mono ?_
    rintro e w1 ⟨D, g, rfl, hd, hhD, hk1⟩
    have hcp := copy_any D (eOct (cls % 4) num made xs) g (by omega) w1 hhD
    have hbox := (Blk.new w 52 #[.int .i64 (cls % 4), .int .i64 num]).keeps hk1
    have HBOX := hide hbox
    have HK1 := hide (((Keeps.refl w).alloc _).trans hk1)
    have HD := hide hhD
    clear hk1 hhD hbox
    have HCP := hide hcp
    clear hcp
    generalize heln : (eOct (cls % 4) num made xs).length = m at *
    have HEL := hide heln
    clear heln
    go_wp2_with fail
    refine (unhide HCP).mono ?_
    rintro e w2 ⟨E, h, rfl, hh, hf⟩
    rw [unhide HEL] at hf hh ⊢
    have hown := hf.1
    rw [unhide HEL] at hown
    have hrd := ((unhide HB).keeps ((unhide HK1).trans hf.2))
    unfold Holds at hrd
    rw [unhide HLN2] at hrd
    have HK2 := hide ((unhide HK1).trans hf.2)
    have HBOX2 := hide ((unhide HBOX).keeps hf.2)
    have HSZ := hide hf.2.size
    clear hf
    go_wp2_with (first | (at_builtin; refine wpList_append_any _ rfl (.tmp 57) (.tmp 58) _ rfl w1.heap.size 5 i0 _ 1 1 Try.underlying24 hi0 hz0 hz1 hz2 rfl (by omega) _ m _ rfl hown _ _ n2 d _ rfl hrd (ints_oneCell _ _) (by simp only [maxLen]; omega) (by omega) (unhide HSZ) ?_; intro v' w3 hown3 hg3 _hat3; rw [← unhide HEL, ← unhide HLN2] at hown3; obtain ⟨F, i, rfl, hfi, hF⟩ := append_held hown3; rw [List.length_append, unhide HEL, unhide HLN2] at hfi ⊢) | fail)
    have hrow : ∀ k, (Value.slice E m h).ownBlock = some k → w1.heap.size ≤ k := fun k hk => (hown.lt k hk).1
    have HK3 := hide ((unhide HK2).grown hg3 fun k hk => Nat.le_trans (unhide HK1).size (hrow k hk))
    have HBOX3 := hide ((unhide HBOX2).grown hg3 (fun hk => by have h1 := hrow _ hk.symm; have h2 := (unhide HBOX).lt; omega))
    have hap : (eOct (cls % 4) num made xs ++ ys).length = m + n2 := by rw [List.length_append, unhide HEL, unhide HLN2]
    have htk := take_any F (eOct (cls % 4) num made xs ++ ys) i (fun x hx => (List.mem_append.1 hx).elim (unhide HEB x) (unhide HY x)) (by rw [hap]; unfold maxLen; omega) (by rw [hap]; exact hfi) w3 hF
    rw [unhide HBACK, hap] at htk
    have HTK := hide htk
    clear hrow htk hap hown hown3 hg3 _hat3 hF hrd
    with_reducible refine (unhide HTK).mono ?_
    rintro e w4 ⟨G, j, rfl, hgj, hG, _, hk4⟩
    simp only at hgj hG
    simp only [unhide HLN] at hgj ⊢
    have HK4 := hide ((unhide HK3).trans hk4)
    have HBOX4 := hide ((unhide HBOX3).keeps hk4)
    have HG := hide hG
    clear hk4 hG
    go_wp2_with fail
    refine (awake03_any _).mono ?_
    rintro e w5 ⟨rfl, hk5⟩
    have hbx := (((unhide HBOX4).alloc (.cells #[.int .i64 (cls % 4), .int .i64 num] 52)).keeps hk5)
    have htg := (Blk.new w4 52 #[.int .i64 (cls % 4), .int .i64 num]).keeps hk5
    obtain ⟨hbc, hbf, hbl⟩ := hbx.facts
    obtain ⟨htc, htf, htl⟩ := htg.facts
    have hb0 : w5.cell? ⟨w.heap.size, 0, none⟩ = some (.int .i64 (cls % 4)) := hbc 0
    have hb1 : w5.cell? ⟨w.heap.size, 1, none⟩ = some (.int .i64 num) := hbc 1
    have ht0 : w5.cell? ⟨w4.heap.size, 0, none⟩ = some (.int .i64 (cls % 4)) := htc 0
    have ht1 : w5.cell? ⟨w4.heap.size, 1, none⟩ = some (.int .i64 num) := htc 1
    have HK5 := hide (((unhide HK4).alloc _).trans hk5)
    have hsb := sameBytes_any G A xs xs j c w5 ((unhide HG).keeps (((Keeps.refl _).alloc _).trans hk5)) ((unhide HA).keeps (unhide HK5)) (unhide HX) (unhide HX)
    rw [unhide HLN, decide_eq_true rfl] at hsb
    have HSB := hide hsb
    clear hbx htg hk5 hsb
    go_wp2_with fail
    with_reducible refine (unhide HSB).mono ?_
    rintro e w6 ⟨rfl, rfl⟩
    have htk2 := takeHead_any C zs f (unhide HZ) (by unfold maxLen; rw [unhide HLN3]; omega) (by rw [unhide HLN3]; omega) w5 ((unhide HC).keeps (unhide HK5))
    rw [unhide HLN3] at htk2
    clear hbc hbf hbl htc htf htl hb0 hb1 ht0 ht1
    by_cases hfe : (takeHeadF zs).2.2.2.2 = 0
    · have his := takeHeadF_is (unhide HZ) hfe
      obtain ⟨k2, l2, hk2, hl2, hk3, hk4, hl3, hn2, hn3, hoct⟩ := his
      rw [unhide HLN3] at hk4
      generalize takeHeadF zs = r at *
      obtain ⟨⟨cl, nu⟩, mm, ll, k, e⟩ := r
      simp only at hfe hk2 hl2 hn2 hn3 hoct
      subst hfe
      subst hk2
      subst hl2
      have eg1 : decide ((2 : Int) ≤ (k2 : Int)) = true := decide_eq_true (by omega)
      have eg2 : decide ((k2 : Int) ≤ (n3 : Int)) = true := decide_eq_true (by omega)
      have eg3 : (k2 : Int) ≤ f := by omega
      have eg4 : (0 : Int) ≤ k2 := by omega
      have eg5 : ((k2 : Int)).toNat = k2 := by omega
      unfold headE at htk2
      have HTK2 := hide htk2
      have HOCT := hide hoct
      clear htk2 hoct
      go_wp2_with fail
      with_reducible refine (unhide HTK2).mono ?_
      rintro e w7 ⟨rfl, hk7⟩
      have HK7 := hide ((unhide HK5).trans hk7)
      clear hk7
      have HS0 := hide (show ((w7.alloc (.cells #[.int .i64 cl, .int .i64 nu] 52)).drew).cell? ⟨w7.heap.size, 0, none⟩ = some (.int .i64 cl) ∧ ((w7.alloc (.cells #[.int .i64 cl, .int .i64 nu] 52)).drew).cell? ⟨w7.heap.size, 1, none⟩ = some (.int .i64 nu) ∧ BackS w w7.heap.size (w7.alloc (.cells #[.int .i64 cl, .int .i64 nu] 52)).drew from
        ⟨(Blk.new w7 52 #[.int .i64 cl, .int .i64 nu]).drew.cell 0, (Blk.new w7 52 #[.int .i64 cl, .int .i64 nu]).drew.cell 1, by show _ < (w7.alloc _).heap.size; rw [size_alloc1]; omega, ((unhide HK7).alloc _).drew⟩)
      have HTAK := hide (show (zs.take k2).length = k2 from by rw [List.length_take, unhide HLN3]; omega)
      have HSB2 : Hid (∀ (Z : Option Addr) (z : Nat) (w' : World), Holds w' Z (zs.take k2) → Holds w' C (zs.take k2) → Calls Try.prog 18 #[.slice Z k2 z, .slice C k2 f] w' fun e w'' => e = .returned (.bool true) ∧ w' = w'') := fun Z z w' h1 h2 => by
        have hb : Bytes8 (zs.take k2) := fun x hx => unhide HZ x (List.mem_of_mem_take hx)
        have := sameBytes_any Z C (zs.take k2) (zs.take k2) z f w' h1 h2 hb hb
        rwa [unhide HTAK, decide_eq_true rfl] at this
      have HHD : Hid (∀ w', Calls Try.prog 39 #[.agg #[.int .i64 cl, .int .i64 nu], .bool mm, .int .i64 (l2 : Nat)] w' fun e w'' => ∃ Z z, e = .returned (.slice Z k2 z) ∧ Holds w'' Z (zs.take k2) ∧ Keeps w' w'') := fun w' => by
        have := head_any cl nu (l2 : Nat) mm (by omega) (by omega) w'
        rw [show max nu 0 = nu from by omega, show max ((l2 : Nat) : Int) 0 = (l2 : Nat) from by omega, unhide HOCT] at this
        refine this.mono ?_
        rintro e w'' ⟨Z, z, rfl, _, h2, h3⟩
        exact ⟨Z, z, by rw [unhide HTAK], h2, h3⟩
      go_wp2
      refine wp_region_held_drew (S := fun w' => w'.cell? ⟨w7.heap.size, 0, none⟩ = some (.int .i64 cl) ∧ w'.cell? ⟨w7.heap.size, 1, none⟩ = some (.int .i64 nu) ∧ BackS w w7.heap.size w') (by kernel_rfl) ?_ (fun hHeld => ?_)
      · exact unhide HS0
      refine wpAnyH_take (i := 0) (oi := { dst := some 102, op := Op.move (Operand.tmp 21), type := 34, pos := "law.go:62", after := #[], guard := none }) (v := ?_) rfl (by kernel_rfl) (by kernel_rfl) (by kernel_rfl) (fun _ _ _ h => h) (Or.inl ⟨by rfl, ?_⟩) (by assumption) ?_
      rotate_left
      · intro w hSw
        go_simp
        try with_reducible rfl
      try simp only [Act.put, List.setIfInBounds_toArray, List.set_cons_zero, List.set_cons_succ]
      refine wpAnyH_take (i := 1) (oi := { dst := some 103, op := Op.binOp BinOp.neq 34 (Operand.tmp 102) (Operand.const (Value.int IntKind.i64 0)) 34, type := 4, pos := "law.go:62", after := #[{ on := 0, ground := Ground.data }], guard := none }) (v := ?_) rfl (by kernel_rfl) (by kernel_rfl) (by kernel_rfl) (fun _ _ _ h => h) (Or.inl ⟨by rfl, ?_⟩) (by assumption) ?_
      rotate_left
      · intro w hSw
        go_simp
        try with_reducible rfl
      try simp only [Act.put, List.setIfInBounds_toArray, List.set_cons_zero, List.set_cons_succ]
      refine wpAnyH_take (i := 2) (oi := { dst := some 104, op := Op.move (Operand.tmp 103), type := 4, pos := "law.go:62", after := #[{ on := 1, ground := Ground.data }], guard := none }) (v := ?_) rfl (by kernel_rfl) (by kernel_rfl) (by kernel_rfl) (fun _ _ _ h => h) (Or.inl ⟨by rfl, ?_⟩) (by assumption) ?_
      rotate_left
      · intro w hSw
        go_simp
        try with_reducible rfl
      try simp only [Act.put, List.setIfInBounds_toArray, List.set_cons_zero, List.set_cons_succ]
      refine wpAnyH_take (i := 3) (oi := { dst := some 105, op := Op.move (Operand.tmp 20), type := 3, pos := "law.go:62", after := #[{ on := 2, ground := Ground.guard }], guard := some (2, false) }) (v := ?_) rfl (by kernel_rfl) (by kernel_rfl) (by kernel_rfl) (fun _ _ _ h => h) (Or.inl ⟨by rfl, ?_⟩) (by assumption) ?_
      rotate_left
      · intro w hSw
        go_simp
        try with_reducible rfl
      try simp only [Act.put, List.setIfInBounds_toArray, List.set_cons_zero, List.set_cons_succ]
      refine wpAnyH_take (i := 4) (oi := { dst := some 106, op := Op.binOp BinOp.geq 3 (Operand.tmp 105) (Operand.const (Value.int IntKind.i64 2)) 3, type := 4, pos := "law.go:62", after := #[{ on := 3, ground := Ground.data }, { on := 2, ground := Ground.guard }], guard := some (2, false) }) (v := ?_) rfl (by kernel_rfl) (by kernel_rfl) (by kernel_rfl) (fun _ _ _ h => h) (Or.inl ⟨by rfl, ?_⟩) (by assumption) ?_
      rotate_left
      · intro w hSw
        go_simp
        try with_reducible rfl
      try simp only [Act.put, List.setIfInBounds_toArray, List.set_cons_zero, List.set_cons_succ]
      refine wpAnyH_take (i := 5) (oi := { dst := some 107, op := Op.move (Operand.tmp 106), type := 4, pos := "law.go:62", after := #[{ on := 4, ground := Ground.data }, { on := 2, ground := Ground.chain }, { on := 2, ground := Ground.guard }], guard := some (2, false) }) (v := ?_) rfl (by kernel_rfl) (by kernel_rfl) (by kernel_rfl) (fun _ _ _ h => h) (Or.inl ⟨by rfl, ?_⟩) (by assumption) ?_
      rotate_left
      · intro w hSw
        go_simp
        try with_reducible rfl
      try simp only [Act.put, List.setIfInBounds_toArray, List.set_cons_zero, List.set_cons_succ]
      refine wpAnyH_take (i := 6) (oi := { dst := some 108, op := Op.move (Operand.tmp 20), type := 3, pos := "law.go:62", after := #[{ on := 5, ground := Ground.guard }], guard := some (5, true) }) (v := ?_) rfl (by kernel_rfl) (by kernel_rfl) (by kernel_rfl) (fun _ _ _ h => h) (Or.inl ⟨by rfl, ?_⟩) (by assumption) ?_
      rotate_left
      · intro w hSw
        go_simp
        try with_reducible rfl
      try simp only [Act.put, List.setIfInBounds_toArray, List.set_cons_zero, List.set_cons_succ]
      refine wpAnyH_take (i := 7) (oi := { dst := some 109, op := Op.move (Operand.tmp 4), type := 24, pos := "law.go:62", after := #[{ on := 5, ground := Ground.guard }], guard := some (5, true) }) (v := ?_) rfl (by kernel_rfl) (by kernel_rfl) (by kernel_rfl) (fun _ _ _ h => h) (Or.inl ⟨by rfl, ?_⟩) (by assumption) ?_
      rotate_left
      · intro w hSw
        go_simp
        try with_reducible rfl
      try simp only [Act.put, List.setIfInBounds_toArray, List.set_cons_zero, List.set_cons_succ]
      refine wpAnyH_take (i := 8) (oi := { dst := some 110, op := Op.call { callee := Callee.builtin Builtin.len, args := #[Operand.tmp 109], argTypes := #[24] }, type := 3, pos := "law.go:62", after := #[{ on := 7, ground := Ground.data }, { on := 5, ground := Ground.guard }], guard := some (5, true) }) (v := ?_) rfl (by kernel_rfl) (by kernel_rfl) (by kernel_rfl) (fun _ _ _ h => h) (Or.inl ⟨by rfl, ?_⟩) (by assumption) ?_
      rotate_left
      · intro w hSw
        go_simp
        try with_reducible rfl
      try simp only [Act.put, List.setIfInBounds_toArray, List.set_cons_zero, List.set_cons_succ]
      refine wpAnyH_take (i := 9) (oi := { dst := some 111, op := Op.binOp BinOp.leq 3 (Operand.tmp 108) (Operand.tmp 110) 3, type := 4, pos := "law.go:62", after := #[{ on := 6, ground := Ground.data }, { on := 8, ground := Ground.data }, { on := 5, ground := Ground.guard }], guard := some (5, true) }) (v := ?_) rfl (by kernel_rfl) (by kernel_rfl) (by kernel_rfl) (fun _ _ _ h => h) (Or.inl ⟨by rfl, ?_⟩) (by assumption) ?_
      rotate_left
      · intro w hSw
        go_simp
        try with_reducible rfl
      try simp only [Act.put, List.setIfInBounds_toArray, List.set_cons_zero, List.set_cons_succ]
      refine wpAnyH_take (i := 10) (oi := { dst := some 112, op := Op.pick (Operand.tmp 107) (Operand.tmp 111) (Operand.const (Value.bool false)), type := 4, pos := "law.go:62", after := #[{ on := 5, ground := Ground.data }, { on := 9, ground := Ground.data }, { on := 2, ground := Ground.guard }], guard := some (2, false) }) (v := ?_) rfl (by kernel_rfl) (by kernel_rfl) (by kernel_rfl) (fun _ _ _ h => h) (Or.inl ⟨by rfl, ?_⟩) (by assumption) ?_
      rotate_left
      · intro w hSw
        go_simp
        try with_reducible rfl
      try simp only [Act.put, List.setIfInBounds_toArray, List.set_cons_zero, List.set_cons_succ]
      refine wpAnyH_take (i := 11) (oi := { dst := some 113, op := Op.move (Operand.tmp 112), type := 4, pos := "law.go:62", after := #[{ on := 10, ground := Ground.data }, { on := 5, ground := Ground.chain }, { on := 2, ground := Ground.guard }], guard := some (2, false) }) (v := ?_) rfl (by kernel_rfl) (by kernel_rfl) (by kernel_rfl) (fun _ _ _ h => h) (Or.inl ⟨by rfl, ?_⟩) (by assumption) ?_
      rotate_left
      · intro w hSw
        go_simp
        try with_reducible rfl
      try simp only [Act.put, List.setIfInBounds_toArray, List.set_cons_zero, List.set_cons_succ]
      refine wpAnyH_take (i := 12) (oi := { dst := some 114, op := Op.load 52 (Operand.tmp 17), type := 52, pos := "law.go:62", after := #[{ on := 11, ground := Ground.guard }], guard := some (11, true) }) (v := ?_) rfl (by kernel_rfl) (by kernel_rfl) (by kernel_rfl) (fun _ _ _ h => h) (Or.inl ⟨by rfl, ?_⟩) (by assumption) ?_
      rotate_left
      · intro w hSw
        go_simp
        try with_reducible rfl
      try simp only [Act.put, List.setIfInBounds_toArray, List.set_cons_zero, List.set_cons_succ]
      refine wpAnyH_take (i := 13) (oi := { dst := some 115, op := Op.move (Operand.tmp 18), type := 4, pos := "law.go:62", after := #[{ on := 11, ground := Ground.guard }], guard := some (11, true) }) (v := ?_) rfl (by kernel_rfl) (by kernel_rfl) (by kernel_rfl) (fun _ _ _ h => h) (Or.inl ⟨by rfl, ?_⟩) (by assumption) ?_
      rotate_left
      · intro w hSw
        go_simp
        try with_reducible rfl
      try simp only [Act.put, List.setIfInBounds_toArray, List.set_cons_zero, List.set_cons_succ]
      refine wpAnyH_take (i := 14) (oi := { dst := some 116, op := Op.move (Operand.tmp 19), type := 3, pos := "law.go:62", after := #[{ on := 11, ground := Ground.guard }], guard := some (11, true) }) (v := ?_) rfl (by kernel_rfl) (by kernel_rfl) (by kernel_rfl) (fun _ _ _ h => h) (Or.inl ⟨by rfl, ?_⟩) (by assumption) ?_
      rotate_left
      · intro w hSw
        go_simp
        try with_reducible rfl
      try simp only [Act.put, List.setIfInBounds_toArray, List.set_cons_zero, List.set_cons_succ]
      refine wpAnyH_take (i := 16) (oi := { dst := some 118, op := Op.move (Operand.tmp 4), type := 24, pos := "law.go:62", after := #[{ on := 11, ground := Ground.guard }], guard := some (11, true) }) (v := ?_) rfl (by kernel_rfl) (by kernel_rfl) (by kernel_rfl) (fun _ _ _ h => h) (Or.inl ⟨by rfl, ?_⟩) (by assumption) ?_
      rotate_left
      · intro w hSw
        go_simp
        try with_reducible rfl
      try simp only [Act.put, List.setIfInBounds_toArray, List.set_cons_zero, List.set_cons_succ]
      refine wpAnyH_take (i := 17) (oi := { dst := some 119, op := Op.move (Operand.tmp 20), type := 3, pos := "law.go:62", after := #[{ on := 11, ground := Ground.guard }], guard := some (11, true) }) (v := ?_) rfl (by kernel_rfl) (by kernel_rfl) (by kernel_rfl) (fun _ _ _ h => h) (Or.inl ⟨by rfl, ?_⟩) (by assumption) ?_
      rotate_left
      · intro w hSw
        go_simp
        try with_reducible rfl
      try simp only [Act.put, List.setIfInBounds_toArray, List.set_cons_zero, List.set_cons_succ]
      refine wpAnyH_take (i := 18) (oi := { dst := some 120, op := Op.slice 24 (Operand.tmp 118) none (some (Operand.tmp 119)) none, type := 24, pos := "law.go:62", after := #[{ on := 16, ground := Ground.data }, { on := 17, ground := Ground.data }, { on := 11, ground := Ground.guard }], guard := some (11, true) }) (v := ?_) rfl (by kernel_rfl) (by kernel_rfl) (by kernel_rfl) (fun _ _ _ h => h) (Or.inl ⟨by rfl, ?_⟩) (by assumption) ?_
      rotate_left
      · intro w hSw
        go_simp
        try with_reducible rfl
      try simp only [Act.put, List.setIfInBounds_toArray, List.set_cons_zero, List.set_cons_succ]
      refine wpAnyH_ready (rs := [15]) (by kernel_rfl) (by simp) ?_
      refine AllReadyH.cons (o := { dst := some 117, op := Op.call { callee := Callee.value (Operand.func 39), args := #[Operand.tmp 114, Operand.tmp 115, Operand.tmp 116], argTypes := #[52, 4, 3] }, type := 24, pos := "law.go:62", after := #[{ on := 12, ground := Ground.data }, { on := 13, ground := Ground.data }, { on := 14, ground := Ground.data }, { on := 11, ground := Ground.chain }, { on := 11, ground := Ground.guard }], guard := some (11, true) }) rfl (fun K hK => ?_) AllReadyH.nil
      go_simp
      go_at_call 39
      with_reducible refine (unhide HHD _).mono ?_
      rintro e wn ⟨Z, z, rfl, hZ, hkz⟩
      have HZ2 := hide hZ
      clear hZ
      go_wp2_with fail
      refine hK.out _ _ ?_ (fun hHeld => ?_)
      · exact back_step hHeld hkz
      clear hK K
      try simp only [Act.put, List.setIfInBounds_toArray, List.set_cons_zero, List.set_cons_succ]
      refine wpAnyH_ready (rs := [19]) (by kernel_rfl) (by simp) ?_
      refine AllReadyH.cons (o := { dst := some 121, op := Op.call { callee := Callee.value (Operand.func 18), args := #[Operand.tmp 117, Operand.tmp 120], argTypes := #[24, 24] }, type := 4, pos := "law.go:62", after := #[{ on := 15, ground := Ground.data }, { on := 18, ground := Ground.data }, { on := 15, ground := Ground.chain }, { on := 11, ground := Ground.guard }], guard := some (11, true) }) rfl (fun K hK => ?_) AllReadyH.nil
      go_simp
      go_at_call 18
      with_reducible refine (unhide HSB2 Z z _ (unhide HZ2) (((unhide HC).keeps (BackS.k hHeld.2.2)).upto k2)).mono ?_
      rintro e wm ⟨rfl, rfl⟩
      go_wp2_with fail
      refine hK.out _ _ ?_ (fun hHeld => ?_)
      · exact hHeld
      clear hK K
      try simp only [Act.put, List.setIfInBounds_toArray, List.set_cons_zero, List.set_cons_succ]
      refine wpAnyH_take (i := 20) (oi := { dst := some 122, op := Op.pick (Operand.tmp 113) (Operand.tmp 121) (Operand.const (Value.bool false)), type := 4, pos := "law.go:62", after := #[{ on := 11, ground := Ground.data }, { on := 19, ground := Ground.data }, { on := 2, ground := Ground.guard }], guard := some (2, false) }) (v := ?_) rfl (by kernel_rfl) (by kernel_rfl) (by kernel_rfl) (fun _ _ _ h => h) (Or.inl ⟨by rfl, ?_⟩) (by assumption) ?_
      rotate_left
      · intro w hSw
        go_simp
        try with_reducible rfl
      try simp only [Act.put, List.setIfInBounds_toArray, List.set_cons_zero, List.set_cons_succ]
      refine wpAnyH_take (i := 21) (oi := { dst := some 123, op := Op.pick (Operand.tmp 104) (Operand.const (Value.bool true)) (Operand.tmp 122), type := 4, pos := "law.go:62", after := #[{ on := 2, ground := Ground.data }, { on := 20, ground := Ground.data }], guard := none }) (v := ?_) rfl (by kernel_rfl) (by kernel_rfl) (by kernel_rfl) (fun _ _ _ h => h) (Or.inl ⟨by rfl, ?_⟩) (by assumption) ?_
      rotate_left
      · intro w hSw
        go_simp
        try with_reducible rfl
      try simp only [Act.put, List.setIfInBounds_toArray, List.set_cons_zero, List.set_cons_succ]
      refine wpAnyH_take (i := 22) (oi := { dst := some 10, op := Op.assign (Operand.tmp 123), type := 4, pos := "law.go:62", after := #[{ on := 21, ground := Ground.data }, { on := 19, ground := Ground.chain }, { on := 0, ground := Ground.phase }, { on := 1, ground := Ground.phase }, { on := 2, ground := Ground.phase }, { on := 3, ground := Ground.phase }, { on := 4, ground := Ground.phase }, { on := 5, ground := Ground.phase }, { on := 6, ground := Ground.phase }, { on := 7, ground := Ground.phase }, { on := 8, ground := Ground.phase }, { on := 9, ground := Ground.phase }, { on := 10, ground := Ground.phase }, { on := 11, ground := Ground.phase }, { on := 12, ground := Ground.phase }, { on := 13, ground := Ground.phase }, { on := 14, ground := Ground.phase }, { on := 15, ground := Ground.phase }, { on := 16, ground := Ground.phase }, { on := 17, ground := Ground.phase }, { on := 18, ground := Ground.phase }, { on := 19, ground := Ground.phase }, { on := 20, ground := Ground.phase }, { on := 21, ground := Ground.phase }], guard := none }) (v := ?_) rfl (by kernel_rfl) (by kernel_rfl) (by kernel_rfl) (fun _ _ _ h => h) (Or.inl ⟨by rfl, ?_⟩) (by assumption) ?_
      rotate_left
      · intro w hSw
        go_simp
        try with_reducible rfl
      try simp only [Act.put, List.setIfInBounds_toArray, List.set_cons_zero, List.set_cons_succ]
      refine wpAnyH_done (by kernel_rfl) ?_ _
      go_wp2
      go_ret
      exact ⟨rfl, (BackS.k hHeld.2.2)⟩
    · generalize takeHeadF zs = r at *
      obtain ⟨⟨cl, nu⟩, mm, ll, k, e⟩ := r
      simp only at hfe
      unfold headE at htk2
      have e1 : (e != 0) = true := by rw [bne_iff_ne]; exact hfe
      have HTK2 := hide htk2
      clear htk2 hfe
      go_wp2_with fail
      with_reducible refine (unhide HTK2).mono ?_
      rintro e9 w7 ⟨rfl, hk7⟩
      have HK7 := hide ((unhide HK5).trans hk7)
      clear hk7
      go_wp2
      refine wp_region_held_drew (S := fun w' => Keeps w w') (by kernel_rfl) ?_ (fun hHeld => ?_)
      · exact ((unhide HK7).alloc _).drew
      refine wpAnyH_take (i := 0) (oi := { dst := some 102, op := Op.move (Operand.tmp 21), type := 34, pos := "law.go:62", after := #[], guard := none }) (v := ?_) rfl (by kernel_rfl) (by kernel_rfl) (by kernel_rfl) (fun _ _ _ h => h) (Or.inl ⟨by rfl, ?_⟩) (by assumption) ?_
      rotate_left
      · intro w hSw
        go_simp
        try with_reducible rfl
      try simp only [Act.put, List.setIfInBounds_toArray, List.set_cons_zero, List.set_cons_succ]
      refine wpAnyH_take (i := 1) (oi := { dst := some 103, op := Op.binOp BinOp.neq 34 (Operand.tmp 102) (Operand.const (Value.int IntKind.i64 0)) 34, type := 4, pos := "law.go:62", after := #[{ on := 0, ground := Ground.data }], guard := none }) (v := ?_) rfl (by kernel_rfl) (by kernel_rfl) (by kernel_rfl) (fun _ _ _ h => h) (Or.inl ⟨by rfl, ?_⟩) (by assumption) ?_
      rotate_left
      · intro w hSw
        go_simp
        try with_reducible rfl
      try simp only [Act.put, List.setIfInBounds_toArray, List.set_cons_zero, List.set_cons_succ]
      refine wpAnyH_take (i := 2) (oi := { dst := some 104, op := Op.move (Operand.tmp 103), type := 4, pos := "law.go:62", after := #[{ on := 1, ground := Ground.data }], guard := none }) (v := ?_) rfl (by kernel_rfl) (by kernel_rfl) (by kernel_rfl) (fun _ _ _ h => h) (Or.inl ⟨by rfl, ?_⟩) (by assumption) ?_
      rotate_left
      · intro w hSw
        go_simp
        try with_reducible rfl
      try simp only [Act.put, List.setIfInBounds_toArray, List.set_cons_zero, List.set_cons_succ]
      refine wpAnyH_take (i := 3) (oi := { dst := some 105, op := Op.move (Operand.tmp 20), type := 3, pos := "law.go:62", after := #[{ on := 2, ground := Ground.guard }], guard := some (2, false) }) rfl (by kernel_rfl) (by kernel_rfl) (by kernel_rfl) (fun _ _ _ h => h) (Or.inr ⟨by rfl, rfl⟩) (by assumption) ?_
      try simp only [Act.put, List.setIfInBounds_toArray, List.set_cons_zero, List.set_cons_succ]
      refine wpAnyH_take (i := 4) (oi := { dst := some 106, op := Op.binOp BinOp.geq 3 (Operand.tmp 105) (Operand.const (Value.int IntKind.i64 2)) 3, type := 4, pos := "law.go:62", after := #[{ on := 3, ground := Ground.data }, { on := 2, ground := Ground.guard }], guard := some (2, false) }) rfl (by kernel_rfl) (by kernel_rfl) (by kernel_rfl) (fun _ _ _ h => h) (Or.inr ⟨by rfl, rfl⟩) (by assumption) ?_
      try simp only [Act.put, List.setIfInBounds_toArray, List.set_cons_zero, List.set_cons_succ]
      refine wpAnyH_take (i := 5) (oi := { dst := some 107, op := Op.move (Operand.tmp 106), type := 4, pos := "law.go:62", after := #[{ on := 4, ground := Ground.data }, { on := 2, ground := Ground.chain }, { on := 2, ground := Ground.guard }], guard := some (2, false) }) rfl (by kernel_rfl) (by kernel_rfl) (by kernel_rfl) (fun _ _ _ h => h) (Or.inr ⟨by rfl, rfl⟩) (by assumption) ?_
      try simp only [Act.put, List.setIfInBounds_toArray, List.set_cons_zero, List.set_cons_succ]
      refine wpAnyH_take (i := 6) (oi := { dst := some 108, op := Op.move (Operand.tmp 20), type := 3, pos := "law.go:62", after := #[{ on := 5, ground := Ground.guard }], guard := some (5, true) }) rfl (by kernel_rfl) (by kernel_rfl) (by kernel_rfl) (fun _ _ _ h => h) (Or.inr ⟨by rfl, rfl⟩) (by assumption) ?_
      try simp only [Act.put, List.setIfInBounds_toArray, List.set_cons_zero, List.set_cons_succ]
      refine wpAnyH_take (i := 7) (oi := { dst := some 109, op := Op.move (Operand.tmp 4), type := 24, pos := "law.go:62", after := #[{ on := 5, ground := Ground.guard }], guard := some (5, true) }) rfl (by kernel_rfl) (by kernel_rfl) (by kernel_rfl) (fun _ _ _ h => h) (Or.inr ⟨by rfl, rfl⟩) (by assumption) ?_
      try simp only [Act.put, List.setIfInBounds_toArray, List.set_cons_zero, List.set_cons_succ]
      refine wpAnyH_take (i := 8) (oi := { dst := some 110, op := Op.call { callee := Callee.builtin Builtin.len, args := #[Operand.tmp 109], argTypes := #[24] }, type := 3, pos := "law.go:62", after := #[{ on := 7, ground := Ground.data }, { on := 5, ground := Ground.guard }], guard := some (5, true) }) rfl (by kernel_rfl) (by kernel_rfl) (by kernel_rfl) (fun _ _ _ h => h) (Or.inr ⟨by rfl, rfl⟩) (by assumption) ?_
      try simp only [Act.put, List.setIfInBounds_toArray, List.set_cons_zero, List.set_cons_succ]
      refine wpAnyH_take (i := 9) (oi := { dst := some 111, op := Op.binOp BinOp.leq 3 (Operand.tmp 108) (Operand.tmp 110) 3, type := 4, pos := "law.go:62", after := #[{ on := 6, ground := Ground.data }, { on := 8, ground := Ground.data }, { on := 5, ground := Ground.guard }], guard := some (5, true) }) rfl (by kernel_rfl) (by kernel_rfl) (by kernel_rfl) (fun _ _ _ h => h) (Or.inr ⟨by rfl, rfl⟩) (by assumption) ?_
      try simp only [Act.put, List.setIfInBounds_toArray, List.set_cons_zero, List.set_cons_succ]
      refine wpAnyH_take (i := 10) (oi := { dst := some 112, op := Op.pick (Operand.tmp 107) (Operand.tmp 111) (Operand.const (Value.bool false)), type := 4, pos := "law.go:62", after := #[{ on := 5, ground := Ground.data }, { on := 9, ground := Ground.data }, { on := 2, ground := Ground.guard }], guard := some (2, false) }) rfl (by kernel_rfl) (by kernel_rfl) (by kernel_rfl) (fun _ _ _ h => h) (Or.inr ⟨by rfl, rfl⟩) (by assumption) ?_
      try simp only [Act.put, List.setIfInBounds_toArray, List.set_cons_zero, List.set_cons_succ]
      refine wpAnyH_take (i := 11) (oi := { dst := some 113, op := Op.move (Operand.tmp 112), type := 4, pos := "law.go:62", after := #[{ on := 10, ground := Ground.data }, { on := 5, ground := Ground.chain }, { on := 2, ground := Ground.guard }], guard := some (2, false) }) rfl (by kernel_rfl) (by kernel_rfl) (by kernel_rfl) (fun _ _ _ h => h) (Or.inr ⟨by rfl, rfl⟩) (by assumption) ?_
      try simp only [Act.put, List.setIfInBounds_toArray, List.set_cons_zero, List.set_cons_succ]
      refine wpAnyH_take (i := 12) (oi := { dst := some 114, op := Op.load 52 (Operand.tmp 17), type := 52, pos := "law.go:62", after := #[{ on := 11, ground := Ground.guard }], guard := some (11, true) }) rfl (by kernel_rfl) (by kernel_rfl) (by kernel_rfl) (fun _ _ _ h => h) (Or.inr ⟨by rfl, rfl⟩) (by assumption) ?_
      try simp only [Act.put, List.setIfInBounds_toArray, List.set_cons_zero, List.set_cons_succ]
      refine wpAnyH_take (i := 13) (oi := { dst := some 115, op := Op.move (Operand.tmp 18), type := 4, pos := "law.go:62", after := #[{ on := 11, ground := Ground.guard }], guard := some (11, true) }) rfl (by kernel_rfl) (by kernel_rfl) (by kernel_rfl) (fun _ _ _ h => h) (Or.inr ⟨by rfl, rfl⟩) (by assumption) ?_
      try simp only [Act.put, List.setIfInBounds_toArray, List.set_cons_zero, List.set_cons_succ]
      refine wpAnyH_take (i := 14) (oi := { dst := some 116, op := Op.move (Operand.tmp 19), type := 3, pos := "law.go:62", after := #[{ on := 11, ground := Ground.guard }], guard := some (11, true) }) rfl (by kernel_rfl) (by kernel_rfl) (by kernel_rfl) (fun _ _ _ h => h) (Or.inr ⟨by rfl, rfl⟩) (by assumption) ?_
      try simp only [Act.put, List.setIfInBounds_toArray, List.set_cons_zero, List.set_cons_succ]
      refine wpAnyH_take (i := 15) (oi := { dst := some 117, op := Op.call { callee := Callee.value (Operand.func 39), args := #[Operand.tmp 114, Operand.tmp 115, Operand.tmp 116], argTypes := #[52, 4, 3] }, type := 24, pos := "law.go:62", after := #[{ on := 12, ground := Ground.data }, { on := 13, ground := Ground.data }, { on := 14, ground := Ground.data }, { on := 11, ground := Ground.chain }, { on := 11, ground := Ground.guard }], guard := some (11, true) }) rfl (by kernel_rfl) (by kernel_rfl) (by kernel_rfl) (fun _ _ _ h => h) (Or.inr ⟨by rfl, rfl⟩) (by assumption) ?_
      try simp only [Act.put, List.setIfInBounds_toArray, List.set_cons_zero, List.set_cons_succ]
      refine wpAnyH_take (i := 16) (oi := { dst := some 118, op := Op.move (Operand.tmp 4), type := 24, pos := "law.go:62", after := #[{ on := 11, ground := Ground.guard }], guard := some (11, true) }) rfl (by kernel_rfl) (by kernel_rfl) (by kernel_rfl) (fun _ _ _ h => h) (Or.inr ⟨by rfl, rfl⟩) (by assumption) ?_
      try simp only [Act.put, List.setIfInBounds_toArray, List.set_cons_zero, List.set_cons_succ]
      refine wpAnyH_take (i := 17) (oi := { dst := some 119, op := Op.move (Operand.tmp 20), type := 3, pos := "law.go:62", after := #[{ on := 11, ground := Ground.guard }], guard := some (11, true) }) rfl (by kernel_rfl) (by kernel_rfl) (by kernel_rfl) (fun _ _ _ h => h) (Or.inr ⟨by rfl, rfl⟩) (by assumption) ?_
      try simp only [Act.put, List.setIfInBounds_toArray, List.set_cons_zero, List.set_cons_succ]
      refine wpAnyH_take (i := 18) (oi := { dst := some 120, op := Op.slice 24 (Operand.tmp 118) none (some (Operand.tmp 119)) none, type := 24, pos := "law.go:62", after := #[{ on := 16, ground := Ground.data }, { on := 17, ground := Ground.data }, { on := 11, ground := Ground.guard }], guard := some (11, true) }) rfl (by kernel_rfl) (by kernel_rfl) (by kernel_rfl) (fun _ _ _ h => h) (Or.inr ⟨by rfl, rfl⟩) (by assumption) ?_
      try simp only [Act.put, List.setIfInBounds_toArray, List.set_cons_zero, List.set_cons_succ]
      refine wpAnyH_take (i := 19) (oi := { dst := some 121, op := Op.call { callee := Callee.value (Operand.func 18), args := #[Operand.tmp 117, Operand.tmp 120], argTypes := #[24, 24] }, type := 4, pos := "law.go:62", after := #[{ on := 15, ground := Ground.data }, { on := 18, ground := Ground.data }, { on := 15, ground := Ground.chain }, { on := 11, ground := Ground.guard }], guard := some (11, true) }) rfl (by kernel_rfl) (by kernel_rfl) (by kernel_rfl) (fun _ _ _ h => h) (Or.inr ⟨by rfl, rfl⟩) (by assumption) ?_
      try simp only [Act.put, List.setIfInBounds_toArray, List.set_cons_zero, List.set_cons_succ]
      refine wpAnyH_take (i := 20) (oi := { dst := some 122, op := Op.pick (Operand.tmp 113) (Operand.tmp 121) (Operand.const (Value.bool false)), type := 4, pos := "law.go:62", after := #[{ on := 11, ground := Ground.data }, { on := 19, ground := Ground.data }, { on := 2, ground := Ground.guard }], guard := some (2, false) }) rfl (by kernel_rfl) (by kernel_rfl) (by kernel_rfl) (fun _ _ _ h => h) (Or.inr ⟨by rfl, rfl⟩) (by assumption) ?_
      try simp only [Act.put, List.setIfInBounds_toArray, List.set_cons_zero, List.set_cons_succ]
      refine wpAnyH_take (i := 21) (oi := { dst := some 123, op := Op.pick (Operand.tmp 104) (Operand.const (Value.bool true)) (Operand.tmp 122), type := 4, pos := "law.go:62", after := #[{ on := 2, ground := Ground.data }, { on := 20, ground := Ground.data }], guard := none }) (v := ?_) rfl (by kernel_rfl) (by kernel_rfl) (by kernel_rfl) (fun _ _ _ h => h) (Or.inl ⟨by rfl, ?_⟩) (by assumption) ?_
      rotate_left
      · intro w hSw
        go_simp
        try with_reducible rfl
      try simp only [Act.put, List.setIfInBounds_toArray, List.set_cons_zero, List.set_cons_succ]
      refine wpAnyH_take (i := 22) (oi := { dst := some 10, op := Op.assign (Operand.tmp 123), type := 4, pos := "law.go:62", after := #[{ on := 21, ground := Ground.data }, { on := 19, ground := Ground.chain }, { on := 0, ground := Ground.phase }, { on := 1, ground := Ground.phase }, { on := 2, ground := Ground.phase }, { on := 3, ground := Ground.phase }, { on := 4, ground := Ground.phase }, { on := 5, ground := Ground.phase }, { on := 6, ground := Ground.phase }, { on := 7, ground := Ground.phase }, { on := 8, ground := Ground.phase }, { on := 9, ground := Ground.phase }, { on := 10, ground := Ground.phase }, { on := 11, ground := Ground.phase }, { on := 12, ground := Ground.phase }, { on := 13, ground := Ground.phase }, { on := 14, ground := Ground.phase }, { on := 15, ground := Ground.phase }, { on := 16, ground := Ground.phase }, { on := 17, ground := Ground.phase }, { on := 18, ground := Ground.phase }, { on := 19, ground := Ground.phase }, { on := 20, ground := Ground.phase }, { on := 21, ground := Ground.phase }], guard := none }) (v := ?_) rfl (by kernel_rfl) (by kernel_rfl) (by kernel_rfl) (fun _ _ _ h => h) (Or.inl ⟨by rfl, ?_⟩) (by assumption) ?_
      rotate_left
      · intro w hSw
        go_simp
        try with_reducible rfl
      try simp only [Act.put, List.setIfInBounds_toArray, List.set_cons_zero, List.set_cons_succ]
      refine wpAnyH_done (by kernel_rfl) ?_ _
      go_wp2
      go_ret
      exact ⟨rfl, hHeld⟩
end Go.Proofs.Ytpogpjnbgdbpfaa
