/- The contract of the reference's Take. -/
import Derived.Test.YtpogpjnbgdbpfaaTlvTake
import Derived.Test.YtpogpjnbgdbpfaaTlvRefT
import Derived.Test.YtpogpjnbgdbpfaaBack
namespace Go.Proofs.Ytpogpjnbgdbpfaa
open Go.ChangeShapes Go.WideShapes Go.ChangeAt Go.RowKit

theorem TakeS.k {w0 w' : World} {g gt : Nat} (h : TakeS w0 g gt w') : Keeps w0 w' := h.2.2.2.2
theorem TakeS.sz {w0 w' : World} {g gt : Nat} (h : TakeS w0 g gt w') : gt ≤ w'.heap.size := Nat.le_of_lt h.2.1
theorem wr_of_own {w : World} {base : Nat} {E : TypeId} {C : Option Addr} {n c : Nat} {xs : List Value} (h : w.ownsRow base E 1 (.slice C n c) n xs) : Wr base w C n := fun hn => by
  obtain ⟨g, cap, hv, hb, _⟩ := h.form hn
  injection hv with h1 h2 h3
  subst h1
  exact ⟨g, rfl, hb, fun i _ => h.frozenAt i⟩

set_option maxRecDepth 100000 in
set_option maxHeartbeats 8000000 in
theorem refTake_any (A : Option Addr) (xs : List Int) (c : Nat) (hx : Bytes8 xs) (hl0 : xs.length ≤ 1000000) (hcap : xs.length ≤ c) (w : World) (hh : Holds w A xs) :
    Calls Try.prog 46 #[.slice A xs.length c] w (GivesT5 (takeF xs) w) := by
  have hl : xs.length ≤ maxLen := by unfold maxLen; omega
  have HT : Hid (∀ w', Keeps w w' → Calls Try.prog 44 #[.slice A xs.length c] w' fun e w'' => e = headE (takeHeadF xs) ∧ Keeps w' w'') := fun w' hk => refTakeHead_any A xs c hx hl hcap w' (hh.keeps hk)
  by_cases he : (takeHeadF xs).2.2.2.2 = 0
  · obtain ⟨m, kl, hm, hkl, hm1, hm2, hm3⟩ := takeHeadF_n hx he
    have hz : takeF xs = if (xs.length : Int) - m < (kl : Int) then ((0, 0), false, [], 0, 3) else ((takeHeadF xs).1, (takeHeadF xs).2.1, (xs.drop m).take kl, (m : Int) + kl, 0) := by
      unfold takeF
      rw [if_neg (by simp [he]), hm, hkl, Int.toNat_natCast, Int.toNat_natCast]
    generalize takeHeadF xs = r at *
    obtain ⟨⟨cl, nu⟩, mm, ll, k, e⟩ := r
    simp only at he hm hkl hz HT
    subst he
    subst hm
    subst hkl
    unfold headE at HT
    have HH := hide hh
    have HX := hide hx
    clear hh hx
    unfold maxLen at hl
    generalize hn : xs.length = n at *
    by_cases hs : (n : Int) - m < (kl : Int)
    · rw [if_pos hs] at hz
      have HZ := hide hz
      clear hz
      go_enter Try.func46, Try.ntmps46
      go_wp2_with fail
      refine (unhide HT _ ((Keeps.refl w).alloc _)).mono ?_
      rintro e9 w1 ⟨rfl, hk⟩
      have hb := (Blk.new w 52 #[.int .i64 0, .int .i64 0]).keeps hk
      obtain ⟨hbc, hbf, hbl⟩ := hb.facts
      have HB := hide hb
      have HK := hide (((Keeps.refl w).alloc _).trans hk)
      clear hk hb
      go_wp2
      rw [unhide HZ]
      refine bodyPost_ret (results_tag5 rfl rfl (((unhide HB).set2 _ _).alloc _)) rfl ?_
      exact ⟨none, 0, rfl, Nat.le_refl _, Holds.nil _, Wr.zero, ((unhide HK).set2 (Nat.le_refl _) _ _).alloc _⟩
    · rw [if_neg hs] at hz
      have HZ := hide hz
      clear hz
      obtain ⟨b, o, rfl, -⟩ := (unhide HH).cells (by omega)
      have hwr : IntKind.i64.wrap ((m : Int) + kl) = (m : Int) + kl := by rw [IntKind.wrap_i64]; omega
      have htn : ((m : Int) + kl).toNat = m + kl := by omega
      have hle : (m : Int) + kl ≤ c := by omega
      have h0le : 0 ≤ (m : Int) + kl := by omega
      have hadd := add_at_ b o m
      by_cases hcm : c = m
      · obtain rfl : kl = 0 := by omega
        obtain rfl : n = m := by omega
        subst hcm
        have hwr2 : IntKind.i64.wrap (c : Int) = (c : Int) := by rw [IntKind.wrap_i64]; omega
        have htn2 : ((c : Int)).toNat = c := by omega
        go_enter Try.func46, Try.ntmps46
        go_wp2_with fail
        refine (unhide HT _ ((Keeps.refl w).alloc _)).mono ?_
        rintro e9 w1 ⟨rfl, hk⟩
        have hb := (Blk.new w 52 #[.int .i64 0, .int .i64 0]).keeps hk
        obtain ⟨hbc, hbf, hbl⟩ := hb.facts
        have HB := hide hb
        have HK := hide (((Keeps.refl w).alloc _).trans hk)
        clear hk hb
        have hyd : Bytes8 ((xs.drop c).take 0) := fun x h => (unhide HX) x (List.mem_of_mem_drop (List.mem_of_mem_take h))
        have HPB := hide hyd
        have HPL := hide (show ((xs.drop c).take 0).length = 0 from by rw [List.length_take, List.length_drop, hn]; omega)
        have hp := ((unhide HH).from_ (m := c) (c := c) (by omega) (by omega)).upto 0
        rw [if_pos rfl] at hp
        have hcb : ∀ w', Keeps w w' → Calls Try.prog 35 #[.slice (some ⟨b, o, none⟩) 0 (0)] w' fun e w'' => ∃ C f, e = .returned (.slice C 0 f) ∧ 0 ≤ f ∧ Holds w'' C ((xs.drop c).take 0) ∧ Wr w'.heap.size w'' C 0 ∧ Keeps w' w'' := fun w' hk => by
          have := copy_any (some ⟨b, o, none⟩) ((xs.drop c).take 0) (0) (by rw [unhide HPL]; omega) w' (hp.keeps hk)
          rw [unhide HPL] at this
          refine this.mono ?_
          rintro e w'' ⟨C, f, rfl, h1, h2⟩
          rw [unhide HPL] at h1 h2 ⊢
          have h3 := h2.1
          rw [unhide HPL] at h3
          exact ⟨C, f, rfl, h1, h2.holds, wr_of_own h3, h2.2⟩
        have HCB := hide hcb
        clear hyd hp hcb
        have HS0 := hide (show ((w1.alloc (.cells #[.int .i64 cl, .int .i64 nu] 52)).drew).cell? ⟨w1.heap.size, 0, none⟩ = some (.int .i64 cl) ∧ ((w1.alloc (.cells #[.int .i64 cl, .int .i64 nu] 52)).drew).cell? ⟨w1.heap.size, 1, none⟩ = some (.int .i64 nu) ∧ TakeS w w.heap.size w1.heap.size (w1.alloc (.cells #[.int .i64 cl, .int .i64 nu] 52)).drew from
          ⟨(Blk.new w1 52 #[.int .i64 cl, .int .i64 nu]).drew.cell 0, (Blk.new w1 52 #[.int .i64 cl, .int .i64 nu]).drew.cell 1, ⟨_, _, ((unhide HB).alloc _).drew⟩, by show _ < (w1.alloc _).heap.size; rw [size_alloc1]; omega, hbl, Nat.le_refl _, ((unhide HK).alloc _).drew⟩)
        go_wp2
        refine wp_region_held_drew (S := fun w' => w'.cell? ⟨w1.heap.size, 0, none⟩ = some (.int .i64 cl) ∧ w'.cell? ⟨w1.heap.size, 1, none⟩ = some (.int .i64 nu) ∧ TakeS w w.heap.size w1.heap.size w') (by kernel_rfl) ?_ (fun hHeld => ?_)
        · exact unhide HS0
        refine wpAnyH_take (i := 0) (oi := { dst := some 31, op := Op.load 52 (Operand.tmp 7), type := 52, pos := "tlv.go:86", after := #[], guard := none }) (v := ?_) rfl (by kernel_rfl) (by kernel_rfl) (by kernel_rfl) (fun _ _ _ h => h) (Or.inl ⟨by rfl, ?_⟩) (by assumption) ?_
        rotate_left
        · intro w hSw
          go_simp
          try with_reducible rfl
        try simp only [Act.put, List.setIfInBounds_toArray, List.set_cons_zero, List.set_cons_succ]
        refine wpAnyH_take (i := 1) (oi := { dst := some 32, op := Op.move (Operand.tmp 8), type := 4, pos := "tlv.go:86", after := #[{ on := 12, ground := Ground.gcOnly Departure.lateStores }], guard := none }) (v := ?_) rfl (by kernel_rfl) (by kernel_rfl) (by kernel_rfl) (fun _ _ _ h => h) (Or.inl ⟨by rfl, ?_⟩) (by assumption) ?_
        rotate_left
        · intro w hSw
          go_simp
          try with_reducible rfl
        try simp only [Act.put, List.setIfInBounds_toArray, List.set_cons_zero, List.set_cons_succ]
        refine wpAnyH_take (i := 2) (oi := { dst := some 33, op := Op.move (Operand.tmp 0), type := 24, pos := "tlv.go:86", after := #[], guard := none }) (v := ?_) rfl (by kernel_rfl) (by kernel_rfl) (by kernel_rfl) (fun _ _ _ h => h) (Or.inl ⟨by rfl, ?_⟩) (by assumption) ?_
        rotate_left
        · intro w hSw
          go_simp
          try with_reducible rfl
        try simp only [Act.put, List.setIfInBounds_toArray, List.set_cons_zero, List.set_cons_succ]
        refine wpAnyH_take (i := 3) (oi := { dst := some 34, op := Op.move (Operand.tmp 10), type := 3, pos := "tlv.go:86", after := #[], guard := none }) (v := ?_) rfl (by kernel_rfl) (by kernel_rfl) (by kernel_rfl) (fun _ _ _ h => h) (Or.inl ⟨by rfl, ?_⟩) (by assumption) ?_
        rotate_left
        · intro w hSw
          go_simp
          try with_reducible rfl
        try simp only [Act.put, List.setIfInBounds_toArray, List.set_cons_zero, List.set_cons_succ]
        refine wpAnyH_take (i := 4) (oi := { dst := some 35, op := Op.move (Operand.tmp 10), type := 3, pos := "tlv.go:86", after := #[], guard := none }) (v := ?_) rfl (by kernel_rfl) (by kernel_rfl) (by kernel_rfl) (fun _ _ _ h => h) (Or.inl ⟨by rfl, ?_⟩) (by assumption) ?_
        rotate_left
        · intro w hSw
          go_simp
          try with_reducible rfl
        try simp only [Act.put, List.setIfInBounds_toArray, List.set_cons_zero, List.set_cons_succ]
        refine wpAnyH_take (i := 5) (oi := { dst := some 36, op := Op.move (Operand.tmp 9), type := 3, pos := "tlv.go:86", after := #[], guard := none }) (v := ?_) rfl (by kernel_rfl) (by kernel_rfl) (by kernel_rfl) (fun _ _ _ h => h) (Or.inl ⟨by rfl, ?_⟩) (by assumption) ?_
        rotate_left
        · intro w hSw
          go_simp
          try with_reducible rfl
        try simp only [Act.put, List.setIfInBounds_toArray, List.set_cons_zero, List.set_cons_succ]
        refine wpAnyH_take (i := 6) (oi := { dst := some 37, op := Op.binOp BinOp.add 3 (Operand.tmp 35) (Operand.tmp 36) 3, type := 3, pos := "tlv.go:86", after := #[{ on := 4, ground := Ground.data }, { on := 5, ground := Ground.data }], guard := none }) (v := ?_) rfl (by kernel_rfl) (by kernel_rfl) (by kernel_rfl) (fun _ _ _ h => h) (Or.inl ⟨by rfl, ?_⟩) (by assumption) ?_
        rotate_left
        · intro w hSw
          go_simp
          try with_reducible rfl
        try simp only [Act.put, List.setIfInBounds_toArray, List.set_cons_zero, List.set_cons_succ]
        refine wpAnyH_take (i := 7) (oi := { dst := some 38, op := Op.slice 24 (Operand.tmp 33) (some (Operand.tmp 34)) (some (Operand.tmp 37)) none, type := 24, pos := "tlv.go:86", after := #[{ on := 2, ground := Ground.data }, { on := 3, ground := Ground.data }, { on := 6, ground := Ground.data }], guard := none }) (v := ?_) rfl (by kernel_rfl) (by kernel_rfl) (by kernel_rfl) (fun _ _ _ h => h) (Or.inl ⟨by rfl, ?_⟩) (by assumption) ?_
        rotate_left
        · intro w hSw
          go_simp
          try with_reducible rfl
        try simp only [Act.put, List.setIfInBounds_toArray, List.set_cons_zero, List.set_cons_succ]
        refine wpAnyH_take (i := 9) (oi := { dst := some 40, op := Op.move (Operand.tmp 10), type := 3, pos := "tlv.go:86", after := #[{ on := 14, ground := Ground.gcOnly Departure.lateStores }], guard := none }) (v := ?_) rfl (by kernel_rfl) (by kernel_rfl) (by kernel_rfl) (fun _ _ _ h => h) (Or.inl ⟨by rfl, ?_⟩) (by assumption) ?_
        rotate_left
        · intro w hSw
          go_simp
          try with_reducible rfl
        try simp only [Act.put, List.setIfInBounds_toArray, List.set_cons_zero, List.set_cons_succ]
        refine wpAnyH_take (i := 10) (oi := { dst := some 41, op := Op.move (Operand.tmp 9), type := 3, pos := "tlv.go:86", after := #[{ on := 14, ground := Ground.gcOnly Departure.lateStores }], guard := none }) (v := ?_) rfl (by kernel_rfl) (by kernel_rfl) (by kernel_rfl) (fun _ _ _ h => h) (Or.inl ⟨by rfl, ?_⟩) (by assumption) ?_
        rotate_left
        · intro w hSw
          go_simp
          try with_reducible rfl
        try simp only [Act.put, List.setIfInBounds_toArray, List.set_cons_zero, List.set_cons_succ]
        refine wpAnyH_take (i := 11) (oi := { dst := some 42, op := Op.binOp BinOp.add 3 (Operand.tmp 40) (Operand.tmp 41) 3, type := 3, pos := "tlv.go:86", after := #[{ on := 9, ground := Ground.data }, { on := 10, ground := Ground.data }, { on := 14, ground := Ground.gcOnly Departure.lateStores }], guard := none }) (v := ?_) rfl (by kernel_rfl) (by kernel_rfl) (by kernel_rfl) (fun _ _ _ h => h) (Or.inl ⟨by rfl, ?_⟩) (by assumption) ?_
        rotate_left
        · intro w hSw
          go_simp
          try with_reducible rfl
        try simp only [Act.put, List.setIfInBounds_toArray, List.set_cons_zero, List.set_cons_succ]
        refine wpAnyH_ready (rs := [8]) (by kernel_rfl) (by simp) ?_
        refine AllReadyH.cons (o := { dst := some 39, op := Op.call { callee := Callee.value (Operand.func 35), args := #[Operand.tmp 38], argTypes := #[24] }, type := 24, pos := "tlv.go:86", after := #[{ on := 7, ground := Ground.data }], guard := none }) rfl (fun K hK => ?_) AllReadyH.nil
        go_simp
        go_at_call 35
        with_reducible refine (unhide HCB _ (TakeS.k hHeld.2.2)).mono ?_
        rintro e5 wn ⟨C, f, rfl, hcf, hch, hcw, hkn⟩
        have HCH := hide hch
        have HCW := hide (hcw.mono_ (TakeS.sz hHeld.2.2))
        clear hch hcw
        go_wp2_with fail
        refine hK.out _ _ ?_ (fun hHeld2 => ?_)
        · exact take_step hHeld hkn
        clear hK K hHeld
        try simp only [Act.put, List.setIfInBounds_toArray, List.set_cons_zero, List.set_cons_succ]
        obtain ⟨hH1, hH2, ⟨p, q, hBn⟩, hH4, hH5, hH6, hH7⟩ := hHeld2
        obtain ⟨hbc2, hbf2, hbl2⟩ := hBn.facts
        have hb0 : wn.cell? ⟨w.heap.size, 0, none⟩ = some p := hbc2 0
        have hb1 : wn.cell? ⟨w.heap.size, 1, none⟩ = some q := hbc2 1
        have hb2 := hbf2 0
        have hb3 := hbf2 1
        have HBN := hide hBn
        clear hBn hkn
        refine wpAnyH_ready (rs := [12]) (by kernel_rfl) (by simp) ?_
        refine AllReadyH.cons (o := { dst := none, op := Op.store 52 (Operand.tmp 2) (Operand.tmp 31), type := 0, pos := "tlv.go:86", after := #[{ on := 0, ground := Ground.data }, { on := 8, ground := Ground.chain }, { on := 0, ground := Ground.phase }, { on := 1, ground := Ground.textOnly Departure.lateStores }, { on := 2, ground := Ground.textOnly Departure.lateStores }, { on := 3, ground := Ground.textOnly Departure.lateStores }, { on := 4, ground := Ground.textOnly Departure.lateStores }, { on := 5, ground := Ground.textOnly Departure.lateStores }, { on := 6, ground := Ground.textOnly Departure.lateStores }, { on := 7, ground := Ground.textOnly Departure.lateStoresUnsure }, { on := 8, ground := Ground.textOnly Departure.lateStoresUnsure }, { on := 9, ground := Ground.textOnly Departure.lateStores }, { on := 10, ground := Ground.textOnly Departure.lateStores }, { on := 11, ground := Ground.textOnly Departure.lateStores }], guard := none }) rfl (fun K hK => ?_) AllReadyH.nil
        go_simp
        refine hK.out _ _ ?_ (fun hHeld3 => ?_)
        · exact take_store ⟨hH1, hH2, ⟨p, q, unhide HBN⟩, hH4, hH5, hH6, hH7⟩ _ _
        clear hK K
        try simp only [Act.put, List.setIfInBounds_toArray, List.set_cons_zero, List.set_cons_succ]
        have hfin := holds_set2 (unhide HCH) (unhide HCW) (unhide HPL) hH5 (.int .i64 cl) (.int .i64 nu)
        have HFIN := hide hfin
        have HBF := hide ((unhide HBN).set2 (.int .i64 cl) (.int .i64 nu))
        have HKF := hide hHeld3.2.2.2.2.2.2
        clear hfin hbc2 hbf2 hb0 hb1 hb2 hb3 hH1 hH2
        refine wpAnyH_take (i := 13) (oi := { dst := some 3, op := Op.assign (Operand.tmp 32), type := 4, pos := "tlv.go:86", after := #[{ on := 1, ground := Ground.data }, { on := 12, ground := Ground.chain }, { on := 0, ground := Ground.phase }, { on := 1, ground := Ground.phase }, { on := 2, ground := Ground.textOnly Departure.lateStores }, { on := 3, ground := Ground.textOnly Departure.lateStores }, { on := 4, ground := Ground.textOnly Departure.lateStores }, { on := 5, ground := Ground.textOnly Departure.lateStores }, { on := 6, ground := Ground.textOnly Departure.lateStores }, { on := 7, ground := Ground.textOnly Departure.lateStoresUnsure }, { on := 8, ground := Ground.textOnly Departure.lateStoresUnsure }, { on := 9, ground := Ground.textOnly Departure.lateStores }, { on := 10, ground := Ground.textOnly Departure.lateStores }, { on := 11, ground := Ground.textOnly Departure.lateStores }, { on := 12, ground := Ground.phase }], guard := none }) (v := ?_) rfl (by kernel_rfl) (by kernel_rfl) (by kernel_rfl) (fun _ _ _ h => h) (Or.inl ⟨by rfl, ?_⟩) (by assumption) ?_
        rotate_left
        · intro w hSw
          go_simp
          try with_reducible rfl
        try simp only [Act.put, List.setIfInBounds_toArray, List.set_cons_zero, List.set_cons_succ]
        refine wpAnyH_take (i := 14) (oi := { dst := some 4, op := Op.assign (Operand.tmp 39), type := 24, pos := "tlv.go:86", after := #[{ on := 8, ground := Ground.data }, { on := 13, ground := Ground.chain }, { on := 0, ground := Ground.phase }, { on := 1, ground := Ground.phase }, { on := 2, ground := Ground.phase }, { on := 3, ground := Ground.phase }, { on := 4, ground := Ground.phase }, { on := 5, ground := Ground.phase }, { on := 6, ground := Ground.phase }, { on := 7, ground := Ground.phase }, { on := 8, ground := Ground.phase }, { on := 9, ground := Ground.textOnly Departure.lateStores }, { on := 10, ground := Ground.textOnly Departure.lateStores }, { on := 11, ground := Ground.textOnly Departure.lateStores }, { on := 12, ground := Ground.phase }, { on := 13, ground := Ground.phase }], guard := none }) (v := ?_) rfl (by kernel_rfl) (by kernel_rfl) (by kernel_rfl) (fun _ _ _ h => h) (Or.inl ⟨by rfl, ?_⟩) (by assumption) ?_
        rotate_left
        · intro w hSw
          go_simp
          try with_reducible rfl
        try simp only [Act.put, List.setIfInBounds_toArray, List.set_cons_zero, List.set_cons_succ]
        refine wpAnyH_take (i := 15) (oi := { dst := some 5, op := Op.assign (Operand.tmp 42), type := 3, pos := "tlv.go:86", after := #[{ on := 11, ground := Ground.data }, { on := 14, ground := Ground.chain }, { on := 0, ground := Ground.phase }, { on := 1, ground := Ground.phase }, { on := 2, ground := Ground.phase }, { on := 3, ground := Ground.phase }, { on := 4, ground := Ground.phase }, { on := 5, ground := Ground.phase }, { on := 6, ground := Ground.phase }, { on := 7, ground := Ground.phase }, { on := 8, ground := Ground.phase }, { on := 9, ground := Ground.phase }, { on := 10, ground := Ground.phase }, { on := 11, ground := Ground.phase }, { on := 12, ground := Ground.phase }, { on := 13, ground := Ground.phase }, { on := 14, ground := Ground.phase }], guard := none }) (v := ?_) rfl (by kernel_rfl) (by kernel_rfl) (by kernel_rfl) (fun _ _ _ h => h) (Or.inl ⟨by rfl, ?_⟩) (by assumption) ?_
        rotate_left
        · intro w hSw
          go_simp
          try with_reducible rfl
        try simp only [Act.put, List.setIfInBounds_toArray, List.set_cons_zero, List.set_cons_succ]
        refine wpAnyH_take (i := 16) (oi := { dst := some 6, op := Op.assign (Operand.const (Value.int IntKind.i64 0)), type := 34, pos := "tlv.go:86", after := #[{ on := 15, ground := Ground.chain }, { on := 0, ground := Ground.phase }, { on := 1, ground := Ground.phase }, { on := 2, ground := Ground.phase }, { on := 3, ground := Ground.phase }, { on := 4, ground := Ground.phase }, { on := 5, ground := Ground.phase }, { on := 6, ground := Ground.phase }, { on := 7, ground := Ground.phase }, { on := 8, ground := Ground.phase }, { on := 9, ground := Ground.phase }, { on := 10, ground := Ground.phase }, { on := 11, ground := Ground.phase }, { on := 12, ground := Ground.phase }, { on := 13, ground := Ground.phase }, { on := 14, ground := Ground.phase }, { on := 15, ground := Ground.phase }], guard := none }) (v := ?_) rfl (by kernel_rfl) (by kernel_rfl) (by kernel_rfl) (fun _ _ _ h => h) (Or.inl ⟨by rfl, ?_⟩) (by assumption) ?_
        rotate_left
        · intro w hSw
          go_simp
          try with_reducible rfl
        try simp only [Act.put, List.setIfInBounds_toArray, List.set_cons_zero, List.set_cons_succ]
        refine wpAnyH_done (by kernel_rfl) ?_ _
        go_wp2
        rw [unhide HZ]
        refine bodyPost_ret (results_tag5 rfl rfl (unhide HBF)) rfl ?_
        have hpl := unhide HPL
        refine ⟨C, f, ?_, by rw [hpl]; exact hcf, (unhide HFIN).1, by rw [hpl]; exact (unhide HFIN).2.mono_ (Nat.le_of_lt hH5), unhide HKF⟩
        simp only [hpl]
        rfl
      · have hcm2 : (c = m) = False := eq_false hcm
        go_enter Try.func46, Try.ntmps46
        go_wp2_with fail
        refine (unhide HT _ ((Keeps.refl w).alloc _)).mono ?_
        rintro e9 w1 ⟨rfl, hk⟩
        have hb := (Blk.new w 52 #[.int .i64 0, .int .i64 0]).keeps hk
        obtain ⟨hbc, hbf, hbl⟩ := hb.facts
        have HB := hide hb
        have HK := hide (((Keeps.refl w).alloc _).trans hk)
        clear hk hb
        have hyd : Bytes8 ((xs.drop m).take kl) := fun x h => (unhide HX) x (List.mem_of_mem_drop (List.mem_of_mem_take h))
        have HPB := hide hyd
        have HPL := hide (show ((xs.drop m).take kl).length = kl from by rw [List.length_take, List.length_drop, hn]; omega)
        have hp := ((unhide HH).from_ (m := m) (c := c) (by omega) (by omega)).upto kl
        rw [if_neg hcm, Option.map_some, hadd] at hp
        have hcb : ∀ w', Keeps w w' → Calls Try.prog 35 #[.slice (some ⟨b, o + m, none⟩) kl (c - m)] w' fun e w'' => ∃ C f, e = .returned (.slice C kl f) ∧ kl ≤ f ∧ Holds w'' C ((xs.drop m).take kl) ∧ Wr w'.heap.size w'' C kl ∧ Keeps w' w'' := fun w' hk => by
          have := copy_any (some ⟨b, o + m, none⟩) ((xs.drop m).take kl) (c - m) (by rw [unhide HPL]; omega) w' (hp.keeps hk)
          rw [unhide HPL] at this
          refine this.mono ?_
          rintro e w'' ⟨C, f, rfl, h1, h2⟩
          rw [unhide HPL] at h1 h2 ⊢
          have h3 := h2.1
          rw [unhide HPL] at h3
          exact ⟨C, f, rfl, h1, h2.holds, wr_of_own h3, h2.2⟩
        have HCB := hide hcb
        clear hyd hp hcb
        have HS0 := hide (show ((w1.alloc (.cells #[.int .i64 cl, .int .i64 nu] 52)).drew).cell? ⟨w1.heap.size, 0, none⟩ = some (.int .i64 cl) ∧ ((w1.alloc (.cells #[.int .i64 cl, .int .i64 nu] 52)).drew).cell? ⟨w1.heap.size, 1, none⟩ = some (.int .i64 nu) ∧ TakeS w w.heap.size w1.heap.size (w1.alloc (.cells #[.int .i64 cl, .int .i64 nu] 52)).drew from
          ⟨(Blk.new w1 52 #[.int .i64 cl, .int .i64 nu]).drew.cell 0, (Blk.new w1 52 #[.int .i64 cl, .int .i64 nu]).drew.cell 1, ⟨_, _, ((unhide HB).alloc _).drew⟩, by show _ < (w1.alloc _).heap.size; rw [size_alloc1]; omega, hbl, Nat.le_refl _, ((unhide HK).alloc _).drew⟩)
        go_wp2
        refine wp_region_held_drew (S := fun w' => w'.cell? ⟨w1.heap.size, 0, none⟩ = some (.int .i64 cl) ∧ w'.cell? ⟨w1.heap.size, 1, none⟩ = some (.int .i64 nu) ∧ TakeS w w.heap.size w1.heap.size w') (by kernel_rfl) ?_ (fun hHeld => ?_)
        · exact unhide HS0
        refine wpAnyH_take (i := 0) (oi := { dst := some 31, op := Op.load 52 (Operand.tmp 7), type := 52, pos := "tlv.go:86", after := #[], guard := none }) (v := ?_) rfl (by kernel_rfl) (by kernel_rfl) (by kernel_rfl) (fun _ _ _ h => h) (Or.inl ⟨by rfl, ?_⟩) (by assumption) ?_
        rotate_left
        · intro w hSw
          go_simp
          try with_reducible rfl
        try simp only [Act.put, List.setIfInBounds_toArray, List.set_cons_zero, List.set_cons_succ]
        refine wpAnyH_take (i := 1) (oi := { dst := some 32, op := Op.move (Operand.tmp 8), type := 4, pos := "tlv.go:86", after := #[{ on := 12, ground := Ground.gcOnly Departure.lateStores }], guard := none }) (v := ?_) rfl (by kernel_rfl) (by kernel_rfl) (by kernel_rfl) (fun _ _ _ h => h) (Or.inl ⟨by rfl, ?_⟩) (by assumption) ?_
        rotate_left
        · intro w hSw
          go_simp
          try with_reducible rfl
        try simp only [Act.put, List.setIfInBounds_toArray, List.set_cons_zero, List.set_cons_succ]
        refine wpAnyH_take (i := 2) (oi := { dst := some 33, op := Op.move (Operand.tmp 0), type := 24, pos := "tlv.go:86", after := #[], guard := none }) (v := ?_) rfl (by kernel_rfl) (by kernel_rfl) (by kernel_rfl) (fun _ _ _ h => h) (Or.inl ⟨by rfl, ?_⟩) (by assumption) ?_
        rotate_left
        · intro w hSw
          go_simp
          try with_reducible rfl
        try simp only [Act.put, List.setIfInBounds_toArray, List.set_cons_zero, List.set_cons_succ]
        refine wpAnyH_take (i := 3) (oi := { dst := some 34, op := Op.move (Operand.tmp 10), type := 3, pos := "tlv.go:86", after := #[], guard := none }) (v := ?_) rfl (by kernel_rfl) (by kernel_rfl) (by kernel_rfl) (fun _ _ _ h => h) (Or.inl ⟨by rfl, ?_⟩) (by assumption) ?_
        rotate_left
        · intro w hSw
          go_simp
          try with_reducible rfl
        try simp only [Act.put, List.setIfInBounds_toArray, List.set_cons_zero, List.set_cons_succ]
        refine wpAnyH_take (i := 4) (oi := { dst := some 35, op := Op.move (Operand.tmp 10), type := 3, pos := "tlv.go:86", after := #[], guard := none }) (v := ?_) rfl (by kernel_rfl) (by kernel_rfl) (by kernel_rfl) (fun _ _ _ h => h) (Or.inl ⟨by rfl, ?_⟩) (by assumption) ?_
        rotate_left
        · intro w hSw
          go_simp
          try with_reducible rfl
        try simp only [Act.put, List.setIfInBounds_toArray, List.set_cons_zero, List.set_cons_succ]
        refine wpAnyH_take (i := 5) (oi := { dst := some 36, op := Op.move (Operand.tmp 9), type := 3, pos := "tlv.go:86", after := #[], guard := none }) (v := ?_) rfl (by kernel_rfl) (by kernel_rfl) (by kernel_rfl) (fun _ _ _ h => h) (Or.inl ⟨by rfl, ?_⟩) (by assumption) ?_
        rotate_left
        · intro w hSw
          go_simp
          try with_reducible rfl
        try simp only [Act.put, List.setIfInBounds_toArray, List.set_cons_zero, List.set_cons_succ]
        refine wpAnyH_take (i := 6) (oi := { dst := some 37, op := Op.binOp BinOp.add 3 (Operand.tmp 35) (Operand.tmp 36) 3, type := 3, pos := "tlv.go:86", after := #[{ on := 4, ground := Ground.data }, { on := 5, ground := Ground.data }], guard := none }) (v := ?_) rfl (by kernel_rfl) (by kernel_rfl) (by kernel_rfl) (fun _ _ _ h => h) (Or.inl ⟨by rfl, ?_⟩) (by assumption) ?_
        rotate_left
        · intro w hSw
          go_simp
          try with_reducible rfl
        try simp only [Act.put, List.setIfInBounds_toArray, List.set_cons_zero, List.set_cons_succ]
        refine wpAnyH_take (i := 7) (oi := { dst := some 38, op := Op.slice 24 (Operand.tmp 33) (some (Operand.tmp 34)) (some (Operand.tmp 37)) none, type := 24, pos := "tlv.go:86", after := #[{ on := 2, ground := Ground.data }, { on := 3, ground := Ground.data }, { on := 6, ground := Ground.data }], guard := none }) (v := ?_) rfl (by kernel_rfl) (by kernel_rfl) (by kernel_rfl) (fun _ _ _ h => h) (Or.inl ⟨by rfl, ?_⟩) (by assumption) ?_
        rotate_left
        · intro w hSw
          go_simp
          try with_reducible rfl
        try simp only [Act.put, List.setIfInBounds_toArray, List.set_cons_zero, List.set_cons_succ]
        refine wpAnyH_take (i := 9) (oi := { dst := some 40, op := Op.move (Operand.tmp 10), type := 3, pos := "tlv.go:86", after := #[{ on := 14, ground := Ground.gcOnly Departure.lateStores }], guard := none }) (v := ?_) rfl (by kernel_rfl) (by kernel_rfl) (by kernel_rfl) (fun _ _ _ h => h) (Or.inl ⟨by rfl, ?_⟩) (by assumption) ?_
        rotate_left
        · intro w hSw
          go_simp
          try with_reducible rfl
        try simp only [Act.put, List.setIfInBounds_toArray, List.set_cons_zero, List.set_cons_succ]
        refine wpAnyH_take (i := 10) (oi := { dst := some 41, op := Op.move (Operand.tmp 9), type := 3, pos := "tlv.go:86", after := #[{ on := 14, ground := Ground.gcOnly Departure.lateStores }], guard := none }) (v := ?_) rfl (by kernel_rfl) (by kernel_rfl) (by kernel_rfl) (fun _ _ _ h => h) (Or.inl ⟨by rfl, ?_⟩) (by assumption) ?_
        rotate_left
        · intro w hSw
          go_simp
          try with_reducible rfl
        try simp only [Act.put, List.setIfInBounds_toArray, List.set_cons_zero, List.set_cons_succ]
        refine wpAnyH_take (i := 11) (oi := { dst := some 42, op := Op.binOp BinOp.add 3 (Operand.tmp 40) (Operand.tmp 41) 3, type := 3, pos := "tlv.go:86", after := #[{ on := 9, ground := Ground.data }, { on := 10, ground := Ground.data }, { on := 14, ground := Ground.gcOnly Departure.lateStores }], guard := none }) (v := ?_) rfl (by kernel_rfl) (by kernel_rfl) (by kernel_rfl) (fun _ _ _ h => h) (Or.inl ⟨by rfl, ?_⟩) (by assumption) ?_
        rotate_left
        · intro w hSw
          go_simp
          try with_reducible rfl
        try simp only [Act.put, List.setIfInBounds_toArray, List.set_cons_zero, List.set_cons_succ]
        refine wpAnyH_ready (rs := [8]) (by kernel_rfl) (by simp) ?_
        refine AllReadyH.cons (o := { dst := some 39, op := Op.call { callee := Callee.value (Operand.func 35), args := #[Operand.tmp 38], argTypes := #[24] }, type := 24, pos := "tlv.go:86", after := #[{ on := 7, ground := Ground.data }], guard := none }) rfl (fun K hK => ?_) AllReadyH.nil
        go_simp
        go_at_call 35
        with_reducible refine (unhide HCB _ (TakeS.k hHeld.2.2)).mono ?_
        rintro e5 wn ⟨C, f, rfl, hcf, hch, hcw, hkn⟩
        have HCH := hide hch
        have HCW := hide (hcw.mono_ (TakeS.sz hHeld.2.2))
        clear hch hcw
        go_wp2_with fail
        refine hK.out _ _ ?_ (fun hHeld2 => ?_)
        · exact take_step hHeld hkn
        clear hK K hHeld
        try simp only [Act.put, List.setIfInBounds_toArray, List.set_cons_zero, List.set_cons_succ]
        obtain ⟨hH1, hH2, ⟨p, q, hBn⟩, hH4, hH5, hH6, hH7⟩ := hHeld2
        obtain ⟨hbc2, hbf2, hbl2⟩ := hBn.facts
        have hb0 : wn.cell? ⟨w.heap.size, 0, none⟩ = some p := hbc2 0
        have hb1 : wn.cell? ⟨w.heap.size, 1, none⟩ = some q := hbc2 1
        have hb2 := hbf2 0
        have hb3 := hbf2 1
        have HBN := hide hBn
        clear hBn hkn
        refine wpAnyH_ready (rs := [12]) (by kernel_rfl) (by simp) ?_
        refine AllReadyH.cons (o := { dst := none, op := Op.store 52 (Operand.tmp 2) (Operand.tmp 31), type := 0, pos := "tlv.go:86", after := #[{ on := 0, ground := Ground.data }, { on := 8, ground := Ground.chain }, { on := 0, ground := Ground.phase }, { on := 1, ground := Ground.textOnly Departure.lateStores }, { on := 2, ground := Ground.textOnly Departure.lateStores }, { on := 3, ground := Ground.textOnly Departure.lateStores }, { on := 4, ground := Ground.textOnly Departure.lateStores }, { on := 5, ground := Ground.textOnly Departure.lateStores }, { on := 6, ground := Ground.textOnly Departure.lateStores }, { on := 7, ground := Ground.textOnly Departure.lateStoresUnsure }, { on := 8, ground := Ground.textOnly Departure.lateStoresUnsure }, { on := 9, ground := Ground.textOnly Departure.lateStores }, { on := 10, ground := Ground.textOnly Departure.lateStores }, { on := 11, ground := Ground.textOnly Departure.lateStores }], guard := none }) rfl (fun K hK => ?_) AllReadyH.nil
        go_simp
        refine hK.out _ _ ?_ (fun hHeld3 => ?_)
        · exact take_store ⟨hH1, hH2, ⟨p, q, unhide HBN⟩, hH4, hH5, hH6, hH7⟩ _ _
        clear hK K
        try simp only [Act.put, List.setIfInBounds_toArray, List.set_cons_zero, List.set_cons_succ]
        have hfin := holds_set2 (unhide HCH) (unhide HCW) (unhide HPL) hH5 (.int .i64 cl) (.int .i64 nu)
        have HFIN := hide hfin
        have HBF := hide ((unhide HBN).set2 (.int .i64 cl) (.int .i64 nu))
        have HKF := hide hHeld3.2.2.2.2.2.2
        clear hfin hbc2 hbf2 hb0 hb1 hb2 hb3 hH1 hH2
        refine wpAnyH_take (i := 13) (oi := { dst := some 3, op := Op.assign (Operand.tmp 32), type := 4, pos := "tlv.go:86", after := #[{ on := 1, ground := Ground.data }, { on := 12, ground := Ground.chain }, { on := 0, ground := Ground.phase }, { on := 1, ground := Ground.phase }, { on := 2, ground := Ground.textOnly Departure.lateStores }, { on := 3, ground := Ground.textOnly Departure.lateStores }, { on := 4, ground := Ground.textOnly Departure.lateStores }, { on := 5, ground := Ground.textOnly Departure.lateStores }, { on := 6, ground := Ground.textOnly Departure.lateStores }, { on := 7, ground := Ground.textOnly Departure.lateStoresUnsure }, { on := 8, ground := Ground.textOnly Departure.lateStoresUnsure }, { on := 9, ground := Ground.textOnly Departure.lateStores }, { on := 10, ground := Ground.textOnly Departure.lateStores }, { on := 11, ground := Ground.textOnly Departure.lateStores }, { on := 12, ground := Ground.phase }], guard := none }) (v := ?_) rfl (by kernel_rfl) (by kernel_rfl) (by kernel_rfl) (fun _ _ _ h => h) (Or.inl ⟨by rfl, ?_⟩) (by assumption) ?_
        rotate_left
        · intro w hSw
          go_simp
          try with_reducible rfl
        try simp only [Act.put, List.setIfInBounds_toArray, List.set_cons_zero, List.set_cons_succ]
        refine wpAnyH_take (i := 14) (oi := { dst := some 4, op := Op.assign (Operand.tmp 39), type := 24, pos := "tlv.go:86", after := #[{ on := 8, ground := Ground.data }, { on := 13, ground := Ground.chain }, { on := 0, ground := Ground.phase }, { on := 1, ground := Ground.phase }, { on := 2, ground := Ground.phase }, { on := 3, ground := Ground.phase }, { on := 4, ground := Ground.phase }, { on := 5, ground := Ground.phase }, { on := 6, ground := Ground.phase }, { on := 7, ground := Ground.phase }, { on := 8, ground := Ground.phase }, { on := 9, ground := Ground.textOnly Departure.lateStores }, { on := 10, ground := Ground.textOnly Departure.lateStores }, { on := 11, ground := Ground.textOnly Departure.lateStores }, { on := 12, ground := Ground.phase }, { on := 13, ground := Ground.phase }], guard := none }) (v := ?_) rfl (by kernel_rfl) (by kernel_rfl) (by kernel_rfl) (fun _ _ _ h => h) (Or.inl ⟨by rfl, ?_⟩) (by assumption) ?_
        rotate_left
        · intro w hSw
          go_simp
          try with_reducible rfl
        try simp only [Act.put, List.setIfInBounds_toArray, List.set_cons_zero, List.set_cons_succ]
        refine wpAnyH_take (i := 15) (oi := { dst := some 5, op := Op.assign (Operand.tmp 42), type := 3, pos := "tlv.go:86", after := #[{ on := 11, ground := Ground.data }, { on := 14, ground := Ground.chain }, { on := 0, ground := Ground.phase }, { on := 1, ground := Ground.phase }, { on := 2, ground := Ground.phase }, { on := 3, ground := Ground.phase }, { on := 4, ground := Ground.phase }, { on := 5, ground := Ground.phase }, { on := 6, ground := Ground.phase }, { on := 7, ground := Ground.phase }, { on := 8, ground := Ground.phase }, { on := 9, ground := Ground.phase }, { on := 10, ground := Ground.phase }, { on := 11, ground := Ground.phase }, { on := 12, ground := Ground.phase }, { on := 13, ground := Ground.phase }, { on := 14, ground := Ground.phase }], guard := none }) (v := ?_) rfl (by kernel_rfl) (by kernel_rfl) (by kernel_rfl) (fun _ _ _ h => h) (Or.inl ⟨by rfl, ?_⟩) (by assumption) ?_
        rotate_left
        · intro w hSw
          go_simp
          try with_reducible rfl
        try simp only [Act.put, List.setIfInBounds_toArray, List.set_cons_zero, List.set_cons_succ]
        refine wpAnyH_take (i := 16) (oi := { dst := some 6, op := Op.assign (Operand.const (Value.int IntKind.i64 0)), type := 34, pos := "tlv.go:86", after := #[{ on := 15, ground := Ground.chain }, { on := 0, ground := Ground.phase }, { on := 1, ground := Ground.phase }, { on := 2, ground := Ground.phase }, { on := 3, ground := Ground.phase }, { on := 4, ground := Ground.phase }, { on := 5, ground := Ground.phase }, { on := 6, ground := Ground.phase }, { on := 7, ground := Ground.phase }, { on := 8, ground := Ground.phase }, { on := 9, ground := Ground.phase }, { on := 10, ground := Ground.phase }, { on := 11, ground := Ground.phase }, { on := 12, ground := Ground.phase }, { on := 13, ground := Ground.phase }, { on := 14, ground := Ground.phase }, { on := 15, ground := Ground.phase }], guard := none }) (v := ?_) rfl (by kernel_rfl) (by kernel_rfl) (by kernel_rfl) (fun _ _ _ h => h) (Or.inl ⟨by rfl, ?_⟩) (by assumption) ?_
        rotate_left
        · intro w hSw
          go_simp
          try with_reducible rfl
        try simp only [Act.put, List.setIfInBounds_toArray, List.set_cons_zero, List.set_cons_succ]
        refine wpAnyH_done (by kernel_rfl) ?_ _
        go_wp2
        rw [unhide HZ]
        refine bodyPost_ret (results_tag5 rfl rfl (unhide HBF)) rfl ?_
        have hpl := unhide HPL
        refine ⟨C, f, ?_, by rw [hpl]; exact hcf, (unhide HFIN).1, by rw [hpl]; exact (unhide HFIN).2.mono_ (Nat.le_of_lt hH5), unhide HKF⟩
        simp only [hpl]
        rfl
  · have hz : takeF xs = ((0, 0), false, [], 0, (takeHeadF xs).2.2.2.2) := by unfold takeF; rw [if_pos he]
    have HZ := hide hz
    generalize takeHeadF xs = r at *
    obtain ⟨⟨cl, nu⟩, mm, ll, k, e⟩ := r
    simp only at he HZ HT
    unfold headE at HT
    have e1 : (e != 0) = true := by rw [bne_iff_ne]; exact he
    have e2 : (e == 0) = false := by rw [beq_eq_false_iff_ne]; exact he
    clear hz he hh
    unfold maxLen at hl
    generalize hn : xs.length = n at *
    go_enter Try.func46, Try.ntmps46
    go_wp2_with fail
    refine (unhide HT _ ((Keeps.refl w).alloc _)).mono ?_
    rintro e9 w1 ⟨rfl, hk⟩
    have hb := (Blk.new w 52 #[.int .i64 0, .int .i64 0]).keeps hk
    obtain ⟨hbc, hbf, hbl⟩ := hb.facts
    have HB := hide hb
    have HK := hide (((Keeps.refl w).alloc _).trans hk)
    clear hk hb
    go_wp2
    rw [unhide HZ]
    refine bodyPost_ret (results_tag5 rfl rfl (((unhide HB).set2 _ _).alloc _)) rfl ?_
    exact ⟨none, 0, rfl, Nat.le_refl _, Holds.nil _, Wr.zero, ((unhide HK).set2 (Nat.le_refl _) _ _).alloc _⟩
end Go.Proofs.Ytpogpjnbgdbpfaa
