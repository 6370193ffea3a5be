/- The walk of TlvWrites. -/
import Derived.Test.YtpogpjnbgdbpfaaTlvBack1
import Derived.Test.YtpogpjnbgdbpfaaTlvRefE
import Derived.Test.YtpogpjnbgdbpfaaParts
import Derived.Test.YtpogpjnbgdbpfaaKept
namespace Go.Proofs.Ytpogpjnbgdbpfaa
open Go.ChangeShapes Go.WideShapes Go.ChangeAt Go.RowKit

theorem BackS.lt_ {w0 w' : World} {gt : Nat} (h : BackS w0 gt w') : gt < w'.heap.size := h.1
theorem Calls_weak {P : Program} {f : Nat} {args : Array Value} {w : World} {E : TypeId} {xs : List Int} (h : Calls P f args w (GivesBytes E xs w)) : Calls P f args w (GivesH xs w) := h.mono fun _ _ h => h.weak
theorem own_holds {w : World} {g : Nat} {xs : List Int} {x : Int} (h : Blk w g 5 (OwnCells xs x)) : Holds w (some ⟨g, 0, none⟩) xs := by
  refine ⟨by simp, fun _ => ⟨_, rfl, h.lt, fun j u hu => ?_⟩⟩
  rw [add_at_, Nat.zero_add, h.cell]
  have hj : j < xs.length := by
    rcases Nat.lt_or_ge j xs.length with h1 | h1
    · exact h1
    · rw [List.getElem?_eq_none (by simpa using h1)] at hu; cases hu
  unfold OwnCells
  rw [List.getElem?_toArray, List.getElem?_append_left (by simpa using hj)]
  exact hu

set_option maxRecDepth 100000 in
set_option maxHeartbeats 4000000 in
theorem writes3_any (cls num l : Int) (made : Bool) (A : Option Addr) (ps : List Part) (c : Nat) (w : World) (hn1 : num ≤ 9223372036854775807) (hl1 : l ≤ 9223372036854775807)
    (hp : PartsAny w A ps) (hpl : ps.length ≤ maxLen) (hpc : ps.length ≤ c) (hpq : ∀ q ∈ ps, q.2.2.length ≤ maxLen) :
    Calls Try.prog 10 #[tagV cls num, .bool made, .int .i64 l, .slice A ps.length c] w fun e w' => e = .returned (.bool true) ∧ Keeps w w' := by
  obtain ⟨i0, hi0, hz0, hz1, hz2⟩ := info_parts u8_info
  have hm : ps.length ≤ 9223372036854775807 := by unfold maxLen at hpl; exact hpl
  have HPQ := hide hpq
  clear hpl hpq
  by_cases hb : 20 < ps.length
  · clear hp
    generalize ps.length = n at *
    go_enter Try.func10, Try.ntmps10
    go_wp2_with fail
    refine (awake03_any _).mono ?_
    rintro e w1 ⟨rfl, hk1⟩
    have HK1 := hide (((Keeps.refl w).alloc _).trans hk1)
    clear hk1
    go_wp2
    go_ret
    exact ⟨rfl, unhide HK1⟩
  · have hn0 : ps.length ≤ 20 := by omega
    clear hb hm
    have HP := hide (hp.keeps_ ((Keeps.refl w).alloc (.cells #[.int .i64 cls, .int .i64 num] 52)))
    clear hp
    generalize hn : ps.length = n at *
    have HN := hide hn
    clear hn
    have hbox := Blk.new w 52 #[.int .i64 cls, .int .i64 num]
    have HBOX := hide hbox
    have HK0 := hide ((Keeps.refl w).alloc (.cells #[.int .i64 cls, .int .i64 num] 52))
    clear hbox
    go_enter Try.func10, Try.ntmps10
    go_wp2
    generalize w.alloc (.cells #[.int .i64 cls, .int .i64 num] 52) = w0 at *
    go_loopw [9, 10] (fun v i wr => ∃ k : Nat, k ≤ n ∧ i = .int .i64 k ∧ AllRel w0 ps k v wr) (fun _ i _ => n - (intOf i).toNat)
    case atStart => exact ⟨0, by omega, rfl, allrel_start w0 ps⟩
    case round =>
      obtain ⟨k, hk, rfl, hrel⟩ := hrel
      by_cases hlt : k < n
      · obtain ⟨b, o, rfl, q, hq, hc, hhq, hq8⟩ := ((unhide HP).keeps hrel.2.1).at_ (k := k) (by rw [unhide HN]; exact hlt)
        have hql : q.2.2.length ≤ 9223372036854775807 := by
          have := unhide HPQ q (List.mem_of_getElem? hq)
          unfold maxLen at this; exact this
        obtain ⟨qa, qc, qs⟩ := q
        simp only at hc hhq hq8 hql
        have HQ := hide hq
        have HR := hide hrel
        have HHQ := hide hhq
        have hkw := hrel.2.1
        clear hq hrel hhq hq8
        rcases Nat.lt_or_ge 500 qs.length with hbig | hbig
        · go_wp2_with fail
          refine (awake03_any _).mono ?_
          rintro e w1 ⟨rfl, hk1⟩
          have HK1 := hide (((unhide HK0).trans hkw).trans hk1)
          clear hk1
          go_wp2
          go_ret
          exact ⟨rfl, unhide HK1⟩
        · clear hql
          have hlen := (unhide HR).2.2
          go_wp2_with (at_builtin; refine wpList_append_any _ rfl (.tmp 29) (.tmp 33) _ rfl w0.heap.size 5 i0 _ 1 1 Try.underlying24 hi0 hz0 hz1 hz2 rfl (by omega) _ _ _ rfl (unhide HR).1 _ qa qs.length qc _ rfl (unhide HHQ) (ints_oneCell _ _) (by simp only [maxLen]; omega) (by omega) hkw.size ?_; intro v' w7 hown7 hg7 hat7)
          exact ⟨⟨k + 1, by omega, by go_num, allrel_step (unhide HR) (unhide HQ) hbig hg7 hown7⟩, by simp [intOf]; omega⟩
      · obtain rfl : k = n := by omega
        obtain ⟨hown, hk0, hlen⟩ := hrel
        have htk : ps.take k = ps := List.take_of_length_le (by rw [unhide HN]; exact Nat.le_refl _)
        rw [htk] at hown hlen
        obtain ⟨A2, c2, rfl, hc2⟩ := own_form hown
        have hall : Holds wr A2 (flat ps) := by
          rcases hown.2 with ⟨e, hn⟩ | ⟨g, cap, cur, e, _, _, _, _⟩
          · injection e with e1 e2 e3
            subst e1
            have : flat ps = [] := List.eq_nil_of_length_eq_zero hn
            rw [this]; exact Holds.nil _
          · exact Reads.of_own hown
        have hfb : B8 (flat ps) := (unhide HP).bytes
        have hfl : (flat ps).length ≤ 10000 := by omega
        have HOWN := hide (own_any A2 (flat ps) c2 71 (by omega) wr hall)
        have HA := hide hall
        have HFB := hide hfb
        have HKR := hide ((unhide HK0).trans hk0)
        have HPR := hide ((unhide HP).keeps hk0)
        have HBOX1 := hide ((unhide HBOX).keeps hk0)
        have HFL := hide hfl
        clear hown hlen htk hall hfb hk0
        have HEL := fun w' (h : Holds w' A2 (flat ps)) => refElement_any A2 (flat ps) c2 cls num made hn1 (by omega) w' h
        have HELT := hide HEL
        clear HEL
        have hel := eOct_len cls num made (flat ps)
        generalize hfn : (flat ps).length = m at *
        have HFN := hide hfn
        clear hfn
        go_wp2_with fail
        with_reducible refine (unhide HOWN).mono ?_
        rintro e w1 ⟨g, rfl, hbg, hg, hk1⟩
        rw [unhide HFN]
        have HIN := hide hbg
        have HK1 := hide ((unhide HKR).trans hk1)
        have HA1 := hide ((unhide HA).keeps hk1)
        have HP1 := hide ((unhide HPR).keeps_ hk1)
        have HBOX2 := hide ((unhide HBOX1).keeps hk1)
        clear hbg hk1 hg
        have hbx := unhide HBOX2
        have HS0 := hide (show w1.drew.cell? ⟨w.heap.size, 0, none⟩ = some (.int .i64 cls) ∧ w1.drew.cell? ⟨w.heap.size, 1, none⟩ = some (.int .i64 num) ∧ BackS w1 w.heap.size w1.drew from
          ⟨hbx.drew.cell 0, hbx.drew.cell 1, hbx.lt, (Keeps.refl _).drew⟩)
        clear hbx
        have hhl : ∃ hn, (hOct cls (max num 0) made (max l 0)).length = hn := ⟨_, rfl⟩
        obtain ⟨hn, hhn⟩ := hhl
        have hen : ∃ en, (eOct cls num made (flat ps)).length = en := ⟨_, rfl⟩
        obtain ⟨en, hen⟩ := hen
        have hhb : Bytes8 (hOct cls (max num 0) made (max l 0)) := hOct_bytes cls (max num 0) (max l 0) made (by omega) (by omega)
        have heb : Bytes8 (eOct cls num made (flat ps)) := eOct_bytes cls num made (flat ps) (unhide HFB)
        have HSH : Hid (∀ (Z Y : Option Addr) (z y : Nat) (w' : World), Holds w' Z (hOct cls (max num 0) made (max l 0)) → Holds w' Y (hOct cls (max num 0) made (max l 0)) → Calls Try.prog 18 #[.slice Z hn z, .slice Y hn y] w' fun e w'' => e = .returned (.bool true) ∧ w' = w'') := fun Z Y z y w' h1 h2 => by
          have := sameBytes_any Z Y _ _ z y w' h1 h2 hhb hhb
          rwa [hhn, decide_eq_true rfl] at this
        have HSE : Hid (∀ (Z Y : Option Addr) (z y : Nat) (w' : World), Holds w' Z (eOct cls num made (flat ps)) → Holds w' Y (eOct cls num made (flat ps)) → Calls Try.prog 18 #[.slice Z en z, .slice Y en y] w' fun e w'' => e = .returned (.bool true) ∧ w' = w'') := fun Z Y z y w' h1 h2 => by
          have := sameBytes_any Z Y _ _ z y w' h1 h2 heb heb
          rwa [hen, decide_eq_true rfl] at this
        have HC5 : Hid (∀ w', Calls Try.prog 39 #[.agg #[.int .i64 cls, .int .i64 num], .bool made, .int .i64 l] w' fun e w'' => ∃ Z z, e = .returned (.slice Z hn z) ∧ Holds w'' Z (hOct cls (max num 0) made (max l 0)) ∧ Keeps w' w'') := fun w' => by
          refine (head_any cls num l made hn1 hl1 w').mono ?_
          rintro e w'' ⟨Z, z, rfl, _, h2, h3⟩
          exact ⟨Z, z, by rw [hhn], h2, h3⟩
        have HC9 : Hid (∀ w', Calls Try.prog 40 #[.agg #[.int .i64 cls, .int .i64 num], .bool made, .int .i64 l] w' fun e w'' => ∃ Z z, e = .returned (.slice Z hn z) ∧ Holds w'' Z (hOct cls (max num 0) made (max l 0)) ∧ Keeps w' w'') := fun w' => by
          refine (Calls_weak (refHead_any cls num l made hn1 hl1 w')).mono ?_
          rintro e w'' ⟨Z, z, rfl, _, h2, h3⟩
          exact ⟨Z, z, by rw [hhn], h2, h3⟩
        have HC16 : Hid (∀ w', Keeps w1 w' → Calls Try.prog 41 #[.agg #[.int .i64 cls, .int .i64 num], .bool made, .slice A k c] w' fun e w'' => ∃ Z z, e = .returned (.slice Z en z) ∧ Holds w'' Z (eOct cls num made (flat ps)) ∧ Keeps w' w'') := fun w' hk => by
          refine (element_any A k c ps cls num made hn1 w' (unhide HN) hpc ((unhide HP1).keeps_ hk) (by rw [unhide HFN]; omega) (by omega)).mono ?_
          rintro e w'' ⟨Z, z, rfl, _, h2, h3⟩
          exact ⟨Z, z, by rw [hen], h2, h3⟩
        have HC20 : Hid (∀ w', Keeps w1 w' → Calls Try.prog 42 #[.agg #[.int .i64 cls, .int .i64 num], .bool made, .slice A2 m c2] w' fun e w'' => ∃ Z z, e = .returned (.slice Z en z) ∧ Holds w'' Z (eOct cls num made (flat ps)) ∧ Keeps w' w'') := fun w' hk => by
          refine (Calls_weak ((unhide HELT) w' ((unhide HA1).keeps hk))).mono ?_
          rintro e w'' ⟨Z, z, rfl, _, h2, h3⟩
          exact ⟨Z, z, by rw [hen], h2, h3⟩
        have HC28 : Hid (∀ w' g2, w'.heap.size = g2 → Keeps w1 w' → Calls Try.prog 41 #[.agg #[.int .i64 cls, .int .i64 num], .bool made, .slice (some ⟨g2, 0, none⟩) 1 1] (w'.alloc (.cells #[.slice (some ⟨g, 0, none⟩) m (m + 3)] 24)) fun e w'' => ∃ Z z, e = .returned (.slice Z en z) ∧ Holds w'' Z (eOct cls num made (flat ps)) ∧ Keeps w' w'') := fun w' g2 hg2 hk => by
          refine (elem_single w' (some ⟨g, 0, none⟩) (flat ps) (m + 3) m g2 cls num made hn1 hg2 (unhide HFN) (by omega) (own_holds ((unhide HIN).keeps hk)) (unhide HFB)).mono ?_
          rintro e w'' ⟨Z, z, rfl, _, h2, h3⟩
          exact ⟨Z, z, by rw [hen], h2, h3⟩
        have HC38 : Hid (∀ w', Keeps w1 w' → Calls Try.prog 28 #[.slice (some ⟨g, 0, none⟩) m (m + 3), .slice A2 m c2, .int .u8 71] w' fun e w'' => e = .returned (.bool true) ∧ Keeps w' w'') := fun w' hk => by
          have := kept_any g A2 (flat ps) c2 71 (by rw [unhide HFN]; omega) w' ((unhide HIN).keeps hk) ((unhide HA1).keeps hk)
          rwa [unhide HFN] at this
        clear hhb heb hhn hen hel hn0 hc2 hfl
        go_wp2
        refine wp_region_held_drew (S := fun w' => w'.cell? ⟨w.heap.size, 0, none⟩ = some (.int .i64 cls) ∧ w'.cell? ⟨w.heap.size, 1, none⟩ = some (.int .i64 num) ∧ BackS w1 w.heap.size w') (by kernel_rfl) ?_ (fun hHeld => ?_)
        · exact unhide HS0
        refine wpAnyH_ready (rs := [0]) (by kernel_rfl) (by simp) ?_
        refine AllReadyH.cons (o := { dst := some 37, op := Op.call { callee := Callee.value (Operand.func 38), args := #[], argTypes := #[] }, type := 4, pos := "law.go:30", after := #[], guard := none }) rfl (fun K hK => ?_) AllReadyH.nil
        go_simp
        go_at_call 38
        refine (awake03_any _).mono ?_
        rintro e wn ⟨rfl, hkz⟩
        go_wp2_with fail
        refine hK.out _ _ ?_ (fun hHeld => ?_)
        · exact back_step hHeld hkz
        clear hK K
        try simp only [Act.put, List.setIfInBounds_toArray, List.set_cons_zero, List.set_cons_succ]
        refine wpAnyH_take (i := 1) (oi := { dst := some 38, op := Op.move (Operand.tmp 37), type := 4, pos := "law.go:30", after := #[{ on := 0, ground := Ground.data }, { on := 0, ground := Ground.chain }], guard := none }) (v := ?_) rfl (by kernel_rfl) (by kernel_rfl) (by kernel_rfl) (fun _ _ _ h => h) (Or.inl ⟨by rfl, ?_⟩) (by assumption) ?_
        rotate_left
        · intro w hSw
          go_simp
          try with_reducible rfl
        try simp only [Act.put, List.setIfInBounds_toArray, List.set_cons_zero, List.set_cons_succ]
        refine wpAnyH_take (i := 2) (oi := { dst := some 39, op := Op.load 52 (Operand.tmp 4), type := 52, pos := "law.go:30", after := #[{ on := 1, ground := Ground.guard }], guard := some (1, true) }) (v := ?_) rfl (by kernel_rfl) (by kernel_rfl) (by kernel_rfl) (fun _ _ _ h => h) (Or.inl ⟨by rfl, ?_⟩) (by assumption) ?_
        rotate_left
        · intro w hSw
          go_simp
          try with_reducible rfl
        try simp only [Act.put, List.setIfInBounds_toArray, List.set_cons_zero, List.set_cons_succ]
        refine wpAnyH_take (i := 3) (oi := { dst := some 40, op := Op.move (Operand.tmp 1), type := 4, pos := "law.go:30", after := #[{ on := 1, ground := Ground.guard }], guard := some (1, true) }) (v := ?_) rfl (by kernel_rfl) (by kernel_rfl) (by kernel_rfl) (fun _ _ _ h => h) (Or.inl ⟨by rfl, ?_⟩) (by assumption) ?_
        rotate_left
        · intro w hSw
          go_simp
          try with_reducible rfl
        try simp only [Act.put, List.setIfInBounds_toArray, List.set_cons_zero, List.set_cons_succ]
        refine wpAnyH_take (i := 4) (oi := { dst := some 41, op := Op.move (Operand.tmp 2), type := 3, pos := "law.go:30", after := #[{ on := 1, ground := Ground.guard }], guard := some (1, true) }) (v := ?_) rfl (by kernel_rfl) (by kernel_rfl) (by kernel_rfl) (fun _ _ _ h => h) (Or.inl ⟨by rfl, ?_⟩) (by assumption) ?_
        rotate_left
        · intro w hSw
          go_simp
          try with_reducible rfl
        try simp only [Act.put, List.setIfInBounds_toArray, List.set_cons_zero, List.set_cons_succ]
        refine wpAnyH_take (i := 6) (oi := { dst := some 43, op := Op.load 52 (Operand.tmp 4), type := 52, pos := "law.go:30", after := #[{ on := 1, ground := Ground.guard }], guard := some (1, true) }) (v := ?_) rfl (by kernel_rfl) (by kernel_rfl) (by kernel_rfl) (fun _ _ _ h => h) (Or.inl ⟨by rfl, ?_⟩) (by assumption) ?_
        rotate_left
        · intro w hSw
          go_simp
          try with_reducible rfl
        try simp only [Act.put, List.setIfInBounds_toArray, List.set_cons_zero, List.set_cons_succ]
        refine wpAnyH_take (i := 7) (oi := { dst := some 44, op := Op.move (Operand.tmp 1), type := 4, pos := "law.go:30", after := #[{ on := 1, ground := Ground.guard }], guard := some (1, true) }) (v := ?_) rfl (by kernel_rfl) (by kernel_rfl) (by kernel_rfl) (fun _ _ _ h => h) (Or.inl ⟨by rfl, ?_⟩) (by assumption) ?_
        rotate_left
        · intro w hSw
          go_simp
          try with_reducible rfl
        try simp only [Act.put, List.setIfInBounds_toArray, List.set_cons_zero, List.set_cons_succ]
        refine wpAnyH_take (i := 8) (oi := { dst := some 45, op := Op.move (Operand.tmp 2), type := 3, pos := "law.go:30", after := #[{ on := 1, ground := Ground.guard }], guard := some (1, true) }) (v := ?_) rfl (by kernel_rfl) (by kernel_rfl) (by kernel_rfl) (fun _ _ _ h => h) (Or.inl ⟨by rfl, ?_⟩) (by assumption) ?_
        rotate_left
        · intro w hSw
          go_simp
          try with_reducible rfl
        try simp only [Act.put, List.setIfInBounds_toArray, List.set_cons_zero, List.set_cons_succ]
        refine wpAnyH_ready (rs := [5]) (by kernel_rfl) (by simp) ?_
        refine AllReadyH.cons (o := { dst := some 42, op := Op.call { callee := Callee.value (Operand.func 39), args := #[Operand.tmp 39, Operand.tmp 40, Operand.tmp 41], argTypes := #[52, 4, 3] }, type := 24, pos := "law.go:30", after := #[{ on := 2, ground := Ground.data }, { on := 3, ground := Ground.data }, { on := 4, ground := Ground.data }, { on := 1, ground := Ground.chain }, { on := 1, ground := Ground.guard }], guard := some (1, true) }) rfl (fun K hK => ?_) AllReadyH.nil
        go_simp
        go_at_call 39
        with_reducible refine (unhide HC5 _).mono ?_
        rintro e w5 ⟨Z, z, rfl, hZ, hkz⟩
        have HZ1 := hide hZ
        clear hZ
        go_wp2_with fail
        refine hK.out _ _ ?_ (fun hHeld => ?_)
        · exact back_step hHeld hkz
        clear hK K
        try simp only [Act.put, List.setIfInBounds_toArray, List.set_cons_zero, List.set_cons_succ]
        refine wpAnyH_ready (rs := [9]) (by kernel_rfl) (by simp) ?_
        refine AllReadyH.cons (o := { dst := some 46, op := Op.call { callee := Callee.value (Operand.func 40), args := #[Operand.tmp 43, Operand.tmp 44, Operand.tmp 45], argTypes := #[52, 4, 3] }, type := 24, pos := "law.go:30", after := #[{ on := 6, ground := Ground.data }, { on := 7, ground := Ground.data }, { on := 8, ground := Ground.data }, { on := 5, ground := Ground.chain }, { on := 1, ground := Ground.guard }], guard := some (1, true) }) rfl (fun K hK => ?_) AllReadyH.nil
        go_simp
        go_at_call 40
        with_reducible refine (unhide HC9 _).mono ?_
        rintro e w9 ⟨Y, y, rfl, hY, hkz⟩
        have HY1 := hide hY
        have HZ2 := hide ((unhide HZ1).keeps hkz)
        clear hY HZ1
        go_wp2_with fail
        refine hK.out _ _ ?_ (fun hHeld => ?_)
        · exact back_step hHeld hkz
        clear hK K
        try simp only [Act.put, List.setIfInBounds_toArray, List.set_cons_zero, List.set_cons_succ]
        refine wpAnyH_ready (rs := [10]) (by kernel_rfl) (by simp) ?_
        refine AllReadyH.cons (o := { dst := some 47, op := Op.call { callee := Callee.value (Operand.func 18), args := #[Operand.tmp 42, Operand.tmp 46], argTypes := #[24, 24] }, type := 4, pos := "law.go:30", after := #[{ on := 5, ground := Ground.data }, { on := 9, ground := Ground.data }, { on := 9, ground := Ground.chain }, { on := 1, ground := Ground.guard }], guard := some (1, true) }) rfl (fun K hK => ?_) AllReadyH.nil
        go_simp
        go_at_call 18
        with_reducible refine (unhide HSH Z Y z y _ (unhide HZ2) (unhide HY1)).mono ?_
        rintro e wm ⟨rfl, rfl⟩
        go_wp2_with fail
        refine hK.out _ _ ?_ (fun hHeld => ?_)
        · exact hHeld
        clear hK K
        try simp only [Act.put, List.setIfInBounds_toArray, List.set_cons_zero, List.set_cons_succ]
        refine wpAnyH_take (i := 11) (oi := { dst := some 48, op := Op.pick (Operand.tmp 38) (Operand.tmp 47) (Operand.const (Value.bool false)), type := 4, pos := "law.go:30", after := #[{ on := 1, ground := Ground.data }, { on := 10, ground := Ground.data }], guard := none }) (v := ?_) rfl (by kernel_rfl) (by kernel_rfl) (by kernel_rfl) (fun _ _ _ h => h) (Or.inl ⟨by rfl, ?_⟩) (by assumption) ?_
        rotate_left
        · intro w hSw
          go_simp
          try with_reducible rfl
        try simp only [Act.put, List.setIfInBounds_toArray, List.set_cons_zero, List.set_cons_succ]
        refine wpAnyH_take (i := 12) (oi := { dst := some 49, op := Op.move (Operand.tmp 48), type := 4, pos := "law.go:30", after := #[{ on := 11, ground := Ground.data }, { on := 10, ground := Ground.chain }], guard := none }) (v := ?_) rfl (by kernel_rfl) (by kernel_rfl) (by kernel_rfl) (fun _ _ _ h => h) (Or.inl ⟨by rfl, ?_⟩) (by assumption) ?_
        rotate_left
        · intro w hSw
          go_simp
          try with_reducible rfl
        try simp only [Act.put, List.setIfInBounds_toArray, List.set_cons_zero, List.set_cons_succ]
        refine wpAnyH_take (i := 13) (oi := { dst := some 50, op := Op.load 52 (Operand.tmp 4), type := 52, pos := "law.go:30", after := #[{ on := 12, ground := Ground.guard }], guard := some (12, true) }) (v := ?_) rfl (by kernel_rfl) (by kernel_rfl) (by kernel_rfl) (fun _ _ _ h => h) (Or.inl ⟨by rfl, ?_⟩) (by assumption) ?_
        rotate_left
        · intro w hSw
          go_simp
          try with_reducible rfl
        try simp only [Act.put, List.setIfInBounds_toArray, List.set_cons_zero, List.set_cons_succ]
        refine wpAnyH_take (i := 14) (oi := { dst := some 51, op := Op.move (Operand.tmp 1), type := 4, pos := "law.go:30", after := #[{ on := 12, ground := Ground.guard }], guard := some (12, true) }) (v := ?_) rfl (by kernel_rfl) (by kernel_rfl) (by kernel_rfl) (fun _ _ _ h => h) (Or.inl ⟨by rfl, ?_⟩) (by assumption) ?_
        rotate_left
        · intro w hSw
          go_simp
          try with_reducible rfl
        try simp only [Act.put, List.setIfInBounds_toArray, List.set_cons_zero, List.set_cons_succ]
        refine wpAnyH_take (i := 15) (oi := { dst := some 52, op := Op.move (Operand.tmp 3), type := 23, pos := "law.go:30", after := #[{ on := 12, ground := Ground.guard }], guard := some (12, true) }) (v := ?_) rfl (by kernel_rfl) (by kernel_rfl) (by kernel_rfl) (fun _ _ _ h => h) (Or.inl ⟨by rfl, ?_⟩) (by assumption) ?_
        rotate_left
        · intro w hSw
          go_simp
          try with_reducible rfl
        try simp only [Act.put, List.setIfInBounds_toArray, List.set_cons_zero, List.set_cons_succ]
        refine wpAnyH_take (i := 17) (oi := { dst := some 54, op := Op.load 52 (Operand.tmp 4), type := 52, pos := "law.go:30", after := #[{ on := 12, ground := Ground.guard }], guard := some (12, true) }) (v := ?_) rfl (by kernel_rfl) (by kernel_rfl) (by kernel_rfl) (fun _ _ _ h => h) (Or.inl ⟨by rfl, ?_⟩) (by assumption) ?_
        rotate_left
        · intro w hSw
          go_simp
          try with_reducible rfl
        try simp only [Act.put, List.setIfInBounds_toArray, List.set_cons_zero, List.set_cons_succ]
        refine wpAnyH_take (i := 18) (oi := { dst := some 55, op := Op.move (Operand.tmp 1), type := 4, pos := "law.go:30", after := #[{ on := 12, ground := Ground.guard }], guard := some (12, true) }) (v := ?_) rfl (by kernel_rfl) (by kernel_rfl) (by kernel_rfl) (fun _ _ _ h => h) (Or.inl ⟨by rfl, ?_⟩) (by assumption) ?_
        rotate_left
        · intro w hSw
          go_simp
          try with_reducible rfl
        try simp only [Act.put, List.setIfInBounds_toArray, List.set_cons_zero, List.set_cons_succ]
        refine wpAnyH_take (i := 19) (oi := { dst := some 56, op := Op.move (Operand.tmp 9), type := 24, pos := "law.go:30", after := #[{ on := 12, ground := Ground.guard }], guard := some (12, true) }) (v := ?_) rfl (by kernel_rfl) (by kernel_rfl) (by kernel_rfl) (fun _ _ _ h => h) (Or.inl ⟨by rfl, ?_⟩) (by assumption) ?_
        rotate_left
        · intro w hSw
          go_simp
          try with_reducible rfl
        try simp only [Act.put, List.setIfInBounds_toArray, List.set_cons_zero, List.set_cons_succ]
        refine wpAnyH_ready (rs := [16]) (by kernel_rfl) (by simp) ?_
        refine AllReadyH.cons (o := { dst := some 53, op := Op.call { callee := Callee.value (Operand.func 41), args := #[Operand.tmp 50, Operand.tmp 51, Operand.tmp 52], argTypes := #[52, 4, 23] }, type := 24, pos := "law.go:30", after := #[{ on := 13, ground := Ground.data }, { on := 14, ground := Ground.data }, { on := 15, ground := Ground.data }, { on := 12, ground := Ground.chain }, { on := 12, ground := Ground.guard }], guard := some (12, true) }) rfl (fun K hK => ?_) AllReadyH.nil
        go_simp
        go_at_call 41
        with_reducible refine (unhide HC16 _ (BackS.k hHeld.2.2)).mono ?_
        rintro e w16 ⟨U, u, rfl, hU, hkz⟩
        have HU1 := hide hU
        clear hU
        go_wp2_with fail
        refine hK.out _ _ ?_ (fun hHeld => ?_)
        · exact back_step hHeld hkz
        clear hK K
        try simp only [Act.put, List.setIfInBounds_toArray, List.set_cons_zero, List.set_cons_succ]
        refine wpAnyH_ready (rs := [20]) (by kernel_rfl) (by simp) ?_
        refine AllReadyH.cons (o := { dst := some 57, op := Op.call { callee := Callee.value (Operand.func 42), args := #[Operand.tmp 54, Operand.tmp 55, Operand.tmp 56], argTypes := #[52, 4, 24] }, type := 24, pos := "law.go:30", after := #[{ on := 17, ground := Ground.data }, { on := 18, ground := Ground.data }, { on := 19, ground := Ground.data }, { on := 16, ground := Ground.chain }, { on := 12, ground := Ground.guard }], guard := some (12, true) }) rfl (fun K hK => ?_) AllReadyH.nil
        go_simp
        go_at_call 42
        with_reducible refine (unhide HC20 _ (BackS.k hHeld.2.2)).mono ?_
        rintro e w20 ⟨V, v, rfl, hV, hkz⟩
        have HV1 := hide hV
        have HU2 := hide ((unhide HU1).keeps hkz)
        clear hV HU1
        go_wp2_with fail
        refine hK.out _ _ ?_ (fun hHeld => ?_)
        · exact back_step hHeld hkz
        clear hK K
        try simp only [Act.put, List.setIfInBounds_toArray, List.set_cons_zero, List.set_cons_succ]
        refine wpAnyH_ready (rs := [21]) (by kernel_rfl) (by simp) ?_
        refine AllReadyH.cons (o := { dst := some 58, op := Op.call { callee := Callee.value (Operand.func 18), args := #[Operand.tmp 53, Operand.tmp 57], argTypes := #[24, 24] }, type := 4, pos := "law.go:30", after := #[{ on := 16, ground := Ground.data }, { on := 20, ground := Ground.data }, { on := 20, ground := Ground.chain }, { on := 12, ground := Ground.guard }], guard := some (12, true) }) rfl (fun K hK => ?_) AllReadyH.nil
        go_simp
        go_at_call 18
        with_reducible refine (unhide HSE U V u v _ (unhide HU2) (unhide HV1)).mono ?_
        rintro e wm ⟨rfl, rfl⟩
        go_wp2_with fail
        refine hK.out _ _ ?_ (fun hHeld => ?_)
        · exact hHeld
        clear hK K
        try simp only [Act.put, List.setIfInBounds_toArray, List.set_cons_zero, List.set_cons_succ]
        refine wpAnyH_take (i := 22) (oi := { dst := some 59, op := Op.pick (Operand.tmp 49) (Operand.tmp 58) (Operand.const (Value.bool false)), type := 4, pos := "law.go:30", after := #[{ on := 12, ground := Ground.data }, { on := 21, ground := Ground.data }], guard := none }) (v := ?_) rfl (by kernel_rfl) (by kernel_rfl) (by kernel_rfl) (fun _ _ _ h => h) (Or.inl ⟨by rfl, ?_⟩) (by assumption) ?_
        rotate_left
        · intro w hSw
          go_simp
          try with_reducible rfl
        try simp only [Act.put, List.setIfInBounds_toArray, List.set_cons_zero, List.set_cons_succ]
        refine wpAnyH_take (i := 23) (oi := { dst := some 60, op := Op.move (Operand.tmp 59), type := 4, pos := "law.go:30", after := #[{ on := 22, ground := Ground.data }, { on := 21, ground := Ground.chain }], guard := none }) (v := ?_) rfl (by kernel_rfl) (by kernel_rfl) (by kernel_rfl) (fun _ _ _ h => h) (Or.inl ⟨by rfl, ?_⟩) (by assumption) ?_
        rotate_left
        · intro w hSw
          go_simp
          try with_reducible rfl
        try simp only [Act.put, List.setIfInBounds_toArray, List.set_cons_zero, List.set_cons_succ]
        refine wpAnyH_take (i := 24) (oi := { dst := some 61, op := Op.load 52 (Operand.tmp 4), type := 52, pos := "law.go:30", after := #[{ on := 23, ground := Ground.guard }], guard := some (23, true) }) (v := ?_) rfl (by kernel_rfl) (by kernel_rfl) (by kernel_rfl) (fun _ _ _ h => h) (Or.inl ⟨by rfl, ?_⟩) (by assumption) ?_
        rotate_left
        · intro w hSw
          go_simp
          try with_reducible rfl
        try simp only [Act.put, List.setIfInBounds_toArray, List.set_cons_zero, List.set_cons_succ]
        refine wpAnyH_take (i := 25) (oi := { dst := some 62, op := Op.move (Operand.tmp 1), type := 4, pos := "law.go:30", after := #[{ on := 23, ground := Ground.guard }], guard := some (23, true) }) (v := ?_) rfl (by kernel_rfl) (by kernel_rfl) (by kernel_rfl) (fun _ _ _ h => h) (Or.inl ⟨by rfl, ?_⟩) (by assumption) ?_
        rotate_left
        · intro w hSw
          go_simp
          try with_reducible rfl
        try simp only [Act.put, List.setIfInBounds_toArray, List.set_cons_zero, List.set_cons_succ]
        refine wpAnyH_take (i := 26) (oi := { dst := some 63, op := Op.move (Operand.tmp 11), type := 24, pos := "law.go:30", after := #[{ on := 23, ground := Ground.guard }], guard := some (23, true) }) (v := ?_) rfl (by kernel_rfl) (by kernel_rfl) (by kernel_rfl) (fun _ _ _ h => h) (Or.inl ⟨by rfl, ?_⟩) (by assumption) ?_
        rotate_left
        · intro w hSw
          go_simp
          try with_reducible rfl
        try simp only [Act.put, List.setIfInBounds_toArray, List.set_cons_zero, List.set_cons_succ]
        refine wpAnyH_take (i := 29) (oi := { dst := some 66, op := Op.load 52 (Operand.tmp 4), type := 52, pos := "law.go:30", after := #[{ on := 23, ground := Ground.guard }], guard := some (23, true) }) (v := ?_) rfl (by kernel_rfl) (by kernel_rfl) (by kernel_rfl) (fun _ _ _ h => h) (Or.inl ⟨by rfl, ?_⟩) (by assumption) ?_
        rotate_left
        · intro w hSw
          go_simp
          try with_reducible rfl
        try simp only [Act.put, List.setIfInBounds_toArray, List.set_cons_zero, List.set_cons_succ]
        refine wpAnyH_take (i := 30) (oi := { dst := some 67, op := Op.move (Operand.tmp 1), type := 4, pos := "law.go:30", after := #[{ on := 23, ground := Ground.guard }], guard := some (23, true) }) (v := ?_) rfl (by kernel_rfl) (by kernel_rfl) (by kernel_rfl) (fun _ _ _ h => h) (Or.inl ⟨by rfl, ?_⟩) (by assumption) ?_
        rotate_left
        · intro w hSw
          go_simp
          try with_reducible rfl
        try simp only [Act.put, List.setIfInBounds_toArray, List.set_cons_zero, List.set_cons_succ]
        refine wpAnyH_take (i := 31) (oi := { dst := some 68, op := Op.move (Operand.tmp 9), type := 24, pos := "law.go:30", after := #[{ on := 23, ground := Ground.guard }], guard := some (23, true) }) (v := ?_) rfl (by kernel_rfl) (by kernel_rfl) (by kernel_rfl) (fun _ _ _ h => h) (Or.inl ⟨by rfl, ?_⟩) (by assumption) ?_
        rotate_left
        · intro w hSw
          go_simp
          try with_reducible rfl
        try simp only [Act.put, List.setIfInBounds_toArray, List.set_cons_zero, List.set_cons_succ]
        refine wpAnyH_ready (rs := [27]) (by kernel_rfl) (by simp) ?_
        refine AllReadyH.cons (o := { dst := some 64, op := Op.buildSlice 23 1 #[(0, Operand.tmp 63)], type := 23, pos := "law.go:30", after := #[{ on := 26, ground := Ground.data }, { on := 23, ground := Ground.guard }], guard := some (23, true) }) rfl (fun K hK => ?_) AllReadyH.nil
        go_simp
        have HKB := hide (BackS.k hHeld.2.2)
        have HLT := hide hHeld.2.2.lt_
        have HCL := hide (And.intro hHeld.1 hHeld.2.1)
        refine hK.out _ _ ?_ (fun hHeld => ?_)
        · exact back_step hHeld ((Keeps.refl _).alloc _)
        clear hK K
        try simp only [Act.put, List.setIfInBounds_toArray, List.set_cons_zero, List.set_cons_succ]
        refine wpAnyH_ready (rs := [28]) (by kernel_rfl) (by simp) ?_
        refine AllReadyH.cons (o := { dst := some 65, op := Op.call { callee := Callee.value (Operand.func 41), args := #[Operand.tmp 61, Operand.tmp 62, Operand.tmp 64], argTypes := #[52, 4, 23] }, type := 24, pos := "law.go:30", after := #[{ on := 24, ground := Ground.data }, { on := 25, ground := Ground.data }, { on := 27, ground := Ground.data }, { on := 23, ground := Ground.chain }, { on := 23, ground := Ground.guard }], guard := some (23, true) }) rfl (fun K hK => ?_) AllReadyH.nil
        go_simp
        go_at_call 41
        with_reducible refine (unhide HC28 _ _ rfl (unhide HKB)).mono ?_
        rintro e w28 ⟨U3, u3, rfl, hU, hkz⟩
        have HU3 := hide hU
        clear hU
        go_wp2_with fail
        refine hK.out _ _ ?_ (fun hHeld => ?_)
        · exact ⟨(Below.cell (p := ⟨w.heap.size, 0, none⟩) hkz (unhide HLT)).trans (unhide HCL).1, (Below.cell (p := ⟨w.heap.size, 1, none⟩) hkz (unhide HLT)).trans (unhide HCL).2, Nat.lt_of_lt_of_le (unhide HLT) hkz.size, (unhide HKB).trans hkz⟩
        clear hK K
        try simp only [Act.put, List.setIfInBounds_toArray, List.set_cons_zero, List.set_cons_succ]
        refine wpAnyH_ready (rs := [32]) (by kernel_rfl) (by simp) ?_
        refine AllReadyH.cons (o := { dst := some 69, op := Op.call { callee := Callee.value (Operand.func 42), args := #[Operand.tmp 66, Operand.tmp 67, Operand.tmp 68], argTypes := #[52, 4, 24] }, type := 24, pos := "law.go:30", after := #[{ on := 29, ground := Ground.data }, { on := 30, ground := Ground.data }, { on := 31, ground := Ground.data }, { on := 28, ground := Ground.chain }, { on := 23, ground := Ground.guard }], guard := some (23, true) }) rfl (fun K hK => ?_) AllReadyH.nil
        go_simp
        go_at_call 42
        with_reducible refine (unhide HC20 _ (BackS.k hHeld.2.2)).mono ?_
        rintro e w32 ⟨V3, v3, rfl, hV, hkz⟩
        have HV3 := hide hV
        have HU4 := hide ((unhide HU3).keeps hkz)
        clear hV HU3
        go_wp2_with fail
        refine hK.out _ _ ?_ (fun hHeld => ?_)
        · exact back_step hHeld hkz
        clear hK K
        try simp only [Act.put, List.setIfInBounds_toArray, List.set_cons_zero, List.set_cons_succ]
        refine wpAnyH_ready (rs := [33]) (by kernel_rfl) (by simp) ?_
        refine AllReadyH.cons (o := { dst := some 70, op := Op.call { callee := Callee.value (Operand.func 18), args := #[Operand.tmp 65, Operand.tmp 69], argTypes := #[24, 24] }, type := 4, pos := "law.go:30", after := #[{ on := 28, ground := Ground.data }, { on := 32, ground := Ground.data }, { on := 32, ground := Ground.chain }, { on := 23, ground := Ground.guard }], guard := some (23, true) }) rfl (fun K hK => ?_) AllReadyH.nil
        go_simp
        go_at_call 18
        with_reducible refine (unhide HSE U3 V3 u3 v3 _ (unhide HU4) (unhide HV3)).mono ?_
        rintro e wm ⟨rfl, rfl⟩
        go_wp2_with fail
        refine hK.out _ _ ?_ (fun hHeld => ?_)
        · exact hHeld
        clear hK K
        try simp only [Act.put, List.setIfInBounds_toArray, List.set_cons_zero, List.set_cons_succ]
        refine wpAnyH_take (i := 34) (oi := { dst := some 71, op := Op.pick (Operand.tmp 60) (Operand.tmp 70) (Operand.const (Value.bool false)), type := 4, pos := "law.go:30", after := #[{ on := 23, ground := Ground.data }, { on := 33, ground := Ground.data }], guard := none }) (v := ?_) rfl (by kernel_rfl) (by kernel_rfl) (by kernel_rfl) (fun _ _ _ h => h) (Or.inl ⟨by rfl, ?_⟩) (by assumption) ?_
        rotate_left
        · intro w hSw
          go_simp
          try with_reducible rfl
        try simp only [Act.put, List.setIfInBounds_toArray, List.set_cons_zero, List.set_cons_succ]
        refine wpAnyH_take (i := 35) (oi := { dst := some 72, op := Op.move (Operand.tmp 71), type := 4, pos := "law.go:30", after := #[{ on := 34, ground := Ground.data }, { on := 33, ground := Ground.chain }], guard := none }) (v := ?_) rfl (by kernel_rfl) (by kernel_rfl) (by kernel_rfl) (fun _ _ _ h => h) (Or.inl ⟨by rfl, ?_⟩) (by assumption) ?_
        rotate_left
        · intro w hSw
          go_simp
          try with_reducible rfl
        try simp only [Act.put, List.setIfInBounds_toArray, List.set_cons_zero, List.set_cons_succ]
        refine wpAnyH_take (i := 36) (oi := { dst := some 73, op := Op.move (Operand.tmp 11), type := 24, pos := "law.go:30", after := #[{ on := 35, ground := Ground.guard }], guard := some (35, true) }) (v := ?_) rfl (by kernel_rfl) (by kernel_rfl) (by kernel_rfl) (fun _ _ _ h => h) (Or.inl ⟨by rfl, ?_⟩) (by assumption) ?_
        rotate_left
        · intro w hSw
          go_simp
          try with_reducible rfl
        try simp only [Act.put, List.setIfInBounds_toArray, List.set_cons_zero, List.set_cons_succ]
        refine wpAnyH_take (i := 37) (oi := { dst := some 74, op := Op.move (Operand.tmp 9), type := 24, pos := "law.go:30", after := #[{ on := 35, ground := Ground.guard }], guard := some (35, true) }) (v := ?_) rfl (by kernel_rfl) (by kernel_rfl) (by kernel_rfl) (fun _ _ _ h => h) (Or.inl ⟨by rfl, ?_⟩) (by assumption) ?_
        rotate_left
        · intro w hSw
          go_simp
          try with_reducible rfl
        try simp only [Act.put, List.setIfInBounds_toArray, List.set_cons_zero, List.set_cons_succ]
        refine wpAnyH_ready (rs := [38]) (by kernel_rfl) (by simp) ?_
        refine AllReadyH.cons (o := { dst := some 75, op := Op.call { callee := Callee.value (Operand.func 28), args := #[Operand.tmp 73, Operand.tmp 74, Operand.const (Value.int IntKind.u8 71)], argTypes := #[24, 24, 5] }, type := 4, pos := "law.go:30", after := #[{ on := 36, ground := Ground.data }, { on := 37, ground := Ground.data }, { on := 35, ground := Ground.chain }, { on := 35, ground := Ground.guard }], guard := some (35, true) }) rfl (fun K hK => ?_) AllReadyH.nil
        go_simp
        go_at_call 28
        with_reducible refine (unhide HC38 _ (BackS.k hHeld.2.2)).mono ?_
        rintro e w38 ⟨rfl, hkz⟩
        go_wp2_with fail
        refine hK.out _ _ ?_ (fun hHeld => ?_)
        · exact back_step hHeld hkz
        clear hK K
        try simp only [Act.put, List.setIfInBounds_toArray, List.set_cons_zero, List.set_cons_succ]
        refine wpAnyH_take (i := 39) (oi := { dst := some 76, op := Op.pick (Operand.tmp 72) (Operand.tmp 75) (Operand.const (Value.bool false)), type := 4, pos := "law.go:30", after := #[{ on := 35, ground := Ground.data }, { on := 38, ground := Ground.data }], guard := none }) (v := ?_) rfl (by kernel_rfl) (by kernel_rfl) (by kernel_rfl) (fun _ _ _ h => h) (Or.inl ⟨by rfl, ?_⟩) (by assumption) ?_
        rotate_left
        · intro w hSw
          go_simp
          try with_reducible rfl
        try simp only [Act.put, List.setIfInBounds_toArray, List.set_cons_zero, List.set_cons_succ]
        refine wpAnyH_take (i := 40) (oi := { dst := some 8, op := Op.assign (Operand.tmp 76), type := 4, pos := "law.go:30", after := #[{ on := 39, ground := Ground.data }, { on := 38, ground := Ground.chain }, { on := 0, ground := Ground.phase }, { on := 1, ground := Ground.phase }, { on := 2, ground := Ground.phase }, { on := 3, ground := Ground.phase }, { on := 4, ground := Ground.phase }, { on := 5, ground := Ground.phase }, { on := 6, ground := Ground.phase }, { on := 7, ground := Ground.phase }, { on := 8, ground := Ground.phase }, { on := 9, ground := Ground.phase }, { on := 10, ground := Ground.phase }, { on := 11, ground := Ground.phase }, { on := 12, ground := Ground.phase }, { on := 13, ground := Ground.phase }, { on := 14, ground := Ground.phase }, { on := 15, ground := Ground.phase }, { on := 16, ground := Ground.phase }, { on := 17, ground := Ground.phase }, { on := 18, ground := Ground.phase }, { on := 19, ground := Ground.phase }, { on := 20, ground := Ground.phase }, { on := 21, ground := Ground.phase }, { on := 22, ground := Ground.phase }, { on := 23, ground := Ground.phase }, { on := 24, ground := Ground.phase }, { on := 25, ground := Ground.phase }, { on := 26, ground := Ground.phase }, { on := 27, ground := Ground.phase }, { on := 28, ground := Ground.phase }, { on := 29, ground := Ground.phase }, { on := 30, ground := Ground.phase }, { on := 31, ground := Ground.phase }, { on := 32, ground := Ground.phase }, { on := 33, ground := Ground.phase }, { on := 34, ground := Ground.phase }, { on := 35, ground := Ground.phase }, { on := 36, ground := Ground.phase }, { on := 37, ground := Ground.phase }, { on := 38, ground := Ground.phase }, { on := 39, ground := Ground.phase }], guard := none }) (v := ?_) rfl (by kernel_rfl) (by kernel_rfl) (by kernel_rfl) (fun _ _ _ h => h) (Or.inl ⟨by rfl, ?_⟩) (by assumption) ?_
        rotate_left
        · intro w hSw
          go_simp
          try with_reducible rfl
        try simp only [Act.put, List.setIfInBounds_toArray, List.set_cons_zero, List.set_cons_succ]
        refine wpAnyH_done (by kernel_rfl) ?_ _
        go_wp2
        go_ret
        exact ⟨rfl, (unhide HK1).trans (BackS.k hHeld.2.2)⟩
end Go.Proofs.Ytpogpjnbgdbpfaa
