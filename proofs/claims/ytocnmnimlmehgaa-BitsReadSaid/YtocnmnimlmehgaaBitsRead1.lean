/- The walk of BitsRead. -/
import Derived.Test.YtocnmnimlmehgaaOps1
import Derived.Test.YtocnmnimlmehgaaRefRO
import Derived.Test.YtocnmnimlmehgaaSpoilF
import Derived.Deep.RegionHeld3
namespace Go.Proofs.Ytocnmnimlmehgaa
open Go.ChangeShapes Go.WideShapes Go.ChangeAt Go.RowKit

/-- Octets, by the program and by the reference: the same. -/
theorem octBoth (xs : List Int) (at_ : Nat) (f n : Int) (hx : B8 xs) (hl : xs.length ≤ 3000) (ha : at_ ≤ 8 * xs.length) (hn0 : -9223372036854775808 ≤ n) (hn1 : n ≤ 9223372036854775807) :
    ∃ at2 f2 ys, at2 ≤ 8 * xs.length ∧ B8 ys ∧ ys.length ≤ 3000 ∧
      (∀ w g A c, RV w g A c xs at_ f → xs.length ≤ c → Calls Try.prog 26 #[.pointer (some ⟨g, 0, none⟩), .int .i64 n] w (GivesRd w g A c xs at2 f2 ys)) ∧
      (∀ w g A c, QV w g A c xs at_ f → Calls Try.prog 27 #[.pointer (some ⟨g, 0, none⟩), .int .i64 n] w (GivesQ w g A c xs at2 f2 ys)) := by
  by_cases h : f ≠ 0 ∨ ((8 * xs.length - at_) / 8 : Nat) < n
  · exact ⟨at_, if f = 0 then 3 else f, [], ha, fun x hx => by simp at hx, by simp, fun w g A c hR _ => rdOctetsNo_any n hR (by omega) ha hn0 hn1 h, fun w g A c hQ => refOctetsNo_any n hQ (by omega) ha h⟩
  · have hf : f = 0 := by
      by_cases hf : f = 0
      · exact hf
      · exact absurd (.inl hf) h
    subst hf
    have hle : ¬ ((8 * xs.length - at_) / 8 : Nat) < n := fun h2 => h (.inr h2)
    obtain ⟨m, hm1, hm2⟩ : ∃ m : Nat, max n 0 = (m : Int) ∧ max 0 n = (m : Int) := ⟨(max n 0).toNat, by omega, by omega⟩
    have hy : at_ + 8 * m ≤ 8 * xs.length := by omega
    exact ⟨at_ + 8 * m, 0, rdO xs at_ m, hy, rdO_bytes _ _ _, by rw [rdO_length]; omega, fun w g A c hR hc => rdOctets_any n m hm1 hR hx (by omega) ha hc hy (by omega), fun w g A c hQ => refOctets_any n m hm2 hQ hx (by omega) ha hy (by omega)⟩

/-- What the loop of BitsRead keeps: both readers stand at the same place. -/
def RdInv (w : World) (gr gq : Nat) (A Ab : Option Addr) (c cb : Nat) (xs : List Int) (wr : World) : Prop :=
  Keeps w wr ∧ ∃ at_ f, at_ ≤ 8 * xs.length ∧ RV wr gr A c xs at_ f ∧ QV wr gq Ab cb xs at_ f
/-- Where things lie. -/
def RdLay (w : World) (gr gq : Nat) (A Ab : Option Addr) (L sz : Nat) : Prop :=
  w.heap.size ≤ gr ∧ gr < gq ∧ gq < sz ∧ (∀ b, rowOf A = some b → w.heap.size ≤ b ∧ b < gr) ∧ (0 < L → ∀ b, rowOf Ab = some b → b < w.heap.size)
section
variable {w wr w1 : World} {gr gq : Nat} {A Ab : Option Addr} {c cb : Nat} {xs : List Int} {at_ : Nat} {f : Int} {sz : Nat}
/-- A call on the program's reader leaves the reference's. -/
theorem q_stays (hL : RdLay w gr gq A Ab xs.length sz) (hQ : QV wr gq Ab cb xs at_ f) (hf : Fr gr none wr w1) : QV w1 gq Ab cb xs at_ f :=
  hQ.fr hf (by have := hL.2.1; omega) (fun e => by cases e) (fun hl b e => ⟨by have := hL.2.2.2.2 hl b e; have := hL.1; omega, fun e => by cases e⟩)
theorem r_stays (hL : RdLay w gr gq A Ab xs.length sz) (hR : RV wr gr A c xs at_ f) (hf : Fr gq none wr w1) : RV w1 gr A c xs at_ f :=
  hR.fr hf (by have := hL.2.1; omega) (fun e => by cases e) (fun b e => ⟨by have := (hL.2.2.2.1 b e).2; have := hL.2.1; omega, fun e => by cases e⟩)
theorem both_new (hL : RdLay w gr gq A Ab xs.length sz) (hR : RV wr gr A c xs at_ f) (hQ : QV wr gq Ab cb xs at_ f) {gx : Nat} (hx : gq < gx) (hf : Fr gx none wr w1) : RV w1 gr A c xs at_ f ∧ QV w1 gq Ab cb xs at_ f :=
  ⟨hR.fr hf (by have := hL.2.1; omega) (fun e => by cases e) (fun b e => ⟨by have := (hL.2.2.2.1 b e).2; have := hL.2.1; omega, fun e => by cases e⟩),
   hQ.fr hf (by omega) (fun e => by cases e) (fun hl b e => ⟨by have := hL.2.2.2.2 hl b e; have := hL.1; have := hL.2.1; omega, fun e => by cases e⟩)⟩
theorem k_r (hL : RdLay w gr gq A Ab xs.length sz) (hk : Keeps w wr) (hf : Fr gr none wr w1) : Keeps w w1 := fr_keeps hk hf hL.1 (fun b e => by cases e)
theorem k_q (hL : RdLay w gr gq A Ab xs.length sz) (hk : Keeps w wr) (hf : Fr gq none wr w1) : Keeps w w1 := fr_keeps hk hf (by have := hL.1; have := hL.2.1; omega) (fun b e => by cases e)
end
theorem one_cell {w w' : World} {g go i : Nat} {u : Value} (h : w.cell? ⟨go, i, none⟩ = some u ∧ True) (hf : Fr g none w w') (hg : go ≠ g) (hlt : go < w.heap.size) : w'.cell? ⟨go, i, none⟩ = some u ∧ True :=
  ⟨(World.cell?_of_block (a := ⟨go, i, none⟩) (hf.2.2.2.2 go hlt hg (fun e => by cases e))).trans h.1, trivial⟩
/-- What the last region of a round finds, in whatever order. -/
def TlS (g : Nat) (w3 w' : World) : Prop := g < w3.heap.size ∧ Keeps w3 w'
theorem tl_step {g i : Nat} {w3 w w' : World} {u : Value} (h : w.cell? ⟨g, i, none⟩ = some u ∧ TlS g w3 w) (hk : Keeps w w') : w'.cell? ⟨g, i, none⟩ = some u ∧ TlS g w3 w' :=
  ⟨(Below.cell (p := ⟨g, i, none⟩) hk (Nat.lt_of_lt_of_le h.2.1 h.2.2.size)).trans h.1, h.2.1, h.2.2.trans hk⟩
theorem tl_size {g i : Nat} {w3 w : World} {u : Value} (h : w.cell? ⟨g, i, none⟩ = some u ∧ TlS g w3 w) : w3.heap.size ≤ w.heap.size := h.2.2.size
theorem tl_k {g i : Nat} {w3 w : World} {u : Value} (h : w.cell? ⟨g, i, none⟩ = some u ∧ TlS g w3 w) : Keeps w3 w := h.2.2

set_option maxRecDepth 100000 in
set_option maxHeartbeats 4000000 in
theorem bitsRead_any (Ab P : Option Addr) (xs : List Int) (cb : Nat) (ps : List OpV) (c0 : Nat) (w : World) (hh : Holds w Ab xs) (hx : B8 xs) (hxl : xs.length ≤ maxLen) (hp : OpsAny w P ps) (hpl : ps.length ≤ maxLen) :
    Calls Try.prog 4 #[.slice Ab xs.length cb, .slice P ps.length c0] w fun e w' => e = .returned (.bool true) ∧ Keeps w w' := by
  have hm : ps.length ≤ 9223372036854775807 := by unfold maxLen at hpl; exact hpl
  have hm2 : xs.length ≤ 9223372036854775807 := by unfold maxLen at hxl; exact hxl
  clear hpl hxl
  have hAb : 0 < xs.length → ∀ b, rowOf Ab = some b → b < w.heap.size := fun h0 b e => by
    obtain ⟨ad, ea, hb, _⟩ := hh.2 h0
    rw [ea] at e
    injection e with e
    change ad.block = b at e
    omega
  have HP := hide hp
  clear hp
  generalize hn : ps.length = np at *
  have HN := hide hn
  clear hn
  rcases Nat.lt_or_ge 3000 xs.length with hbig | hsm
  · clear hh hx hAb
    go_enter Try.func4, Try.ntmps4
    go_wp2_with (go_at_call 9; refine (awake01_any _).mono ?_; rintro e w1 ⟨rfl, hk⟩)
    go_ret
    exact ⟨rfl, hk⟩
  · clear hm2
    have HH := hide hh
    have HX := hide hx
    have HAB := hide hAb
    have HCO := hide (own_any Ab xs cb 71 (by omega) w hh)
    clear hh hx hAb
    go_enter Try.func4, Try.ntmps4
    go_wp2_with fail
    with_reducible refine (unhide HCO).mono ?_
    rintro e w1 ⟨gi, rfl, hbi, hgi, hk1⟩
    have hgil := hbi.lt
    have HBI := hide hbi
    have HK1 := hide hk1
    have HCN := hide (new_any (some ⟨gi, 0, none⟩) xs (xs.length + 3) w1 (ownCells_holds hbi) (by omega))
    clear hbi hk1
    go_wp2_with fail
    with_reducible refine (unhide HCN).mono ?_
    rintro e w2 ⟨gr, A, c, rfl, hrv, hgr, hrow, hk2, hcl⟩
    have hz1 := (unhide HK1).size
    have hz2 := hk2.size
    have hgrl := hrv.1.lt
    have HRV := hide (show RV (w2.alloc (.cells #[.slice Ab xs.length cb, .int .i64 0, .int .i64 0] 48)) gr A c xs 0 0 from ⟨hrv.1.alloc _, hrv.2.1.alloc _, hrv.2.2⟩)
    have HQV := hide (show QV (w2.alloc (.cells #[.slice Ab xs.length cb, .int .i64 0, .int .i64 0] 48)) w2.heap.size Ab cb xs 0 0 from
      ⟨Blk.new _ _ _, ((unhide HH).keeps ((unhide HK1).trans hk2)).alloc _, fun hl b e => by have := unhide HAB hl b e; omega⟩)
    have HLAY := hide (show RdLay w gr w2.heap.size A Ab xs.length (w2.heap.size + 1) from ⟨by omega, hgrl, by omega, fun b e => ⟨by have := (hrow b e).1; omega, (hrow b e).2⟩, unhide HAB⟩)
    have HK2 := hide (((unhide HK1).trans hk2).alloc (.cells #[.slice Ab xs.length cb, .int .i64 0, .int .i64 0] 48))
    have HBI2 := hide (((unhide HBI).keeps hk2).alloc (.cells #[.slice Ab xs.length cb, .int .i64 0, .int .i64 0] 48))
    have HROW := hide hrow
    clear hrv hrow hk2
    go_wp2_with fail
    refine (awake01_any _).mono ?_
    rintro e w3 ⟨rfl, hk3⟩
    have HK3 := hide hk3
    have HBI3 := hide ((unhide HBI2).keeps hk3)
    have HCK := hide (kept_any gi Ab xs cb 71 (by omega) w3 ((unhide HBI2).keeps hk3) ((unhide HH).keeps ((unhide HK2).trans hk3)))
    clear hk3
    go_wp2_with fail
    with_reducible refine (unhide HCK).mono ?_
    rintro e w4 ⟨rfl, hk4⟩
    have hbi4 := (unhide HBI3).keeps hk4
    have HCS := hide (spoilF_any (some ⟨gi, 0, none⟩) gi xs xs.length (xs.length + 3) w4 rfl (fun _ => rfl) (ownCells_holds hbi4) (unhide HX) (fun i hi => hbi4.frozen i) (by omega))
    have HK4 := hide hk4
    clear hk4 hbi4
    go_wp2_with fail
    with_reducible refine (unhide HCS).mono ?_
    rintro e w5 ⟨rfl, hf5⟩
    have hsz5 : w2.heap.size + 1 ≤ w5.heap.size := by
      have h1 := (unhide HK3).size
      have h2 := (unhide HK4).size
      have h3 := hf5.2.2.2.1
      rw [World.size_alloc] at h1
      omega
    have HI := hide (show RdInv w gr w2.heap.size A Ab c cb xs w5 from ⟨fr_keeps (((unhide HK2).trans (unhide HK3)).trans (unhide HK4)) hf5 (by omega) (fun b e => by cases e), 0, 0, by omega,
      (((unhide HRV).keeps (unhide HK3)).keeps (unhide HK4)).fr hf5 (by omega) (fun e => by cases e) (fun b e => ⟨by have := (unhide HROW b e).1; omega, fun e => by cases e⟩),
      (((unhide HQV).keeps (unhide HK3)).keeps (unhide HK4)).fr hf5 (by omega) (fun e => by cases e) (fun hl b e => ⟨by have := unhide HAB hl b e; omega, fun e => by cases e⟩)⟩)
    have hgq : w.heap.size ≤ w2.heap.size := by omega
    clear hf5
    generalize hgqe : w2.heap.size = gq at *
    clear hgqe
    go_wp2
    go_loopw [8] (fun i wr => ∃ k : Nat, k ≤ np ∧ k ≤ 200 ∧ i = .int .i64 k ∧ RdInv w gr gq A Ab c cb xs wr ∧ gq < wr.heap.size) (fun i _ => np - (intOf i).toNat)
    case atStart => exact ⟨0, by omega, by omega, rfl, unhide HI, by omega⟩
    case round =>
      obtain ⟨k, hk, hk1, rfl, hI, hgqz⟩ := hrel
      by_cases hlt : k < np ∧ k < 200
      · obtain ⟨hlt, hlt200⟩ := hlt
        obtain ⟨hkp, at0, f, hat, hR, hQ⟩ := hI
        obtain ⟨b, o, kind, x, v, qa, qc, bs, rfl, hq, hc0, hc1, hc2, hc3, _, _, _, _, _, hx0, hx1⟩ := ((unhide HP).keeps hkp).at_ (k := k) (by rw [unhide HN]; exact hlt)
        have hop := (Keeps.refl wr).alloc (.cells #[.int .i64 kind, .int .i64 x, .int .u32 v, .slice qa bs.length qc] 32)
        have hOb := Blk.new wr 32 #[.int .i64 kind, .int .i64 x, .int .u32 v, .slice qa bs.length qc]
        have hOd : (wr.alloc (.cells #[.int .i64 kind, .int .i64 x, .int .u32 v, .slice qa bs.length qc] 32)).drew.cell? ⟨wr.heap.size, 1, none⟩ = some (.int .i64 x) := hOb.drew.cell 1
        have hwz := hkp.size
        have HRO := hide (hR.keeps hop)
        have HQO := hide (hQ.keeps hop)
        have HKP := hide (hkp.trans hop)
        have HOB := hide hOb
        have HOD := hide hOd
        clear hkp hR hQ hop hOb hq hOd
        by_cases h1 : kind = 1
        · subst h1
          obtain ⟨nb, hK1, hK2⟩ : ∃ K : Nat, min (max x 0) 32 = (K : Int) ∧ max 0 (min x 32) = (K : Int) := ⟨(min (max x 0) 32).toNat, by omega, by omega⟩
          have HC1 := hide (rdBits_any x nb hK1 (unhide HRO).drew (unhide HX) (by omega) hat)
          have HK2b := hide hK2
          have HAT2 := hide (rdAt_le (f := f) (n := nb) hat)
          clear hK1 hK2
          go_wp2
          refine wp_region_held_drew (S := fun w' => w'.cell? ⟨wr.heap.size, 1, none⟩ = some (.int .i64 x) ∧ True) (by kernel_rfl) ?_ (fun hHeld => ?_)
          · exact ⟨unhide HOD, trivial⟩
          refine wpAnyH_take (i := 0) (oi := { dst := some 60, op := Op.move (Operand.tmp 6), type := 43, pos := "law.go:88", after := #[], guard := none }) (v := ?_) rfl (by kernel_rfl) (by kernel_rfl) (by kernel_rfl) (fun _ _ _ h => h) (Or.inl ⟨by rfl, ?_⟩) (by assumption) ?_
          rotate_left
          · intro w hSw
            go_simp
            try with_reducible rfl
          try simp only [Act.put, List.setIfInBounds_toArray, List.set_cons_zero, List.set_cons_succ]
          refine wpAnyH_take (i := 1) (oi := { dst := some 61, op := Op.fieldAddr 32 (Operand.tmp 9) 1, type := 0, pos := "law.go:88", after := #[], guard := none }) (v := ?_) rfl (by kernel_rfl) (by kernel_rfl) (by kernel_rfl) (fun _ _ _ h => h) (Or.inl ⟨by rfl, ?_⟩) (by assumption) ?_
          rotate_left
          · intro w hSw
            go_simp
            try with_reducible rfl
          try simp only [Act.put, List.setIfInBounds_toArray, List.set_cons_zero, List.set_cons_succ]
          refine wpAnyH_take (i := 2) (oi := { dst := some 62, op := Op.load 3 (Operand.tmp 61), type := 3, pos := "law.go:88", after := #[{ on := 1, ground := Ground.data }], guard := none }) (v := ?_) rfl (by kernel_rfl) (by kernel_rfl) (by kernel_rfl) (fun _ _ _ h => h) (Or.inl ⟨by rfl, ?_⟩) (by assumption) ?_
          rotate_left
          · intro w hSw
            go_simp
            try with_reducible rfl
          try simp only [Act.put, List.setIfInBounds_toArray, List.set_cons_zero, List.set_cons_succ]
          refine wpAnyH_take (i := 4) (oi := { dst := some 64, op := Op.move (Operand.tmp 7), type := 45, pos := "law.go:88", after := #[], guard := none }) (v := ?_) rfl (by kernel_rfl) (by kernel_rfl) (by kernel_rfl) (fun _ _ _ h => h) (Or.inl ⟨by rfl, ?_⟩) (by assumption) ?_
          rotate_left
          · intro w hSw
            go_simp
            try with_reducible rfl
          try simp only [Act.put, List.setIfInBounds_toArray, List.set_cons_zero, List.set_cons_succ]
          refine wpAnyH_take (i := 5) (oi := { dst := some 65, op := Op.fieldAddr 32 (Operand.tmp 9) 1, type := 0, pos := "law.go:88", after := #[], guard := none }) (v := ?_) rfl (by kernel_rfl) (by kernel_rfl) (by kernel_rfl) (fun _ _ _ h => h) (Or.inl ⟨by rfl, ?_⟩) (by assumption) ?_
          rotate_left
          · intro w hSw
            go_simp
            try with_reducible rfl
          try simp only [Act.put, List.setIfInBounds_toArray, List.set_cons_zero, List.set_cons_succ]
          refine wpAnyH_take (i := 6) (oi := { dst := some 66, op := Op.load 3 (Operand.tmp 65), type := 3, pos := "law.go:88", after := #[{ on := 5, ground := Ground.data }], guard := none }) (v := ?_) rfl (by kernel_rfl) (by kernel_rfl) (by kernel_rfl) (fun _ _ _ h => h) (Or.inl ⟨by rfl, ?_⟩) (by assumption) ?_
          rotate_left
          · intro w hSw
            go_simp
            try with_reducible rfl
          try simp only [Act.put, List.setIfInBounds_toArray, List.set_cons_zero, List.set_cons_succ]
          refine wpAnyH_ready (rs := [3]) (by kernel_rfl) (by simp) ?_
          refine AllReadyH.cons (o := { dst := some 63, op := Op.call { callee := Callee.value (Operand.func 24), args := #[Operand.tmp 60, Operand.tmp 62], argTypes := #[43, 3] }, type := 30, pos := "law.go:88", after := #[{ on := 0, ground := Ground.data }, { on := 2, ground := Ground.data }], guard := none }) rfl (fun K hK => ?_) AllReadyH.nil
          go_simp
          go_at_call 24
          with_reducible refine (unhide HC1).mono ?_
          rintro e w6 ⟨rfl, hR6, hf6⟩
          have HR6 := hide hR6
          have HF1 := hide hf6
          have hQ6 := q_stays (unhide HLAY) (unhide HQO).drew hf6
          have HC2 := hide (refBitsR_any x nb (unhide HK2b) hQ6 (unhide HX) (by omega) hat)
          clear hR6 hf6 hQ6
          go_wp2_with fail
          refine hK.out _ _ ?_ (fun hHeld => ?_)
          · exact one_cell (by assumption) (unhide HF1) (by have := (unhide HLAY).2.1; omega) (by have e1 : (wr.alloc (.cells #[.int .i64 1, .int .i64 x, .int .u32 v, .slice qa bs.length qc] 32)).drew.heap.size = wr.heap.size + 1 := World.size_alloc _ _; omega)
          clear hK K
          try simp only [Act.put, List.setIfInBounds_toArray, List.set_cons_zero, List.set_cons_succ]
          have hOc : True := trivial
          refine wpAnyH_ready (rs := [7]) (by kernel_rfl) (by simp) ?_
          refine AllReadyH.cons (o := { dst := some 67, op := Op.call { callee := Callee.value (Operand.func 25), args := #[Operand.tmp 64, Operand.tmp 66], argTypes := #[45, 3] }, type := 30, pos := "law.go:88", after := #[{ on := 4, ground := Ground.data }, { on := 6, ground := Ground.data }, { on := 3, ground := Ground.chain }], guard := none }) rfl (fun K hK => ?_) AllReadyH.nil
          go_simp
          go_at_call 25
          with_reducible refine (unhide HC2).mono ?_
          rintro e w7 ⟨rfl, hQ7, hf7⟩
          have HQ7 := hide hQ7
          have HF2 := hide hf7
          have HR7 := hide (r_stays (unhide HLAY) (unhide HR6) hf7)
          clear hQ7 hf7
          go_wp2_with fail
          refine hK.out _ _ ?_ (fun hHeld => ?_)
          · exact one_cell (by assumption) (unhide HF2) (by omega) (by have := (unhide HF1).2.2.2.1; have e1 : (wr.alloc (.cells #[.int .i64 1, .int .i64 x, .int .u32 v, .slice qa bs.length qc] 32)).drew.heap.size = wr.heap.size + 1 := World.size_alloc _ _; omega)
          clear hK K
          try simp only [Act.put, List.setIfInBounds_toArray, List.set_cons_zero, List.set_cons_succ]
          generalize rdVal xs at0 f nb = rv at *
          refine wpAnyH_take (i := 8) (oi := { dst := some 68, op := Op.binOp BinOp.eql 30 (Operand.tmp 63) (Operand.tmp 67) 30, type := 4, pos := "law.go:88", after := #[{ on := 3, ground := Ground.data }, { on := 7, ground := Ground.data }], guard := none }) (v := ?_) rfl (by kernel_rfl) (by kernel_rfl) (by kernel_rfl) (fun _ _ _ h => h) (Or.inl ⟨by rfl, ?_⟩) (by assumption) ?_
          rotate_left
          · intro w hSw
            go_simp
            try with_reducible rfl
          try simp only [Act.put, List.setIfInBounds_toArray, List.set_cons_zero, List.set_cons_succ]
          refine wpAnyH_take (i := 9) (oi := { dst := some 10, op := Op.assign (Operand.tmp 68), type := 4, pos := "law.go:88", after := #[{ on := 8, ground := Ground.data }, { on := 7, ground := Ground.chain }, { on := 0, ground := Ground.phase }, { on := 1, ground := Ground.phase }, { on := 2, ground := Ground.phase }, { on := 3, ground := Ground.phase }, { on := 4, ground := Ground.phase }, { on := 5, ground := Ground.phase }, { on := 6, ground := Ground.phase }, { on := 7, ground := Ground.phase }, { on := 8, ground := Ground.phase }], guard := none }) (v := ?_) rfl (by kernel_rfl) (by kernel_rfl) (by kernel_rfl) (fun _ _ _ h => h) (Or.inl ⟨by rfl, ?_⟩) (by assumption) ?_
          rotate_left
          · intro w hSw
            go_simp
            try with_reducible rfl
          try simp only [Act.put, List.setIfInBounds_toArray, List.set_cons_zero, List.set_cons_succ]
          refine wpAnyH_done (by kernel_rfl) ?_ _
          have HKB := hide (k_q (unhide HLAY) (k_r (unhide HLAY) (unhide HKP).drew (unhide HF1)) (unhide HF2))
          have hsz : gq < w7.heap.size := by have := (unhide HF1).2.2.2.1; have := (unhide HF2).2.2.2.1; have := (unhide HLAY).2.2.1; have e1 : (wr.alloc (.cells #[.int .i64 1, .int .i64 x, .int .u32 v, .slice qa bs.length qc] 32)).drew.heap.size = wr.heap.size + 1 := World.size_alloc _ _; omega
          have hR7 := unhide HR7
          have hQ7 := unhide HQ7
          have hat7 := unhide HAT2
          generalize rdAt (8 * xs.length) at0 f nb = at1 at *
          generalize rdF (8 * xs.length) at0 f nb = f1 at *
          clear hOc
          have hg9 : w7.cell? ⟨gq, 2, none⟩ = some (.int .i64 f1) := hQ7.1.cell 2
          have HR9 := hide hR7
          have HQ9 := hide hQ7
          have HLT9 := hide (fun b e => Nat.lt_trans ((unhide HLAY).2.2.2.1 b e).2 (Nat.lt_trans (unhide HLAY).2.1 hsz))
          clear hR7 hQ7
          go_wp2
          refine wp_region_held_drew (S := fun w' => w'.cell? ⟨gq, 2, none⟩ = some (.int .i64 f1) ∧ TlS gq w7 w') (by kernel_rfl) ?_ (fun hHeld => ?_)
          · exact ⟨hg9, hsz, (Keeps.refl w7).drew⟩
          refine wpAnyH_take (i := 0) (oi := { dst := some 90, op := Op.move (Operand.tmp 10), type := 4, pos := "law.go:98", after := #[], guard := none }) (v := ?_) rfl (by kernel_rfl) (by kernel_rfl) (by kernel_rfl) (fun _ _ _ h => h) (Or.inl ⟨by rfl, ?_⟩) (by assumption) ?_
          rotate_left
          · intro w hSw
            go_simp
            try with_reducible rfl
          try simp only [Act.put, List.setIfInBounds_toArray, List.set_cons_zero, List.set_cons_succ]
          refine wpAnyH_take (i := 1) (oi := { dst := some 91, op := Op.unOp UnOp.not 4 (Operand.tmp 90), type := 4, pos := "law.go:98", after := #[{ on := 0, ground := Ground.data }], guard := none }) (v := ?_) rfl (by kernel_rfl) (by kernel_rfl) (by kernel_rfl) (fun _ _ _ h => h) (Or.inl ⟨by rfl, ?_⟩) (by assumption) ?_
          rotate_left
          · intro w hSw
            go_simp
            try with_reducible rfl
          try simp only [Act.put, List.setIfInBounds_toArray, List.set_cons_zero, List.set_cons_succ]
          refine wpAnyH_take (i := 2) (oi := { dst := some 92, op := Op.move (Operand.tmp 91), type := 4, pos := "law.go:98", after := #[{ on := 1, ground := Ground.data }], guard := none }) (v := ?_) rfl (by kernel_rfl) (by kernel_rfl) (by kernel_rfl) (fun _ _ _ h => h) (Or.inl ⟨by rfl, ?_⟩) (by assumption) ?_
          rotate_left
          · intro w hSw
            go_simp
            try with_reducible rfl
          try simp only [Act.put, List.setIfInBounds_toArray, List.set_cons_zero, List.set_cons_succ]
          refine wpAnyH_take (i := 3) (oi := { dst := some 93, op := Op.move (Operand.tmp 6), type := 43, pos := "law.go:98", after := #[{ on := 2, ground := Ground.guard }], guard := some (2, false) }) (v := ?_) rfl (by kernel_rfl) (by kernel_rfl) (by kernel_rfl) (fun _ _ _ h => h) (Or.inl ⟨by rfl, ?_⟩) (by assumption) ?_
          rotate_left
          · intro w hSw
            go_simp
            try with_reducible rfl
          try simp only [Act.put, List.setIfInBounds_toArray, List.set_cons_zero, List.set_cons_succ]
          refine wpAnyH_take (i := 5) (oi := { dst := some 95, op := Op.move (Operand.tmp 7), type := 45, pos := "law.go:98", after := #[{ on := 2, ground := Ground.guard }], guard := some (2, false) }) (v := ?_) rfl (by kernel_rfl) (by kernel_rfl) (by kernel_rfl) (fun _ _ _ h => h) (Or.inl ⟨by rfl, ?_⟩) (by assumption) ?_
          rotate_left
          · intro w hSw
            go_simp
            try with_reducible rfl
          try simp only [Act.put, List.setIfInBounds_toArray, List.set_cons_zero, List.set_cons_succ]
          refine wpAnyH_ready (rs := [4]) (by kernel_rfl) (by simp) ?_
          refine AllReadyH.cons (o := { dst := some 94, op := Op.call { callee := Callee.value (Operand.func 32), args := #[Operand.tmp 93], argTypes := #[43] }, type := 3, pos := "law.go:98", after := #[{ on := 3, ground := Ground.data }, { on := 2, ground := Ground.chain }, { on := 2, ground := Ground.guard }], guard := some (2, false) }) rfl (fun K hK => ?_) AllReadyH.nil
          go_simp
          go_at_call 32
          with_reducible refine (rdLeft_any ((unhide HR9).keeps (tl_k hHeld)) (by omega) hat7).mono ?_
          rintro e wn ⟨rfl, rfl⟩
          go_wp2_with fail
          refine hK.out _ _ ?_ (fun hHeld => ?_)
          · exact tl_step (by assumption) (Keeps.refl _).drew
          clear hK K
          try simp only [Act.put, List.setIfInBounds_toArray, List.set_cons_zero, List.set_cons_succ]
          refine wpAnyH_ready (rs := [6]) (by kernel_rfl) (by simp) ?_
          refine AllReadyH.cons (o := { dst := some 96, op := Op.call { callee := Callee.value (Operand.func 33), args := #[Operand.tmp 95], argTypes := #[45] }, type := 3, pos := "law.go:98", after := #[{ on := 5, ground := Ground.data }, { on := 4, ground := Ground.chain }, { on := 2, ground := Ground.guard }], guard := some (2, false) }) rfl (fun K hK => ?_) AllReadyH.nil
          go_simp
          go_at_call 33
          with_reducible refine (refLeftM_any ((unhide HQ9).keeps (tl_k hHeld)) (by omega) hat7).mono ?_
          rintro e wn ⟨rfl, rfl⟩
          go_wp2_with fail
          refine hK.out _ _ ?_ (fun hHeld => ?_)
          · exact tl_step (by assumption) (Keeps.refl _).drew
          clear hK K
          try simp only [Act.put, List.setIfInBounds_toArray, List.set_cons_zero, List.set_cons_succ]
          refine wpAnyH_take (i := 7) (oi := { dst := some 97, op := Op.binOp BinOp.neq 3 (Operand.tmp 94) (Operand.tmp 96) 3, type := 4, pos := "law.go:98", after := #[{ on := 4, ground := Ground.data }, { on := 6, ground := Ground.data }, { on := 2, ground := Ground.guard }], guard := some (2, false) }) (v := ?_) rfl (by kernel_rfl) (by kernel_rfl) (by kernel_rfl) (fun _ _ _ h => h) (Or.inl ⟨by rfl, ?_⟩) (by assumption) ?_
          rotate_left
          · intro w hSw
            go_simp
            try with_reducible rfl
          try simp only [Act.put, List.setIfInBounds_toArray, List.set_cons_zero, List.set_cons_succ]
          refine wpAnyH_take (i := 8) (oi := { dst := some 98, op := Op.pick (Operand.tmp 92) (Operand.const (Value.bool true)) (Operand.tmp 97), type := 4, pos := "law.go:98", after := #[{ on := 2, ground := Ground.data }, { on := 7, ground := Ground.data }], guard := none }) (v := ?_) rfl (by kernel_rfl) (by kernel_rfl) (by kernel_rfl) (fun _ _ _ h => h) (Or.inl ⟨by rfl, ?_⟩) (by assumption) ?_
          rotate_left
          · intro w hSw
            go_simp
            try with_reducible rfl
          try simp only [Act.put, List.setIfInBounds_toArray, List.set_cons_zero, List.set_cons_succ]
          refine wpAnyH_take (i := 9) (oi := { dst := some 99, op := Op.move (Operand.tmp 98), type := 4, pos := "law.go:98", after := #[{ on := 8, ground := Ground.data }, { on := 6, ground := Ground.chain }], guard := none }) (v := ?_) rfl (by kernel_rfl) (by kernel_rfl) (by kernel_rfl) (fun _ _ _ h => h) (Or.inl ⟨by rfl, ?_⟩) (by assumption) ?_
          rotate_left
          · intro w hSw
            go_simp
            try with_reducible rfl
          try simp only [Act.put, List.setIfInBounds_toArray, List.set_cons_zero, List.set_cons_succ]
          refine wpAnyH_take (i := 10) (oi := { dst := some 100, op := Op.move (Operand.tmp 6), type := 43, pos := "law.go:98", after := #[{ on := 9, ground := Ground.guard }], guard := some (9, false) }) (v := ?_) rfl (by kernel_rfl) (by kernel_rfl) (by kernel_rfl) (fun _ _ _ h => h) (Or.inl ⟨by rfl, ?_⟩) (by assumption) ?_
          rotate_left
          · intro w hSw
            go_simp
            try with_reducible rfl
          try simp only [Act.put, List.setIfInBounds_toArray, List.set_cons_zero, List.set_cons_succ]
          refine wpAnyH_take (i := 12) (oi := { dst := some 102, op := Op.move (Operand.tmp 7), type := 45, pos := "law.go:98", after := #[{ on := 9, ground := Ground.guard }], guard := some (9, false) }) (v := ?_) rfl (by kernel_rfl) (by kernel_rfl) (by kernel_rfl) (fun _ _ _ h => h) (Or.inl ⟨by rfl, ?_⟩) (by assumption) ?_
          rotate_left
          · intro w hSw
            go_simp
            try with_reducible rfl
          try simp only [Act.put, List.setIfInBounds_toArray, List.set_cons_zero, List.set_cons_succ]
          refine wpAnyH_take (i := 13) (oi := { dst := some 103, op := Op.nilCheck (Operand.tmp 102), type := 0, pos := "law.go:98", after := #[{ on := 12, ground := Ground.data }, { on := 9, ground := Ground.guard }], guard := some (9, false) }) (v := ?_) rfl (by kernel_rfl) (by kernel_rfl) (by kernel_rfl) (fun _ _ _ h => h) (Or.inl ⟨by rfl, ?_⟩) (by assumption) ?_
          rotate_left
          · intro w hSw
            go_simp
            try with_reducible rfl
          try simp only [Act.put, List.setIfInBounds_toArray, List.set_cons_zero, List.set_cons_succ]
          refine wpAnyH_take (i := 14) (oi := { dst := some 104, op := Op.fieldAddr 48 (Operand.tmp 103) 2, type := 0, pos := "law.go:98", after := #[{ on := 13, ground := Ground.data }, { on := 9, ground := Ground.guard }], guard := some (9, false) }) (v := ?_) rfl (by kernel_rfl) (by kernel_rfl) (by kernel_rfl) (fun _ _ _ h => h) (Or.inl ⟨by rfl, ?_⟩) (by assumption) ?_
          rotate_left
          · intro w hSw
            go_simp
            try with_reducible rfl
          try simp only [Act.put, List.setIfInBounds_toArray, List.set_cons_zero, List.set_cons_succ]
          refine wpAnyH_take (i := 15) (oi := { dst := some 105, op := Op.load 46 (Operand.tmp 104), type := 46, pos := "law.go:98", after := #[{ on := 14, ground := Ground.data }, { on := 9, ground := Ground.guard }], guard := some (9, false) }) (v := ?_) rfl (by kernel_rfl) (by kernel_rfl) (by kernel_rfl) (fun _ _ _ h => h) (Or.inl ⟨by rfl, ?_⟩) (by assumption) ?_
          rotate_left
          · intro w hSw
            go_simp
            try with_reducible rfl
          try simp only [Act.put, List.setIfInBounds_toArray, List.set_cons_zero, List.set_cons_succ]
          refine wpAnyH_ready (rs := [11]) (by kernel_rfl) (by simp) ?_
          refine AllReadyH.cons (o := { dst := some 101, op := Op.call { callee := Callee.value (Operand.func 34), args := #[Operand.tmp 100], argTypes := #[43] }, type := 46, pos := "law.go:98", after := #[{ on := 10, ground := Ground.data }, { on := 9, ground := Ground.chain }, { on := 9, ground := Ground.guard }], guard := some (9, false) }) rfl (fun K hK => ?_) AllReadyH.nil
          go_simp
          go_at_call 34
          with_reducible refine (rdErr_any ((unhide HR9).keeps (tl_k hHeld))).mono ?_
          rintro e wn ⟨rfl, hwn⟩
          rw [hwn]
          clear hwn
          go_wp2_with fail
          refine hK.out _ _ ?_ (fun hHeld => ?_)
          · assumption
          clear hK K
          try simp only [Act.put, List.setIfInBounds_toArray, List.set_cons_zero, List.set_cons_succ]
          refine wpAnyH_take (i := 16) (oi := { dst := some 106, op := Op.binOp BinOp.neq 46 (Operand.tmp 101) (Operand.tmp 105) 46, type := 4, pos := "law.go:98", after := #[{ on := 11, ground := Ground.data }, { on := 15, ground := Ground.data }, { on := 9, ground := Ground.guard }], guard := some (9, false) }) (v := ?_) rfl (by kernel_rfl) (by kernel_rfl) (by kernel_rfl) (fun _ _ _ h => h) (Or.inl ⟨by rfl, ?_⟩) (by assumption) ?_
          rotate_left
          · intro w hSw
            go_simp
            try with_reducible rfl
          try simp only [Act.put, List.setIfInBounds_toArray, List.set_cons_zero, List.set_cons_succ]
          refine wpAnyH_take (i := 17) (oi := { dst := some 107, op := Op.pick (Operand.tmp 99) (Operand.const (Value.bool true)) (Operand.tmp 106), type := 4, pos := "law.go:98", after := #[{ on := 9, ground := Ground.data }, { on := 16, ground := Ground.data }], guard := none }) (v := ?_) rfl (by kernel_rfl) (by kernel_rfl) (by kernel_rfl) (fun _ _ _ h => h) (Or.inl ⟨by rfl, ?_⟩) (by assumption) ?_
          rotate_left
          · intro w hSw
            go_simp
            try with_reducible rfl
          try simp only [Act.put, List.setIfInBounds_toArray, List.set_cons_zero, List.set_cons_succ]
          refine wpAnyH_take (i := 18) (oi := { dst := some 108, op := Op.move (Operand.tmp 107), type := 4, pos := "law.go:98", after := #[{ on := 17, ground := Ground.data }, { on := 11, ground := Ground.chain }], guard := none }) (v := ?_) rfl (by kernel_rfl) (by kernel_rfl) (by kernel_rfl) (fun _ _ _ h => h) (Or.inl ⟨by rfl, ?_⟩) (by assumption) ?_
          rotate_left
          · intro w hSw
            go_simp
            try with_reducible rfl
          try simp only [Act.put, List.setIfInBounds_toArray, List.set_cons_zero, List.set_cons_succ]
          refine wpAnyH_take (i := 19) (oi := { dst := some 109, op := Op.move (Operand.tmp 6), type := 43, pos := "law.go:98", after := #[{ on := 18, ground := Ground.guard }], guard := some (18, false) }) (v := ?_) rfl (by kernel_rfl) (by kernel_rfl) (by kernel_rfl) (fun _ _ _ h => h) (Or.inl ⟨by rfl, ?_⟩) (by assumption) ?_
          rotate_left
          · intro w hSw
            go_simp
            try with_reducible rfl
          try simp only [Act.put, List.setIfInBounds_toArray, List.set_cons_zero, List.set_cons_succ]
          refine wpAnyH_take (i := 21) (oi := { dst := some 111, op := Op.move (Operand.tmp 7), type := 45, pos := "law.go:98", after := #[{ on := 18, ground := Ground.guard }], guard := some (18, false) }) (v := ?_) rfl (by kernel_rfl) (by kernel_rfl) (by kernel_rfl) (fun _ _ _ h => h) (Or.inl ⟨by rfl, ?_⟩) (by assumption) ?_
          rotate_left
          · intro w hSw
            go_simp
            try with_reducible rfl
          try simp only [Act.put, List.setIfInBounds_toArray, List.set_cons_zero, List.set_cons_succ]
          refine wpAnyH_ready (rs := [20]) (by kernel_rfl) (by simp) ?_
          refine AllReadyH.cons (o := { dst := some 110, op := Op.call { callee := Callee.value (Operand.func 28), args := #[Operand.tmp 109], argTypes := #[43] }, type := 46, pos := "law.go:98", after := #[{ on := 19, ground := Ground.data }, { on := 18, ground := Ground.chain }, { on := 18, ground := Ground.guard }], guard := some (18, false) }) rfl (fun K hK => ?_) AllReadyH.nil
          go_simp
          go_at_call 28
          with_reducible refine (rdEnd_any ((unhide HR9).keeps (tl_k hHeld)) (unhide HX) (by omega) hat7 (fun b e => Nat.lt_of_lt_of_le (unhide HLT9 b e) (tl_size hHeld))).mono ?_
          rintro e wn ⟨rfl, hke⟩
          go_wp2_with fail
          refine hK.out _ _ ?_ (fun hHeld => ?_)
          · exact tl_step (by assumption) hke
          clear hK K
          try simp only [Act.put, List.setIfInBounds_toArray, List.set_cons_zero, List.set_cons_succ]
          refine wpAnyH_ready (rs := [22]) (by kernel_rfl) (by simp) ?_
          refine AllReadyH.cons (o := { dst := some 112, op := Op.call { callee := Callee.value (Operand.func 29), args := #[Operand.tmp 111], argTypes := #[45] }, type := 46, pos := "law.go:98", after := #[{ on := 21, ground := Ground.data }, { on := 20, ground := Ground.chain }, { on := 18, ground := Ground.guard }], guard := some (18, false) }) rfl (fun K hK => ?_) AllReadyH.nil
          go_simp
          go_at_call 29
          with_reducible refine (refEnd_any ((unhide HQ9).keeps (tl_k hHeld)) (unhide HX) (by omega) hat7).mono ?_
          rintro e wn ⟨rfl, hkf⟩
          go_wp2_with fail
          refine hK.out _ _ ?_ (fun hHeld => ?_)
          · exact tl_step (by assumption) hkf
          clear hK K
          try simp only [Act.put, List.setIfInBounds_toArray, List.set_cons_zero, List.set_cons_succ]
          refine wpAnyH_take (i := 23) (oi := { dst := some 113, op := Op.binOp BinOp.neq 46 (Operand.tmp 110) (Operand.tmp 112) 46, type := 4, pos := "law.go:98", after := #[{ on := 20, ground := Ground.data }, { on := 22, ground := Ground.data }, { on := 18, ground := Ground.guard }], guard := some (18, false) }) (v := ?_) rfl (by kernel_rfl) (by kernel_rfl) (by kernel_rfl) (fun _ _ _ h => h) (Or.inl ⟨by rfl, ?_⟩) (by assumption) ?_
          rotate_left
          · intro w hSw
            go_simp
            try with_reducible rfl
          try simp only [Act.put, List.setIfInBounds_toArray, List.set_cons_zero, List.set_cons_succ]
          refine wpAnyH_take (i := 24) (oi := { dst := some 114, op := Op.pick (Operand.tmp 108) (Operand.const (Value.bool true)) (Operand.tmp 113), type := 4, pos := "law.go:98", after := #[{ on := 18, ground := Ground.data }, { on := 23, ground := Ground.data }], guard := none }) (v := ?_) rfl (by kernel_rfl) (by kernel_rfl) (by kernel_rfl) (fun _ _ _ h => h) (Or.inl ⟨by rfl, ?_⟩) (by assumption) ?_
          rotate_left
          · intro w hSw
            go_simp
            try with_reducible rfl
          try simp only [Act.put, List.setIfInBounds_toArray, List.set_cons_zero, List.set_cons_succ]
          refine wpAnyH_done (by kernel_rfl) ?_ _
          have HKF := hide ((unhide HKB).trans (tl_k hHeld))
          have HRF := hide ((unhide HR9).keeps (tl_k hHeld))
          have HQF := hide ((unhide HQ9).keeps (tl_k hHeld))
          have hszf := Nat.lt_of_lt_of_le hsz (tl_size hHeld)
          clear hHeld
          go_wp2
          exact ⟨⟨k + 1, by omega, by omega, by go_num, ⟨unhide HKF, at1, f1, hat7, unhide HRF, unhide HQF⟩, hszf⟩, by simp [intOf]; omega⟩
        · have e1 : (kind == 1) = false := beq_eq_false_iff_ne.2 h1
          by_cases h2 : kind = 2
          · subst h2
            clear h1 e1
            obtain ⟨at1, f1, ys, hat7, hy8, hyl, hcr, hcq⟩ := octBoth xs at0 f x (unhide HX) hsm hat hx0 hx1
            have HCR := hide (hcr _ gr A c (unhide HRO) hcl)
            have HCQ := hide hcq
            have HY8 := hide hy8
            obtain ⟨hoc, hof, hol⟩ := (unhide HOB).facts
            clear hcr hcq hy8
            go_wp2_with fail
            with_reducible refine (unhide HCR).mono ?_
            rintro e w6 ⟨B, d, rfl, hd, hhB, hwB, hR6, hf6⟩
            rw [World.size_alloc] at hwB
            have hsz6 := hf6.2.2.2.1
            rw [World.size_alloc] at hsz6
            have hQ6 := q_stays (unhide HLAY) (unhide HQO) hf6
            have hob6 := fr_blk hf6 (unhide HOB) (by have := (unhide HLAY).2.1; omega) (fun e => by cases e)
            obtain ⟨hoc6, hof6, hol6⟩ := hob6.facts
            have HC2 := hide (unhide HCQ _ gq Ab cb hQ6)
            have HHB := hide hhB
            have HWB := hide hwB
            have HR6 := hide hR6
            have HF6 := hide hf6
            clear hhB hwB hR6 hf6 hQ6 hob6 hoc hof hol hd
            go_wp2_with fail
            with_reducible refine (unhide HC2).mono ?_
            rintro e w7 ⟨B2, d2, rfl, hhB2, hQ7, hf7⟩
            have hBrow : ∀ b, rowOf B = some b → 0 < ys.length → wr.heap.size + 1 ≤ b := fun b e h0 => by
              obtain ⟨g9, e9, h9, _⟩ := unhide HWB h0
              rw [e9] at e
              injection e with e
              change g9 = b at e
              omega
            have hhB7 : Holds w7 B ys := by
              rcases Nat.eq_zero_or_pos ys.length with h0 | h0
              · have : ys = [] := List.eq_nil_of_length_eq_zero h0
                subst this
                exact ⟨by simp, fun h => absurd h (by simp)⟩
              · exact (unhide HHB).fr hf7 (fun b e => ⟨by have := hBrow b e h0; omega, fun e => by cases e⟩)
            have HSB := hide (sameBytes_any B B2 ys ys d d2 w7 hhB7 hhB2 (unhide HY8) (unhide HY8))
            rw [decide_eq_true rfl] at HSB
            have HHB7 := hide hhB7
            have HF7 := hide hf7
            have HQ7a := hide hQ7
            clear hhB2 hQ7 hf7 hhB7 hBrow hoc6 hof6 hol6
            go_wp2_with fail
            with_reducible refine (unhide HSB).mono ?_
            rintro e wn ⟨rfl, hwn⟩
            rw [← hwn]
            clear hwn
            obtain ⟨gx, hgx0, hgx1, hgx2⟩ : ∃ gx : Nat, (0 < ys.length → B = some ⟨gx, 0, none⟩) ∧ wr.heap.size + 1 ≤ gx ∧ ∀ i, i < ys.length → w7.frozen? ⟨gx, i, none⟩ = false := by
              rcases Nat.eq_zero_or_pos ys.length with h0 | h0
              · exact ⟨wr.heap.size + 1, fun h => by omega, Nat.le_refl _, fun i hi => by omega⟩
              · obtain ⟨g9, e9, h9, h10⟩ := unhide HWB h0
                refine ⟨g9, fun _ => e9, h9, fun i hi => ?_⟩
                have hbl : g9 < w6.heap.size := by
                  obtain ⟨ad, ea, hb, _⟩ := (unhide HHB).2 h0
                  rw [e9] at ea
                  injection ea with ea
                  subst ea
                  exact hb
                exact (World.frozen?_of_block (a := ⟨g9, i, none⟩) ((unhide HF7).2.2.2.2 g9 hbl (by omega) (fun e => by cases e))).trans (h10 i hi)
            have HCS2 := hide (spoilF_any B gx ys ys.length d w7 rfl hgx0 (unhide HHB7) (unhide HY8) hgx2 (by omega))
            clear hgx0 hgx2
            go_wp2_with fail
            with_reducible refine (unhide HCS2).mono ?_
            rintro e w8 ⟨rfl, hf8⟩
            have HKB := hide (fr_keeps (k_q (unhide HLAY) (k_r (unhide HLAY) (unhide HKP) (unhide HF6)) (unhide HF7)) hf8 (by omega) (fun b e => by cases e))
            have hsz : gq < w8.heap.size := by have := (unhide HF7).2.2.2.1; have := hf8.2.2.2.1; omega
            obtain ⟨hR7, hQ7⟩ := both_new (unhide HLAY) (r_stays (unhide HLAY) (unhide HR6) (unhide HF7)) (unhide HQ7a) (gx := gx) (by omega) hf8
            clear hf8
            have hg9 : w8.cell? ⟨gq, 2, none⟩ = some (.int .i64 f1) := hQ7.1.cell 2
            have HR9 := hide hR7
            have HQ9 := hide hQ7
            have HLT9 := hide (fun b e => Nat.lt_trans ((unhide HLAY).2.2.2.1 b e).2 (Nat.lt_trans (unhide HLAY).2.1 hsz))
            clear hR7 hQ7
            go_wp2
            refine wp_region_held_drew (S := fun w' => w'.cell? ⟨gq, 2, none⟩ = some (.int .i64 f1) ∧ TlS gq w8 w') (by kernel_rfl) ?_ (fun hHeld => ?_)
            · exact ⟨hg9, hsz, (Keeps.refl w8).drew⟩
            refine wpAnyH_take (i := 0) (oi := { dst := some 90, op := Op.move (Operand.tmp 10), type := 4, pos := "law.go:98", after := #[], guard := none }) (v := ?_) rfl (by kernel_rfl) (by kernel_rfl) (by kernel_rfl) (fun _ _ _ h => h) (Or.inl ⟨by rfl, ?_⟩) (by assumption) ?_
            rotate_left
            · intro w hSw
              go_simp
              try with_reducible rfl
            try simp only [Act.put, List.setIfInBounds_toArray, List.set_cons_zero, List.set_cons_succ]
            refine wpAnyH_take (i := 1) (oi := { dst := some 91, op := Op.unOp UnOp.not 4 (Operand.tmp 90), type := 4, pos := "law.go:98", after := #[{ on := 0, ground := Ground.data }], guard := none }) (v := ?_) rfl (by kernel_rfl) (by kernel_rfl) (by kernel_rfl) (fun _ _ _ h => h) (Or.inl ⟨by rfl, ?_⟩) (by assumption) ?_
            rotate_left
            · intro w hSw
              go_simp
              try with_reducible rfl
            try simp only [Act.put, List.setIfInBounds_toArray, List.set_cons_zero, List.set_cons_succ]
            refine wpAnyH_take (i := 2) (oi := { dst := some 92, op := Op.move (Operand.tmp 91), type := 4, pos := "law.go:98", after := #[{ on := 1, ground := Ground.data }], guard := none }) (v := ?_) rfl (by kernel_rfl) (by kernel_rfl) (by kernel_rfl) (fun _ _ _ h => h) (Or.inl ⟨by rfl, ?_⟩) (by assumption) ?_
            rotate_left
            · intro w hSw
              go_simp
              try with_reducible rfl
            try simp only [Act.put, List.setIfInBounds_toArray, List.set_cons_zero, List.set_cons_succ]
            refine wpAnyH_take (i := 3) (oi := { dst := some 93, op := Op.move (Operand.tmp 6), type := 43, pos := "law.go:98", after := #[{ on := 2, ground := Ground.guard }], guard := some (2, false) }) (v := ?_) rfl (by kernel_rfl) (by kernel_rfl) (by kernel_rfl) (fun _ _ _ h => h) (Or.inl ⟨by rfl, ?_⟩) (by assumption) ?_
            rotate_left
            · intro w hSw
              go_simp
              try with_reducible rfl
            try simp only [Act.put, List.setIfInBounds_toArray, List.set_cons_zero, List.set_cons_succ]
            refine wpAnyH_take (i := 5) (oi := { dst := some 95, op := Op.move (Operand.tmp 7), type := 45, pos := "law.go:98", after := #[{ on := 2, ground := Ground.guard }], guard := some (2, false) }) (v := ?_) rfl (by kernel_rfl) (by kernel_rfl) (by kernel_rfl) (fun _ _ _ h => h) (Or.inl ⟨by rfl, ?_⟩) (by assumption) ?_
            rotate_left
            · intro w hSw
              go_simp
              try with_reducible rfl
            try simp only [Act.put, List.setIfInBounds_toArray, List.set_cons_zero, List.set_cons_succ]
            refine wpAnyH_ready (rs := [4]) (by kernel_rfl) (by simp) ?_
            refine AllReadyH.cons (o := { dst := some 94, op := Op.call { callee := Callee.value (Operand.func 32), args := #[Operand.tmp 93], argTypes := #[43] }, type := 3, pos := "law.go:98", after := #[{ on := 3, ground := Ground.data }, { on := 2, ground := Ground.chain }, { on := 2, ground := Ground.guard }], guard := some (2, false) }) rfl (fun K hK => ?_) AllReadyH.nil
            go_simp
            go_at_call 32
            with_reducible refine (rdLeft_any ((unhide HR9).keeps (tl_k hHeld)) (by omega) hat7).mono ?_
            rintro e wn ⟨rfl, rfl⟩
            go_wp2_with fail
            refine hK.out _ _ ?_ (fun hHeld => ?_)
            · exact tl_step (by assumption) (Keeps.refl _).drew
            clear hK K
            try simp only [Act.put, List.setIfInBounds_toArray, List.set_cons_zero, List.set_cons_succ]
            refine wpAnyH_ready (rs := [6]) (by kernel_rfl) (by simp) ?_
            refine AllReadyH.cons (o := { dst := some 96, op := Op.call { callee := Callee.value (Operand.func 33), args := #[Operand.tmp 95], argTypes := #[45] }, type := 3, pos := "law.go:98", after := #[{ on := 5, ground := Ground.data }, { on := 4, ground := Ground.chain }, { on := 2, ground := Ground.guard }], guard := some (2, false) }) rfl (fun K hK => ?_) AllReadyH.nil
            go_simp
            go_at_call 33
            with_reducible refine (refLeftM_any ((unhide HQ9).keeps (tl_k hHeld)) (by omega) hat7).mono ?_
            rintro e wn ⟨rfl, rfl⟩
            go_wp2_with fail
            refine hK.out _ _ ?_ (fun hHeld => ?_)
            · exact tl_step (by assumption) (Keeps.refl _).drew
            clear hK K
            try simp only [Act.put, List.setIfInBounds_toArray, List.set_cons_zero, List.set_cons_succ]
            refine wpAnyH_take (i := 7) (oi := { dst := some 97, op := Op.binOp BinOp.neq 3 (Operand.tmp 94) (Operand.tmp 96) 3, type := 4, pos := "law.go:98", after := #[{ on := 4, ground := Ground.data }, { on := 6, ground := Ground.data }, { on := 2, ground := Ground.guard }], guard := some (2, false) }) (v := ?_) rfl (by kernel_rfl) (by kernel_rfl) (by kernel_rfl) (fun _ _ _ h => h) (Or.inl ⟨by rfl, ?_⟩) (by assumption) ?_
            rotate_left
            · intro w hSw
              go_simp
              try with_reducible rfl
            try simp only [Act.put, List.setIfInBounds_toArray, List.set_cons_zero, List.set_cons_succ]
            refine wpAnyH_take (i := 8) (oi := { dst := some 98, op := Op.pick (Operand.tmp 92) (Operand.const (Value.bool true)) (Operand.tmp 97), type := 4, pos := "law.go:98", after := #[{ on := 2, ground := Ground.data }, { on := 7, ground := Ground.data }], guard := none }) (v := ?_) rfl (by kernel_rfl) (by kernel_rfl) (by kernel_rfl) (fun _ _ _ h => h) (Or.inl ⟨by rfl, ?_⟩) (by assumption) ?_
            rotate_left
            · intro w hSw
              go_simp
              try with_reducible rfl
            try simp only [Act.put, List.setIfInBounds_toArray, List.set_cons_zero, List.set_cons_succ]
            refine wpAnyH_take (i := 9) (oi := { dst := some 99, op := Op.move (Operand.tmp 98), type := 4, pos := "law.go:98", after := #[{ on := 8, ground := Ground.data }, { on := 6, ground := Ground.chain }], guard := none }) (v := ?_) rfl (by kernel_rfl) (by kernel_rfl) (by kernel_rfl) (fun _ _ _ h => h) (Or.inl ⟨by rfl, ?_⟩) (by assumption) ?_
            rotate_left
            · intro w hSw
              go_simp
              try with_reducible rfl
            try simp only [Act.put, List.setIfInBounds_toArray, List.set_cons_zero, List.set_cons_succ]
            refine wpAnyH_take (i := 10) (oi := { dst := some 100, op := Op.move (Operand.tmp 6), type := 43, pos := "law.go:98", after := #[{ on := 9, ground := Ground.guard }], guard := some (9, false) }) (v := ?_) rfl (by kernel_rfl) (by kernel_rfl) (by kernel_rfl) (fun _ _ _ h => h) (Or.inl ⟨by rfl, ?_⟩) (by assumption) ?_
            rotate_left
            · intro w hSw
              go_simp
              try with_reducible rfl
            try simp only [Act.put, List.setIfInBounds_toArray, List.set_cons_zero, List.set_cons_succ]
            refine wpAnyH_take (i := 12) (oi := { dst := some 102, op := Op.move (Operand.tmp 7), type := 45, pos := "law.go:98", after := #[{ on := 9, ground := Ground.guard }], guard := some (9, false) }) (v := ?_) rfl (by kernel_rfl) (by kernel_rfl) (by kernel_rfl) (fun _ _ _ h => h) (Or.inl ⟨by rfl, ?_⟩) (by assumption) ?_
            rotate_left
            · intro w hSw
              go_simp
              try with_reducible rfl
            try simp only [Act.put, List.setIfInBounds_toArray, List.set_cons_zero, List.set_cons_succ]
            refine wpAnyH_take (i := 13) (oi := { dst := some 103, op := Op.nilCheck (Operand.tmp 102), type := 0, pos := "law.go:98", after := #[{ on := 12, ground := Ground.data }, { on := 9, ground := Ground.guard }], guard := some (9, false) }) (v := ?_) rfl (by kernel_rfl) (by kernel_rfl) (by kernel_rfl) (fun _ _ _ h => h) (Or.inl ⟨by rfl, ?_⟩) (by assumption) ?_
            rotate_left
            · intro w hSw
              go_simp
              try with_reducible rfl
            try simp only [Act.put, List.setIfInBounds_toArray, List.set_cons_zero, List.set_cons_succ]
            refine wpAnyH_take (i := 14) (oi := { dst := some 104, op := Op.fieldAddr 48 (Operand.tmp 103) 2, type := 0, pos := "law.go:98", after := #[{ on := 13, ground := Ground.data }, { on := 9, ground := Ground.guard }], guard := some (9, false) }) (v := ?_) rfl (by kernel_rfl) (by kernel_rfl) (by kernel_rfl) (fun _ _ _ h => h) (Or.inl ⟨by rfl, ?_⟩) (by assumption) ?_
            rotate_left
            · intro w hSw
              go_simp
              try with_reducible rfl
            try simp only [Act.put, List.setIfInBounds_toArray, List.set_cons_zero, List.set_cons_succ]
            refine wpAnyH_take (i := 15) (oi := { dst := some 105, op := Op.load 46 (Operand.tmp 104), type := 46, pos := "law.go:98", after := #[{ on := 14, ground := Ground.data }, { on := 9, ground := Ground.guard }], guard := some (9, false) }) (v := ?_) rfl (by kernel_rfl) (by kernel_rfl) (by kernel_rfl) (fun _ _ _ h => h) (Or.inl ⟨by rfl, ?_⟩) (by assumption) ?_
            rotate_left
            · intro w hSw
              go_simp
              try with_reducible rfl
            try simp only [Act.put, List.setIfInBounds_toArray, List.set_cons_zero, List.set_cons_succ]
            refine wpAnyH_ready (rs := [11]) (by kernel_rfl) (by simp) ?_
            refine AllReadyH.cons (o := { dst := some 101, op := Op.call { callee := Callee.value (Operand.func 34), args := #[Operand.tmp 100], argTypes := #[43] }, type := 46, pos := "law.go:98", after := #[{ on := 10, ground := Ground.data }, { on := 9, ground := Ground.chain }, { on := 9, ground := Ground.guard }], guard := some (9, false) }) rfl (fun K hK => ?_) AllReadyH.nil
            go_simp
            go_at_call 34
            with_reducible refine (rdErr_any ((unhide HR9).keeps (tl_k hHeld))).mono ?_
            rintro e wn ⟨rfl, hwn⟩
            rw [hwn]
            clear hwn
            go_wp2_with fail
            refine hK.out _ _ ?_ (fun hHeld => ?_)
            · assumption
            clear hK K
            try simp only [Act.put, List.setIfInBounds_toArray, List.set_cons_zero, List.set_cons_succ]
            refine wpAnyH_take (i := 16) (oi := { dst := some 106, op := Op.binOp BinOp.neq 46 (Operand.tmp 101) (Operand.tmp 105) 46, type := 4, pos := "law.go:98", after := #[{ on := 11, ground := Ground.data }, { on := 15, ground := Ground.data }, { on := 9, ground := Ground.guard }], guard := some (9, false) }) (v := ?_) rfl (by kernel_rfl) (by kernel_rfl) (by kernel_rfl) (fun _ _ _ h => h) (Or.inl ⟨by rfl, ?_⟩) (by assumption) ?_
            rotate_left
            · intro w hSw
              go_simp
              try with_reducible rfl
            try simp only [Act.put, List.setIfInBounds_toArray, List.set_cons_zero, List.set_cons_succ]
            refine wpAnyH_take (i := 17) (oi := { dst := some 107, op := Op.pick (Operand.tmp 99) (Operand.const (Value.bool true)) (Operand.tmp 106), type := 4, pos := "law.go:98", after := #[{ on := 9, ground := Ground.data }, { on := 16, ground := Ground.data }], guard := none }) (v := ?_) rfl (by kernel_rfl) (by kernel_rfl) (by kernel_rfl) (fun _ _ _ h => h) (Or.inl ⟨by rfl, ?_⟩) (by assumption) ?_
            rotate_left
            · intro w hSw
              go_simp
              try with_reducible rfl
            try simp only [Act.put, List.setIfInBounds_toArray, List.set_cons_zero, List.set_cons_succ]
            refine wpAnyH_take (i := 18) (oi := { dst := some 108, op := Op.move (Operand.tmp 107), type := 4, pos := "law.go:98", after := #[{ on := 17, ground := Ground.data }, { on := 11, ground := Ground.chain }], guard := none }) (v := ?_) rfl (by kernel_rfl) (by kernel_rfl) (by kernel_rfl) (fun _ _ _ h => h) (Or.inl ⟨by rfl, ?_⟩) (by assumption) ?_
            rotate_left
            · intro w hSw
              go_simp
              try with_reducible rfl
            try simp only [Act.put, List.setIfInBounds_toArray, List.set_cons_zero, List.set_cons_succ]
            refine wpAnyH_take (i := 19) (oi := { dst := some 109, op := Op.move (Operand.tmp 6), type := 43, pos := "law.go:98", after := #[{ on := 18, ground := Ground.guard }], guard := some (18, false) }) (v := ?_) rfl (by kernel_rfl) (by kernel_rfl) (by kernel_rfl) (fun _ _ _ h => h) (Or.inl ⟨by rfl, ?_⟩) (by assumption) ?_
            rotate_left
            · intro w hSw
              go_simp
              try with_reducible rfl
            try simp only [Act.put, List.setIfInBounds_toArray, List.set_cons_zero, List.set_cons_succ]
            refine wpAnyH_take (i := 21) (oi := { dst := some 111, op := Op.move (Operand.tmp 7), type := 45, pos := "law.go:98", after := #[{ on := 18, ground := Ground.guard }], guard := some (18, false) }) (v := ?_) rfl (by kernel_rfl) (by kernel_rfl) (by kernel_rfl) (fun _ _ _ h => h) (Or.inl ⟨by rfl, ?_⟩) (by assumption) ?_
            rotate_left
            · intro w hSw
              go_simp
              try with_reducible rfl
            try simp only [Act.put, List.setIfInBounds_toArray, List.set_cons_zero, List.set_cons_succ]
            refine wpAnyH_ready (rs := [20]) (by kernel_rfl) (by simp) ?_
            refine AllReadyH.cons (o := { dst := some 110, op := Op.call { callee := Callee.value (Operand.func 28), args := #[Operand.tmp 109], argTypes := #[43] }, type := 46, pos := "law.go:98", after := #[{ on := 19, ground := Ground.data }, { on := 18, ground := Ground.chain }, { on := 18, ground := Ground.guard }], guard := some (18, false) }) rfl (fun K hK => ?_) AllReadyH.nil
            go_simp
            go_at_call 28
            with_reducible refine (rdEnd_any ((unhide HR9).keeps (tl_k hHeld)) (unhide HX) (by omega) hat7 (fun b e => Nat.lt_of_lt_of_le (unhide HLT9 b e) (tl_size hHeld))).mono ?_
            rintro e wn ⟨rfl, hke⟩
            go_wp2_with fail
            refine hK.out _ _ ?_ (fun hHeld => ?_)
            · exact tl_step (by assumption) hke
            clear hK K
            try simp only [Act.put, List.setIfInBounds_toArray, List.set_cons_zero, List.set_cons_succ]
            refine wpAnyH_ready (rs := [22]) (by kernel_rfl) (by simp) ?_
            refine AllReadyH.cons (o := { dst := some 112, op := Op.call { callee := Callee.value (Operand.func 29), args := #[Operand.tmp 111], argTypes := #[45] }, type := 46, pos := "law.go:98", after := #[{ on := 21, ground := Ground.data }, { on := 20, ground := Ground.chain }, { on := 18, ground := Ground.guard }], guard := some (18, false) }) rfl (fun K hK => ?_) AllReadyH.nil
            go_simp
            go_at_call 29
            with_reducible refine (refEnd_any ((unhide HQ9).keeps (tl_k hHeld)) (unhide HX) (by omega) hat7).mono ?_
            rintro e wn ⟨rfl, hkf⟩
            go_wp2_with fail
            refine hK.out _ _ ?_ (fun hHeld => ?_)
            · exact tl_step (by assumption) hkf
            clear hK K
            try simp only [Act.put, List.setIfInBounds_toArray, List.set_cons_zero, List.set_cons_succ]
            refine wpAnyH_take (i := 23) (oi := { dst := some 113, op := Op.binOp BinOp.neq 46 (Operand.tmp 110) (Operand.tmp 112) 46, type := 4, pos := "law.go:98", after := #[{ on := 20, ground := Ground.data }, { on := 22, ground := Ground.data }, { on := 18, ground := Ground.guard }], guard := some (18, false) }) (v := ?_) rfl (by kernel_rfl) (by kernel_rfl) (by kernel_rfl) (fun _ _ _ h => h) (Or.inl ⟨by rfl, ?_⟩) (by assumption) ?_
            rotate_left
            · intro w hSw
              go_simp
              try with_reducible rfl
            try simp only [Act.put, List.setIfInBounds_toArray, List.set_cons_zero, List.set_cons_succ]
            refine wpAnyH_take (i := 24) (oi := { dst := some 114, op := Op.pick (Operand.tmp 108) (Operand.const (Value.bool true)) (Operand.tmp 113), type := 4, pos := "law.go:98", after := #[{ on := 18, ground := Ground.data }, { on := 23, ground := Ground.data }], guard := none }) (v := ?_) rfl (by kernel_rfl) (by kernel_rfl) (by kernel_rfl) (fun _ _ _ h => h) (Or.inl ⟨by rfl, ?_⟩) (by assumption) ?_
            rotate_left
            · intro w hSw
              go_simp
              try with_reducible rfl
            try simp only [Act.put, List.setIfInBounds_toArray, List.set_cons_zero, List.set_cons_succ]
            refine wpAnyH_done (by kernel_rfl) ?_ _
            have HKF := hide ((unhide HKB).trans (tl_k hHeld))
            have HRF := hide ((unhide HR9).keeps (tl_k hHeld))
            have HQF := hide ((unhide HQ9).keeps (tl_k hHeld))
            have hszf := Nat.lt_of_lt_of_le hsz (tl_size hHeld)
            clear hHeld
            go_wp2
            exact ⟨⟨k + 1, by omega, by omega, by go_num, ⟨unhide HKF, at1, f1, hat7, unhide HRF, unhide HQF⟩, hszf⟩, by simp [intOf]; omega⟩
          · have e2 : (kind == 2) = false := beq_eq_false_iff_ne.2 h2
            by_cases h3 : kind = 3
            · subst h3
              clear h1 h2 e1 e2
              obtain ⟨hoc, hof, hol⟩ := (unhide HOB).facts
              have HC1 := hide (rdEnd_any (unhide HRO) (unhide HX) (by omega) hat (fun b e => by have := ((unhide HLAY).2.2.2.1 b e).2; have := (unhide HLAY).2.1; rw [World.size_alloc]; omega))
              go_wp2_with fail
              with_reducible refine (unhide HC1).mono ?_
              rintro e w6 ⟨rfl, hk6⟩
              have HK6 := hide hk6
              have HC2 := hide (refEnd_any ((unhide HQO).keeps hk6) (unhide HX) (by omega) hat)
              clear hk6 hoc hof hol
              generalize hev : endV xs at0 f = ev at *
              have HEV := hide hev
              clear hev
              go_wp2_with fail
              with_reducible refine (unhide HC2).mono ?_
              rintro e w7 ⟨rfl, hk7⟩
              have HKB := hide (((unhide HKP).trans (unhide HK6)).trans hk7)
              have hsz : gq < w7.heap.size := by have := (unhide HK6).size; have := hk7.size; rw [World.size_alloc] at *; omega
              have hR7 := ((unhide HRO).keeps (unhide HK6)).keeps hk7
              have hQ7 := ((unhide HQO).keeps (unhide HK6)).keeps hk7
              have hat7 := hat
              rw [← unhide HEV] at *
              clear hk7
              generalize hat1 : at0 = at1 at *
              generalize hf1 : f = f1 at *
              clear hat1 hf1
              have hg9 : w7.cell? ⟨gq, 2, none⟩ = some (.int .i64 f1) := hQ7.1.cell 2
              have HR9 := hide hR7
              have HQ9 := hide hQ7
              have HLT9 := hide (fun b e => Nat.lt_trans ((unhide HLAY).2.2.2.1 b e).2 (Nat.lt_trans (unhide HLAY).2.1 hsz))
              clear hR7 hQ7
              go_wp2
              refine wp_region_held_drew (S := fun w' => w'.cell? ⟨gq, 2, none⟩ = some (.int .i64 f1) ∧ TlS gq w7 w') (by kernel_rfl) ?_ (fun hHeld => ?_)
              · exact ⟨hg9, hsz, (Keeps.refl w7).drew⟩
              refine wpAnyH_take (i := 0) (oi := { dst := some 90, op := Op.move (Operand.tmp 10), type := 4, pos := "law.go:98", after := #[], guard := none }) (v := ?_) rfl (by kernel_rfl) (by kernel_rfl) (by kernel_rfl) (fun _ _ _ h => h) (Or.inl ⟨by rfl, ?_⟩) (by assumption) ?_
              rotate_left
              · intro w hSw
                go_simp
                try with_reducible rfl
              try simp only [Act.put, List.setIfInBounds_toArray, List.set_cons_zero, List.set_cons_succ]
              refine wpAnyH_take (i := 1) (oi := { dst := some 91, op := Op.unOp UnOp.not 4 (Operand.tmp 90), type := 4, pos := "law.go:98", after := #[{ on := 0, ground := Ground.data }], guard := none }) (v := ?_) rfl (by kernel_rfl) (by kernel_rfl) (by kernel_rfl) (fun _ _ _ h => h) (Or.inl ⟨by rfl, ?_⟩) (by assumption) ?_
              rotate_left
              · intro w hSw
                go_simp
                try with_reducible rfl
              try simp only [Act.put, List.setIfInBounds_toArray, List.set_cons_zero, List.set_cons_succ]
              refine wpAnyH_take (i := 2) (oi := { dst := some 92, op := Op.move (Operand.tmp 91), type := 4, pos := "law.go:98", after := #[{ on := 1, ground := Ground.data }], guard := none }) (v := ?_) rfl (by kernel_rfl) (by kernel_rfl) (by kernel_rfl) (fun _ _ _ h => h) (Or.inl ⟨by rfl, ?_⟩) (by assumption) ?_
              rotate_left
              · intro w hSw
                go_simp
                try with_reducible rfl
              try simp only [Act.put, List.setIfInBounds_toArray, List.set_cons_zero, List.set_cons_succ]
              refine wpAnyH_take (i := 3) (oi := { dst := some 93, op := Op.move (Operand.tmp 6), type := 43, pos := "law.go:98", after := #[{ on := 2, ground := Ground.guard }], guard := some (2, false) }) (v := ?_) rfl (by kernel_rfl) (by kernel_rfl) (by kernel_rfl) (fun _ _ _ h => h) (Or.inl ⟨by rfl, ?_⟩) (by assumption) ?_
              rotate_left
              · intro w hSw
                go_simp
                try with_reducible rfl
              try simp only [Act.put, List.setIfInBounds_toArray, List.set_cons_zero, List.set_cons_succ]
              refine wpAnyH_take (i := 5) (oi := { dst := some 95, op := Op.move (Operand.tmp 7), type := 45, pos := "law.go:98", after := #[{ on := 2, ground := Ground.guard }], guard := some (2, false) }) (v := ?_) rfl (by kernel_rfl) (by kernel_rfl) (by kernel_rfl) (fun _ _ _ h => h) (Or.inl ⟨by rfl, ?_⟩) (by assumption) ?_
              rotate_left
              · intro w hSw
                go_simp
                try with_reducible rfl
              try simp only [Act.put, List.setIfInBounds_toArray, List.set_cons_zero, List.set_cons_succ]
              refine wpAnyH_ready (rs := [4]) (by kernel_rfl) (by simp) ?_
              refine AllReadyH.cons (o := { dst := some 94, op := Op.call { callee := Callee.value (Operand.func 32), args := #[Operand.tmp 93], argTypes := #[43] }, type := 3, pos := "law.go:98", after := #[{ on := 3, ground := Ground.data }, { on := 2, ground := Ground.chain }, { on := 2, ground := Ground.guard }], guard := some (2, false) }) rfl (fun K hK => ?_) AllReadyH.nil
              go_simp
              go_at_call 32
              with_reducible refine (rdLeft_any ((unhide HR9).keeps (tl_k hHeld)) (by omega) hat7).mono ?_
              rintro e wn ⟨rfl, rfl⟩
              go_wp2_with fail
              refine hK.out _ _ ?_ (fun hHeld => ?_)
              · exact tl_step (by assumption) (Keeps.refl _).drew
              clear hK K
              try simp only [Act.put, List.setIfInBounds_toArray, List.set_cons_zero, List.set_cons_succ]
              refine wpAnyH_ready (rs := [6]) (by kernel_rfl) (by simp) ?_
              refine AllReadyH.cons (o := { dst := some 96, op := Op.call { callee := Callee.value (Operand.func 33), args := #[Operand.tmp 95], argTypes := #[45] }, type := 3, pos := "law.go:98", after := #[{ on := 5, ground := Ground.data }, { on := 4, ground := Ground.chain }, { on := 2, ground := Ground.guard }], guard := some (2, false) }) rfl (fun K hK => ?_) AllReadyH.nil
              go_simp
              go_at_call 33
              with_reducible refine (refLeftM_any ((unhide HQ9).keeps (tl_k hHeld)) (by omega) hat7).mono ?_
              rintro e wn ⟨rfl, rfl⟩
              go_wp2_with fail
              refine hK.out _ _ ?_ (fun hHeld => ?_)
              · exact tl_step (by assumption) (Keeps.refl _).drew
              clear hK K
              try simp only [Act.put, List.setIfInBounds_toArray, List.set_cons_zero, List.set_cons_succ]
              refine wpAnyH_take (i := 7) (oi := { dst := some 97, op := Op.binOp BinOp.neq 3 (Operand.tmp 94) (Operand.tmp 96) 3, type := 4, pos := "law.go:98", after := #[{ on := 4, ground := Ground.data }, { on := 6, ground := Ground.data }, { on := 2, ground := Ground.guard }], guard := some (2, false) }) (v := ?_) rfl (by kernel_rfl) (by kernel_rfl) (by kernel_rfl) (fun _ _ _ h => h) (Or.inl ⟨by rfl, ?_⟩) (by assumption) ?_
              rotate_left
              · intro w hSw
                go_simp
                try with_reducible rfl
              try simp only [Act.put, List.setIfInBounds_toArray, List.set_cons_zero, List.set_cons_succ]
              refine wpAnyH_take (i := 8) (oi := { dst := some 98, op := Op.pick (Operand.tmp 92) (Operand.const (Value.bool true)) (Operand.tmp 97), type := 4, pos := "law.go:98", after := #[{ on := 2, ground := Ground.data }, { on := 7, ground := Ground.data }], guard := none }) (v := ?_) rfl (by kernel_rfl) (by kernel_rfl) (by kernel_rfl) (fun _ _ _ h => h) (Or.inl ⟨by rfl, ?_⟩) (by assumption) ?_
              rotate_left
              · intro w hSw
                go_simp
                try with_reducible rfl
              try simp only [Act.put, List.setIfInBounds_toArray, List.set_cons_zero, List.set_cons_succ]
              refine wpAnyH_take (i := 9) (oi := { dst := some 99, op := Op.move (Operand.tmp 98), type := 4, pos := "law.go:98", after := #[{ on := 8, ground := Ground.data }, { on := 6, ground := Ground.chain }], guard := none }) (v := ?_) rfl (by kernel_rfl) (by kernel_rfl) (by kernel_rfl) (fun _ _ _ h => h) (Or.inl ⟨by rfl, ?_⟩) (by assumption) ?_
              rotate_left
              · intro w hSw
                go_simp
                try with_reducible rfl
              try simp only [Act.put, List.setIfInBounds_toArray, List.set_cons_zero, List.set_cons_succ]
              refine wpAnyH_take (i := 10) (oi := { dst := some 100, op := Op.move (Operand.tmp 6), type := 43, pos := "law.go:98", after := #[{ on := 9, ground := Ground.guard }], guard := some (9, false) }) (v := ?_) rfl (by kernel_rfl) (by kernel_rfl) (by kernel_rfl) (fun _ _ _ h => h) (Or.inl ⟨by rfl, ?_⟩) (by assumption) ?_
              rotate_left
              · intro w hSw
                go_simp
                try with_reducible rfl
              try simp only [Act.put, List.setIfInBounds_toArray, List.set_cons_zero, List.set_cons_succ]
              refine wpAnyH_take (i := 12) (oi := { dst := some 102, op := Op.move (Operand.tmp 7), type := 45, pos := "law.go:98", after := #[{ on := 9, ground := Ground.guard }], guard := some (9, false) }) (v := ?_) rfl (by kernel_rfl) (by kernel_rfl) (by kernel_rfl) (fun _ _ _ h => h) (Or.inl ⟨by rfl, ?_⟩) (by assumption) ?_
              rotate_left
              · intro w hSw
                go_simp
                try with_reducible rfl
              try simp only [Act.put, List.setIfInBounds_toArray, List.set_cons_zero, List.set_cons_succ]
              refine wpAnyH_take (i := 13) (oi := { dst := some 103, op := Op.nilCheck (Operand.tmp 102), type := 0, pos := "law.go:98", after := #[{ on := 12, ground := Ground.data }, { on := 9, ground := Ground.guard }], guard := some (9, false) }) (v := ?_) rfl (by kernel_rfl) (by kernel_rfl) (by kernel_rfl) (fun _ _ _ h => h) (Or.inl ⟨by rfl, ?_⟩) (by assumption) ?_
              rotate_left
              · intro w hSw
                go_simp
                try with_reducible rfl
              try simp only [Act.put, List.setIfInBounds_toArray, List.set_cons_zero, List.set_cons_succ]
              refine wpAnyH_take (i := 14) (oi := { dst := some 104, op := Op.fieldAddr 48 (Operand.tmp 103) 2, type := 0, pos := "law.go:98", after := #[{ on := 13, ground := Ground.data }, { on := 9, ground := Ground.guard }], guard := some (9, false) }) (v := ?_) rfl (by kernel_rfl) (by kernel_rfl) (by kernel_rfl) (fun _ _ _ h => h) (Or.inl ⟨by rfl, ?_⟩) (by assumption) ?_
              rotate_left
              · intro w hSw
                go_simp
                try with_reducible rfl
              try simp only [Act.put, List.setIfInBounds_toArray, List.set_cons_zero, List.set_cons_succ]
              refine wpAnyH_take (i := 15) (oi := { dst := some 105, op := Op.load 46 (Operand.tmp 104), type := 46, pos := "law.go:98", after := #[{ on := 14, ground := Ground.data }, { on := 9, ground := Ground.guard }], guard := some (9, false) }) (v := ?_) rfl (by kernel_rfl) (by kernel_rfl) (by kernel_rfl) (fun _ _ _ h => h) (Or.inl ⟨by rfl, ?_⟩) (by assumption) ?_
              rotate_left
              · intro w hSw
                go_simp
                try with_reducible rfl
              try simp only [Act.put, List.setIfInBounds_toArray, List.set_cons_zero, List.set_cons_succ]
              refine wpAnyH_ready (rs := [11]) (by kernel_rfl) (by simp) ?_
              refine AllReadyH.cons (o := { dst := some 101, op := Op.call { callee := Callee.value (Operand.func 34), args := #[Operand.tmp 100], argTypes := #[43] }, type := 46, pos := "law.go:98", after := #[{ on := 10, ground := Ground.data }, { on := 9, ground := Ground.chain }, { on := 9, ground := Ground.guard }], guard := some (9, false) }) rfl (fun K hK => ?_) AllReadyH.nil
              go_simp
              go_at_call 34
              with_reducible refine (rdErr_any ((unhide HR9).keeps (tl_k hHeld))).mono ?_
              rintro e wn ⟨rfl, hwn⟩
              rw [hwn]
              clear hwn
              go_wp2_with fail
              refine hK.out _ _ ?_ (fun hHeld => ?_)
              · assumption
              clear hK K
              try simp only [Act.put, List.setIfInBounds_toArray, List.set_cons_zero, List.set_cons_succ]
              refine wpAnyH_take (i := 16) (oi := { dst := some 106, op := Op.binOp BinOp.neq 46 (Operand.tmp 101) (Operand.tmp 105) 46, type := 4, pos := "law.go:98", after := #[{ on := 11, ground := Ground.data }, { on := 15, ground := Ground.data }, { on := 9, ground := Ground.guard }], guard := some (9, false) }) (v := ?_) rfl (by kernel_rfl) (by kernel_rfl) (by kernel_rfl) (fun _ _ _ h => h) (Or.inl ⟨by rfl, ?_⟩) (by assumption) ?_
              rotate_left
              · intro w hSw
                go_simp
                try with_reducible rfl
              try simp only [Act.put, List.setIfInBounds_toArray, List.set_cons_zero, List.set_cons_succ]
              refine wpAnyH_take (i := 17) (oi := { dst := some 107, op := Op.pick (Operand.tmp 99) (Operand.const (Value.bool true)) (Operand.tmp 106), type := 4, pos := "law.go:98", after := #[{ on := 9, ground := Ground.data }, { on := 16, ground := Ground.data }], guard := none }) (v := ?_) rfl (by kernel_rfl) (by kernel_rfl) (by kernel_rfl) (fun _ _ _ h => h) (Or.inl ⟨by rfl, ?_⟩) (by assumption) ?_
              rotate_left
              · intro w hSw
                go_simp
                try with_reducible rfl
              try simp only [Act.put, List.setIfInBounds_toArray, List.set_cons_zero, List.set_cons_succ]
              refine wpAnyH_take (i := 18) (oi := { dst := some 108, op := Op.move (Operand.tmp 107), type := 4, pos := "law.go:98", after := #[{ on := 17, ground := Ground.data }, { on := 11, ground := Ground.chain }], guard := none }) (v := ?_) rfl (by kernel_rfl) (by kernel_rfl) (by kernel_rfl) (fun _ _ _ h => h) (Or.inl ⟨by rfl, ?_⟩) (by assumption) ?_
              rotate_left
              · intro w hSw
                go_simp
                try with_reducible rfl
              try simp only [Act.put, List.setIfInBounds_toArray, List.set_cons_zero, List.set_cons_succ]
              refine wpAnyH_take (i := 19) (oi := { dst := some 109, op := Op.move (Operand.tmp 6), type := 43, pos := "law.go:98", after := #[{ on := 18, ground := Ground.guard }], guard := some (18, false) }) (v := ?_) rfl (by kernel_rfl) (by kernel_rfl) (by kernel_rfl) (fun _ _ _ h => h) (Or.inl ⟨by rfl, ?_⟩) (by assumption) ?_
              rotate_left
              · intro w hSw
                go_simp
                try with_reducible rfl
              try simp only [Act.put, List.setIfInBounds_toArray, List.set_cons_zero, List.set_cons_succ]
              refine wpAnyH_take (i := 21) (oi := { dst := some 111, op := Op.move (Operand.tmp 7), type := 45, pos := "law.go:98", after := #[{ on := 18, ground := Ground.guard }], guard := some (18, false) }) (v := ?_) rfl (by kernel_rfl) (by kernel_rfl) (by kernel_rfl) (fun _ _ _ h => h) (Or.inl ⟨by rfl, ?_⟩) (by assumption) ?_
              rotate_left
              · intro w hSw
                go_simp
                try with_reducible rfl
              try simp only [Act.put, List.setIfInBounds_toArray, List.set_cons_zero, List.set_cons_succ]
              refine wpAnyH_ready (rs := [20]) (by kernel_rfl) (by simp) ?_
              refine AllReadyH.cons (o := { dst := some 110, op := Op.call { callee := Callee.value (Operand.func 28), args := #[Operand.tmp 109], argTypes := #[43] }, type := 46, pos := "law.go:98", after := #[{ on := 19, ground := Ground.data }, { on := 18, ground := Ground.chain }, { on := 18, ground := Ground.guard }], guard := some (18, false) }) rfl (fun K hK => ?_) AllReadyH.nil
              go_simp
              go_at_call 28
              with_reducible refine (rdEnd_any ((unhide HR9).keeps (tl_k hHeld)) (unhide HX) (by omega) hat7 (fun b e => Nat.lt_of_lt_of_le (unhide HLT9 b e) (tl_size hHeld))).mono ?_
              rintro e wn ⟨rfl, hke⟩
              go_wp2_with fail
              refine hK.out _ _ ?_ (fun hHeld => ?_)
              · exact tl_step (by assumption) hke
              clear hK K
              try simp only [Act.put, List.setIfInBounds_toArray, List.set_cons_zero, List.set_cons_succ]
              refine wpAnyH_ready (rs := [22]) (by kernel_rfl) (by simp) ?_
              refine AllReadyH.cons (o := { dst := some 112, op := Op.call { callee := Callee.value (Operand.func 29), args := #[Operand.tmp 111], argTypes := #[45] }, type := 46, pos := "law.go:98", after := #[{ on := 21, ground := Ground.data }, { on := 20, ground := Ground.chain }, { on := 18, ground := Ground.guard }], guard := some (18, false) }) rfl (fun K hK => ?_) AllReadyH.nil
              go_simp
              go_at_call 29
              with_reducible refine (refEnd_any ((unhide HQ9).keeps (tl_k hHeld)) (unhide HX) (by omega) hat7).mono ?_
              rintro e wn ⟨rfl, hkf⟩
              go_wp2_with fail
              refine hK.out _ _ ?_ (fun hHeld => ?_)
              · exact tl_step (by assumption) hkf
              clear hK K
              try simp only [Act.put, List.setIfInBounds_toArray, List.set_cons_zero, List.set_cons_succ]
              refine wpAnyH_take (i := 23) (oi := { dst := some 113, op := Op.binOp BinOp.neq 46 (Operand.tmp 110) (Operand.tmp 112) 46, type := 4, pos := "law.go:98", after := #[{ on := 20, ground := Ground.data }, { on := 22, ground := Ground.data }, { on := 18, ground := Ground.guard }], guard := some (18, false) }) (v := ?_) rfl (by kernel_rfl) (by kernel_rfl) (by kernel_rfl) (fun _ _ _ h => h) (Or.inl ⟨by rfl, ?_⟩) (by assumption) ?_
              rotate_left
              · intro w hSw
                go_simp
                try with_reducible rfl
              try simp only [Act.put, List.setIfInBounds_toArray, List.set_cons_zero, List.set_cons_succ]
              refine wpAnyH_take (i := 24) (oi := { dst := some 114, op := Op.pick (Operand.tmp 108) (Operand.const (Value.bool true)) (Operand.tmp 113), type := 4, pos := "law.go:98", after := #[{ on := 18, ground := Ground.data }, { on := 23, ground := Ground.data }], guard := none }) (v := ?_) rfl (by kernel_rfl) (by kernel_rfl) (by kernel_rfl) (fun _ _ _ h => h) (Or.inl ⟨by rfl, ?_⟩) (by assumption) ?_
              rotate_left
              · intro w hSw
                go_simp
                try with_reducible rfl
              try simp only [Act.put, List.setIfInBounds_toArray, List.set_cons_zero, List.set_cons_succ]
              refine wpAnyH_done (by kernel_rfl) ?_ _
              have HKF := hide ((unhide HKB).trans (tl_k hHeld))
              have HRF := hide ((unhide HR9).keeps (tl_k hHeld))
              have HQF := hide ((unhide HQ9).keeps (tl_k hHeld))
              have hszf := Nat.lt_of_lt_of_le hsz (tl_size hHeld)
              clear hHeld
              go_wp2
              exact ⟨⟨k + 1, by omega, by omega, by go_num, ⟨unhide HKF, at1, f1, hat7, unhide HRF, unhide HQF⟩, hszf⟩, by simp [intOf]; omega⟩
            · have e3 : (kind == 3) = false := beq_eq_false_iff_ne.2 h3
              clear h1 h2 h3
              obtain ⟨hoc, hof, hol⟩ := (unhide HOB).facts
              have HC1 := hide (rdBit_any (unhide HRO) (unhide HX) (by omega) hat)
              have HAT2 := hide (rdAt_le (f := f) (n := 1) hat)
              go_wp2_with fail
              with_reducible refine (unhide HC1).mono ?_
              rintro e w6 ⟨rfl, hR6, hf6⟩
              have hQ6 := q_stays (unhide HLAY) (unhide HQO) hf6
              have HC2 := hide (refBitR_any hQ6 (unhide HX) (by omega) hat)
              have HR6 := hide hR6
              have HF6 := hide hf6
              have hsz6 := hf6.2.2.2.1
              rw [World.size_alloc] at hsz6
              clear hR6 hf6 hQ6 hoc hof hol
              generalize rdVal xs at0 f 1 = rv at *
              go_wp2_with fail
              with_reducible refine (unhide HC2).mono ?_
              rintro e w7 ⟨rfl, hQ7, hf7⟩
              have HKB := hide (k_q (unhide HLAY) (k_r (unhide HLAY) (unhide HKP) (unhide HF6)) hf7)
              have hsz : gq < w7.heap.size := by have := hf7.2.2.2.1; omega
              have hR7 := r_stays (unhide HLAY) (unhide HR6) hf7
              have hat7 := unhide HAT2
              clear hf7
              generalize rdAt (8 * xs.length) at0 f 1 = at1 at *
              generalize rdF (8 * xs.length) at0 f 1 = f1 at *
              have hg9 : w7.cell? ⟨gq, 2, none⟩ = some (.int .i64 f1) := hQ7.1.cell 2
              have HR9 := hide hR7
              have HQ9 := hide hQ7
              have HLT9 := hide (fun b e => Nat.lt_trans ((unhide HLAY).2.2.2.1 b e).2 (Nat.lt_trans (unhide HLAY).2.1 hsz))
              clear hR7 hQ7
              go_wp2
              refine wp_region_held_drew (S := fun w' => w'.cell? ⟨gq, 2, none⟩ = some (.int .i64 f1) ∧ TlS gq w7 w') (by kernel_rfl) ?_ (fun hHeld => ?_)
              · exact ⟨hg9, hsz, (Keeps.refl w7).drew⟩
              refine wpAnyH_take (i := 0) (oi := { dst := some 90, op := Op.move (Operand.tmp 10), type := 4, pos := "law.go:98", after := #[], guard := none }) (v := ?_) rfl (by kernel_rfl) (by kernel_rfl) (by kernel_rfl) (fun _ _ _ h => h) (Or.inl ⟨by rfl, ?_⟩) (by assumption) ?_
              rotate_left
              · intro w hSw
                go_simp
                try with_reducible rfl
              try simp only [Act.put, List.setIfInBounds_toArray, List.set_cons_zero, List.set_cons_succ]
              refine wpAnyH_take (i := 1) (oi := { dst := some 91, op := Op.unOp UnOp.not 4 (Operand.tmp 90), type := 4, pos := "law.go:98", after := #[{ on := 0, ground := Ground.data }], guard := none }) (v := ?_) rfl (by kernel_rfl) (by kernel_rfl) (by kernel_rfl) (fun _ _ _ h => h) (Or.inl ⟨by rfl, ?_⟩) (by assumption) ?_
              rotate_left
              · intro w hSw
                go_simp
                try with_reducible rfl
              try simp only [Act.put, List.setIfInBounds_toArray, List.set_cons_zero, List.set_cons_succ]
              refine wpAnyH_take (i := 2) (oi := { dst := some 92, op := Op.move (Operand.tmp 91), type := 4, pos := "law.go:98", after := #[{ on := 1, ground := Ground.data }], guard := none }) (v := ?_) rfl (by kernel_rfl) (by kernel_rfl) (by kernel_rfl) (fun _ _ _ h => h) (Or.inl ⟨by rfl, ?_⟩) (by assumption) ?_
              rotate_left
              · intro w hSw
                go_simp
                try with_reducible rfl
              try simp only [Act.put, List.setIfInBounds_toArray, List.set_cons_zero, List.set_cons_succ]
              refine wpAnyH_take (i := 3) (oi := { dst := some 93, op := Op.move (Operand.tmp 6), type := 43, pos := "law.go:98", after := #[{ on := 2, ground := Ground.guard }], guard := some (2, false) }) (v := ?_) rfl (by kernel_rfl) (by kernel_rfl) (by kernel_rfl) (fun _ _ _ h => h) (Or.inl ⟨by rfl, ?_⟩) (by assumption) ?_
              rotate_left
              · intro w hSw
                go_simp
                try with_reducible rfl
              try simp only [Act.put, List.setIfInBounds_toArray, List.set_cons_zero, List.set_cons_succ]
              refine wpAnyH_take (i := 5) (oi := { dst := some 95, op := Op.move (Operand.tmp 7), type := 45, pos := "law.go:98", after := #[{ on := 2, ground := Ground.guard }], guard := some (2, false) }) (v := ?_) rfl (by kernel_rfl) (by kernel_rfl) (by kernel_rfl) (fun _ _ _ h => h) (Or.inl ⟨by rfl, ?_⟩) (by assumption) ?_
              rotate_left
              · intro w hSw
                go_simp
                try with_reducible rfl
              try simp only [Act.put, List.setIfInBounds_toArray, List.set_cons_zero, List.set_cons_succ]
              refine wpAnyH_ready (rs := [4]) (by kernel_rfl) (by simp) ?_
              refine AllReadyH.cons (o := { dst := some 94, op := Op.call { callee := Callee.value (Operand.func 32), args := #[Operand.tmp 93], argTypes := #[43] }, type := 3, pos := "law.go:98", after := #[{ on := 3, ground := Ground.data }, { on := 2, ground := Ground.chain }, { on := 2, ground := Ground.guard }], guard := some (2, false) }) rfl (fun K hK => ?_) AllReadyH.nil
              go_simp
              go_at_call 32
              with_reducible refine (rdLeft_any ((unhide HR9).keeps (tl_k hHeld)) (by omega) hat7).mono ?_
              rintro e wn ⟨rfl, rfl⟩
              go_wp2_with fail
              refine hK.out _ _ ?_ (fun hHeld => ?_)
              · exact tl_step (by assumption) (Keeps.refl _).drew
              clear hK K
              try simp only [Act.put, List.setIfInBounds_toArray, List.set_cons_zero, List.set_cons_succ]
              refine wpAnyH_ready (rs := [6]) (by kernel_rfl) (by simp) ?_
              refine AllReadyH.cons (o := { dst := some 96, op := Op.call { callee := Callee.value (Operand.func 33), args := #[Operand.tmp 95], argTypes := #[45] }, type := 3, pos := "law.go:98", after := #[{ on := 5, ground := Ground.data }, { on := 4, ground := Ground.chain }, { on := 2, ground := Ground.guard }], guard := some (2, false) }) rfl (fun K hK => ?_) AllReadyH.nil
              go_simp
              go_at_call 33
              with_reducible refine (refLeftM_any ((unhide HQ9).keeps (tl_k hHeld)) (by omega) hat7).mono ?_
              rintro e wn ⟨rfl, rfl⟩
              go_wp2_with fail
              refine hK.out _ _ ?_ (fun hHeld => ?_)
              · exact tl_step (by assumption) (Keeps.refl _).drew
              clear hK K
              try simp only [Act.put, List.setIfInBounds_toArray, List.set_cons_zero, List.set_cons_succ]
              refine wpAnyH_take (i := 7) (oi := { dst := some 97, op := Op.binOp BinOp.neq 3 (Operand.tmp 94) (Operand.tmp 96) 3, type := 4, pos := "law.go:98", after := #[{ on := 4, ground := Ground.data }, { on := 6, ground := Ground.data }, { on := 2, ground := Ground.guard }], guard := some (2, false) }) (v := ?_) rfl (by kernel_rfl) (by kernel_rfl) (by kernel_rfl) (fun _ _ _ h => h) (Or.inl ⟨by rfl, ?_⟩) (by assumption) ?_
              rotate_left
              · intro w hSw
                go_simp
                try with_reducible rfl
              try simp only [Act.put, List.setIfInBounds_toArray, List.set_cons_zero, List.set_cons_succ]
              refine wpAnyH_take (i := 8) (oi := { dst := some 98, op := Op.pick (Operand.tmp 92) (Operand.const (Value.bool true)) (Operand.tmp 97), type := 4, pos := "law.go:98", after := #[{ on := 2, ground := Ground.data }, { on := 7, ground := Ground.data }], guard := none }) (v := ?_) rfl (by kernel_rfl) (by kernel_rfl) (by kernel_rfl) (fun _ _ _ h => h) (Or.inl ⟨by rfl, ?_⟩) (by assumption) ?_
              rotate_left
              · intro w hSw
                go_simp
                try with_reducible rfl
              try simp only [Act.put, List.setIfInBounds_toArray, List.set_cons_zero, List.set_cons_succ]
              refine wpAnyH_take (i := 9) (oi := { dst := some 99, op := Op.move (Operand.tmp 98), type := 4, pos := "law.go:98", after := #[{ on := 8, ground := Ground.data }, { on := 6, ground := Ground.chain }], guard := none }) (v := ?_) rfl (by kernel_rfl) (by kernel_rfl) (by kernel_rfl) (fun _ _ _ h => h) (Or.inl ⟨by rfl, ?_⟩) (by assumption) ?_
              rotate_left
              · intro w hSw
                go_simp
                try with_reducible rfl
              try simp only [Act.put, List.setIfInBounds_toArray, List.set_cons_zero, List.set_cons_succ]
              refine wpAnyH_take (i := 10) (oi := { dst := some 100, op := Op.move (Operand.tmp 6), type := 43, pos := "law.go:98", after := #[{ on := 9, ground := Ground.guard }], guard := some (9, false) }) (v := ?_) rfl (by kernel_rfl) (by kernel_rfl) (by kernel_rfl) (fun _ _ _ h => h) (Or.inl ⟨by rfl, ?_⟩) (by assumption) ?_
              rotate_left
              · intro w hSw
                go_simp
                try with_reducible rfl
              try simp only [Act.put, List.setIfInBounds_toArray, List.set_cons_zero, List.set_cons_succ]
              refine wpAnyH_take (i := 12) (oi := { dst := some 102, op := Op.move (Operand.tmp 7), type := 45, pos := "law.go:98", after := #[{ on := 9, ground := Ground.guard }], guard := some (9, false) }) (v := ?_) rfl (by kernel_rfl) (by kernel_rfl) (by kernel_rfl) (fun _ _ _ h => h) (Or.inl ⟨by rfl, ?_⟩) (by assumption) ?_
              rotate_left
              · intro w hSw
                go_simp
                try with_reducible rfl
              try simp only [Act.put, List.setIfInBounds_toArray, List.set_cons_zero, List.set_cons_succ]
              refine wpAnyH_take (i := 13) (oi := { dst := some 103, op := Op.nilCheck (Operand.tmp 102), type := 0, pos := "law.go:98", after := #[{ on := 12, ground := Ground.data }, { on := 9, ground := Ground.guard }], guard := some (9, false) }) (v := ?_) rfl (by kernel_rfl) (by kernel_rfl) (by kernel_rfl) (fun _ _ _ h => h) (Or.inl ⟨by rfl, ?_⟩) (by assumption) ?_
              rotate_left
              · intro w hSw
                go_simp
                try with_reducible rfl
              try simp only [Act.put, List.setIfInBounds_toArray, List.set_cons_zero, List.set_cons_succ]
              refine wpAnyH_take (i := 14) (oi := { dst := some 104, op := Op.fieldAddr 48 (Operand.tmp 103) 2, type := 0, pos := "law.go:98", after := #[{ on := 13, ground := Ground.data }, { on := 9, ground := Ground.guard }], guard := some (9, false) }) (v := ?_) rfl (by kernel_rfl) (by kernel_rfl) (by kernel_rfl) (fun _ _ _ h => h) (Or.inl ⟨by rfl, ?_⟩) (by assumption) ?_
              rotate_left
              · intro w hSw
                go_simp
                try with_reducible rfl
              try simp only [Act.put, List.setIfInBounds_toArray, List.set_cons_zero, List.set_cons_succ]
              refine wpAnyH_take (i := 15) (oi := { dst := some 105, op := Op.load 46 (Operand.tmp 104), type := 46, pos := "law.go:98", after := #[{ on := 14, ground := Ground.data }, { on := 9, ground := Ground.guard }], guard := some (9, false) }) (v := ?_) rfl (by kernel_rfl) (by kernel_rfl) (by kernel_rfl) (fun _ _ _ h => h) (Or.inl ⟨by rfl, ?_⟩) (by assumption) ?_
              rotate_left
              · intro w hSw
                go_simp
                try with_reducible rfl
              try simp only [Act.put, List.setIfInBounds_toArray, List.set_cons_zero, List.set_cons_succ]
              refine wpAnyH_ready (rs := [11]) (by kernel_rfl) (by simp) ?_
              refine AllReadyH.cons (o := { dst := some 101, op := Op.call { callee := Callee.value (Operand.func 34), args := #[Operand.tmp 100], argTypes := #[43] }, type := 46, pos := "law.go:98", after := #[{ on := 10, ground := Ground.data }, { on := 9, ground := Ground.chain }, { on := 9, ground := Ground.guard }], guard := some (9, false) }) rfl (fun K hK => ?_) AllReadyH.nil
              go_simp
              go_at_call 34
              with_reducible refine (rdErr_any ((unhide HR9).keeps (tl_k hHeld))).mono ?_
              rintro e wn ⟨rfl, hwn⟩
              rw [hwn]
              clear hwn
              go_wp2_with fail
              refine hK.out _ _ ?_ (fun hHeld => ?_)
              · assumption
              clear hK K
              try simp only [Act.put, List.setIfInBounds_toArray, List.set_cons_zero, List.set_cons_succ]
              refine wpAnyH_take (i := 16) (oi := { dst := some 106, op := Op.binOp BinOp.neq 46 (Operand.tmp 101) (Operand.tmp 105) 46, type := 4, pos := "law.go:98", after := #[{ on := 11, ground := Ground.data }, { on := 15, ground := Ground.data }, { on := 9, ground := Ground.guard }], guard := some (9, false) }) (v := ?_) rfl (by kernel_rfl) (by kernel_rfl) (by kernel_rfl) (fun _ _ _ h => h) (Or.inl ⟨by rfl, ?_⟩) (by assumption) ?_
              rotate_left
              · intro w hSw
                go_simp
                try with_reducible rfl
              try simp only [Act.put, List.setIfInBounds_toArray, List.set_cons_zero, List.set_cons_succ]
              refine wpAnyH_take (i := 17) (oi := { dst := some 107, op := Op.pick (Operand.tmp 99) (Operand.const (Value.bool true)) (Operand.tmp 106), type := 4, pos := "law.go:98", after := #[{ on := 9, ground := Ground.data }, { on := 16, ground := Ground.data }], guard := none }) (v := ?_) rfl (by kernel_rfl) (by kernel_rfl) (by kernel_rfl) (fun _ _ _ h => h) (Or.inl ⟨by rfl, ?_⟩) (by assumption) ?_
              rotate_left
              · intro w hSw
                go_simp
                try with_reducible rfl
              try simp only [Act.put, List.setIfInBounds_toArray, List.set_cons_zero, List.set_cons_succ]
              refine wpAnyH_take (i := 18) (oi := { dst := some 108, op := Op.move (Operand.tmp 107), type := 4, pos := "law.go:98", after := #[{ on := 17, ground := Ground.data }, { on := 11, ground := Ground.chain }], guard := none }) (v := ?_) rfl (by kernel_rfl) (by kernel_rfl) (by kernel_rfl) (fun _ _ _ h => h) (Or.inl ⟨by rfl, ?_⟩) (by assumption) ?_
              rotate_left
              · intro w hSw
                go_simp
                try with_reducible rfl
              try simp only [Act.put, List.setIfInBounds_toArray, List.set_cons_zero, List.set_cons_succ]
              refine wpAnyH_take (i := 19) (oi := { dst := some 109, op := Op.move (Operand.tmp 6), type := 43, pos := "law.go:98", after := #[{ on := 18, ground := Ground.guard }], guard := some (18, false) }) (v := ?_) rfl (by kernel_rfl) (by kernel_rfl) (by kernel_rfl) (fun _ _ _ h => h) (Or.inl ⟨by rfl, ?_⟩) (by assumption) ?_
              rotate_left
              · intro w hSw
                go_simp
                try with_reducible rfl
              try simp only [Act.put, List.setIfInBounds_toArray, List.set_cons_zero, List.set_cons_succ]
              refine wpAnyH_take (i := 21) (oi := { dst := some 111, op := Op.move (Operand.tmp 7), type := 45, pos := "law.go:98", after := #[{ on := 18, ground := Ground.guard }], guard := some (18, false) }) (v := ?_) rfl (by kernel_rfl) (by kernel_rfl) (by kernel_rfl) (fun _ _ _ h => h) (Or.inl ⟨by rfl, ?_⟩) (by assumption) ?_
              rotate_left
              · intro w hSw
                go_simp
                try with_reducible rfl
              try simp only [Act.put, List.setIfInBounds_toArray, List.set_cons_zero, List.set_cons_succ]
              refine wpAnyH_ready (rs := [20]) (by kernel_rfl) (by simp) ?_
              refine AllReadyH.cons (o := { dst := some 110, op := Op.call { callee := Callee.value (Operand.func 28), args := #[Operand.tmp 109], argTypes := #[43] }, type := 46, pos := "law.go:98", after := #[{ on := 19, ground := Ground.data }, { on := 18, ground := Ground.chain }, { on := 18, ground := Ground.guard }], guard := some (18, false) }) rfl (fun K hK => ?_) AllReadyH.nil
              go_simp
              go_at_call 28
              with_reducible refine (rdEnd_any ((unhide HR9).keeps (tl_k hHeld)) (unhide HX) (by omega) hat7 (fun b e => Nat.lt_of_lt_of_le (unhide HLT9 b e) (tl_size hHeld))).mono ?_
              rintro e wn ⟨rfl, hke⟩
              go_wp2_with fail
              refine hK.out _ _ ?_ (fun hHeld => ?_)
              · exact tl_step (by assumption) hke
              clear hK K
              try simp only [Act.put, List.setIfInBounds_toArray, List.set_cons_zero, List.set_cons_succ]
              refine wpAnyH_ready (rs := [22]) (by kernel_rfl) (by simp) ?_
              refine AllReadyH.cons (o := { dst := some 112, op := Op.call { callee := Callee.value (Operand.func 29), args := #[Operand.tmp 111], argTypes := #[45] }, type := 46, pos := "law.go:98", after := #[{ on := 21, ground := Ground.data }, { on := 20, ground := Ground.chain }, { on := 18, ground := Ground.guard }], guard := some (18, false) }) rfl (fun K hK => ?_) AllReadyH.nil
              go_simp
              go_at_call 29
              with_reducible refine (refEnd_any ((unhide HQ9).keeps (tl_k hHeld)) (unhide HX) (by omega) hat7).mono ?_
              rintro e wn ⟨rfl, hkf⟩
              go_wp2_with fail
              refine hK.out _ _ ?_ (fun hHeld => ?_)
              · exact tl_step (by assumption) hkf
              clear hK K
              try simp only [Act.put, List.setIfInBounds_toArray, List.set_cons_zero, List.set_cons_succ]
              refine wpAnyH_take (i := 23) (oi := { dst := some 113, op := Op.binOp BinOp.neq 46 (Operand.tmp 110) (Operand.tmp 112) 46, type := 4, pos := "law.go:98", after := #[{ on := 20, ground := Ground.data }, { on := 22, ground := Ground.data }, { on := 18, ground := Ground.guard }], guard := some (18, false) }) (v := ?_) rfl (by kernel_rfl) (by kernel_rfl) (by kernel_rfl) (fun _ _ _ h => h) (Or.inl ⟨by rfl, ?_⟩) (by assumption) ?_
              rotate_left
              · intro w hSw
                go_simp
                try with_reducible rfl
              try simp only [Act.put, List.setIfInBounds_toArray, List.set_cons_zero, List.set_cons_succ]
              refine wpAnyH_take (i := 24) (oi := { dst := some 114, op := Op.pick (Operand.tmp 108) (Operand.const (Value.bool true)) (Operand.tmp 113), type := 4, pos := "law.go:98", after := #[{ on := 18, ground := Ground.data }, { on := 23, ground := Ground.data }], guard := none }) (v := ?_) rfl (by kernel_rfl) (by kernel_rfl) (by kernel_rfl) (fun _ _ _ h => h) (Or.inl ⟨by rfl, ?_⟩) (by assumption) ?_
              rotate_left
              · intro w hSw
                go_simp
                try with_reducible rfl
              try simp only [Act.put, List.setIfInBounds_toArray, List.set_cons_zero, List.set_cons_succ]
              refine wpAnyH_done (by kernel_rfl) ?_ _
              have HKF := hide ((unhide HKB).trans (tl_k hHeld))
              have HRF := hide ((unhide HR9).keeps (tl_k hHeld))
              have HQF := hide ((unhide HQ9).keeps (tl_k hHeld))
              have hszf := Nat.lt_of_lt_of_le hsz (tl_size hHeld)
              clear hHeld
              go_wp2
              exact ⟨⟨k + 1, by omega, by omega, by go_num, ⟨unhide HKF, at1, f1, hat7, unhide HRF, unhide HQF⟩, hszf⟩, by simp [intOf]; omega⟩
      · obtain ⟨hkp, _⟩ := hI
        have HKP := hide hkp
        clear hkp
        rcases Nat.lt_or_ge k np with hA | hA
        · have hB : ¬ ((k : Int) < 200) := by omega
          go_wp2
          go_ret
          exact ⟨rfl, unhide HKP⟩
        · have hB : ¬ ((k : Int) < (np : Int)) := by omega
          go_wp2
          go_ret
          exact ⟨rfl, unhide HKP⟩
end Go.Proofs.Ytocnmnimlmehgaa
