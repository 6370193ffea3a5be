/- The walk of WholeReads. -/
import Derived.Test.YtnbcehoddjcnoaaOps17
import Derived.Test.YtnbcehoddjcnoaaRefNew
import Derived.Test.YtnbcehoddjcnoaaWhS
import Derived.Test.YtnbcehoddjcnoaaSpoilF
import Derived.Deep.RegionHeld3
namespace Go.Proofs.Ytnbcehoddjcnoaa
open Go.ChangeShapes Go.WideShapes Go.ChangeAt Go.RowKit

theorem octBoth (xs : List Int) (at_ : Nat) (f n : Int) (hx : B8 xs) (hl : xs.length ≤ 3000) (ha : at_ ≤ 8 * xs.length) (hn0 : -9223372036854775808 ≤ n) (hn1 : n ≤ 9223372036854775807) :
    ∃ at2 f2 ys, at2 ≤ 8 * xs.length ∧ B8 ys ∧ ys.length ≤ 3000 ∧
      (∀ w g A c, WRV w g A c xs at_ f → xs.length ≤ c → Calls Try.prog 29 #[.pointer (some ⟨g, 0, none⟩), .int .i64 n] w (GivesW w g A c xs at2 f2 ys)) ∧
      (∀ w g A c, QV w g A c xs at_ f → Calls Try.prog 30 #[.pointer (some ⟨g, 0, none⟩), .int .i64 n] w (GivesQ w g A c xs at2 f2 ys)) := by
  by_cases h : f ≠ 0 ∨ ((8 * xs.length - at_) / 8 : Nat) < n
  · exact ⟨at_, if f = 0 then 3 else f, [], ha, fun x hx => by simp at hx, by simp, fun w g A c hR _ => wrOctetsNo_any n hR (by omega) ha hn0 hn1 h, fun w g A c hQ => xOctetsR_any n _ _ _ (refOctetsNo_any n hQ (by omega) ha h)⟩
  · have hf : f = 0 := by
      by_cases hf : f = 0
      · exact hf
      · exact absurd (.inl hf) h
    subst hf
    have hle : ¬ ((8 * xs.length - at_) / 8 : Nat) < n := fun h2 => h (.inr h2)
    obtain ⟨m, hm1, hm2⟩ : ∃ m : Nat, max n 0 = (m : Int) ∧ max 0 n = (m : Int) := ⟨(max n 0).toNat, by omega, by omega⟩
    have hy : at_ + 8 * m ≤ 8 * xs.length := by omega
    exact ⟨at_ + 8 * m, 0, rdO xs at_ m, hy, rdO_bytes _ _ _, by rw [rdO_length]; omega, fun w g A c hR hc => wrOctets_any n m hm1 hR hx (by omega) ha hc hy (by omega), fun w g A c hQ => xOctetsR_any n _ _ _ (refOctets_any n m hm2 hQ hx (by omega) ha hy (by omega))⟩
theorem bt_le {xs : List Int} {at_ : Nat} {f s : Int} {W : Nat} (h : at_ ≤ 8 * xs.length) : btA xs at_ f s W ≤ 8 * xs.length := by
  unfold btA
  split
  · exact rdAt_le h
  · exact h
theorem sl_le {xs : List Int} {at_ : Nat} {f : Int} (h : at_ ≤ 8 * xs.length) : slA xs at_ f ≤ 8 * xs.length := by
  unfold slA smR
  repeat' split
  all_goals first | omega | (simp only []; omega) | (simp; omega)
theorem wrFail_any (e2 : Int) {w : World} {g : Nat} {A : Option Addr} {c : Nat} {xs : List Int} {at_ : Nat} {f : Int} (hR : WRV w g A c xs at_ f) :
    Calls Try.prog 35 #[.pointer (some ⟨g, 0, none⟩), .int .i64 e2] w fun e w' => e = .returned (.tuple #[]) ∧ WRV w' g A c xs at_ (if f = 0 then e2 else f) ∧ Fr g none w w' := by
  by_cases hf : f = 0
  · subst hf
    rw [if_pos rfl]
    exact fail0_any e2 hR
  · rw [if_neg hf]
    refine (failF_any e2 hR hf).mono ?_
    rintro e w' ⟨rfl, rfl⟩
    exact ⟨rfl, hR, Fr.refl _ _ _⟩

def RdInv (w : World) (gr gq : Nat) (A Ab : Option Addr) (c cb : Nat) (xs : List Int) (wr : World) : Prop :=
  Keeps w wr ∧ ∃ at_ f, at_ ≤ 8 * xs.length ∧ WRV wr gr A c xs at_ f ∧ QV wr gq Ab cb xs at_ f
def RdLay (w : World) (gr gq : Nat) (A Ab : Option Addr) (sz : Nat) : Prop :=
  w.heap.size ≤ gr ∧ gr < gq ∧ gq < sz ∧ (∀ b, rowOf A = some b → w.heap.size ≤ b ∧ b < gr) ∧ (∀ b, rowOf Ab = some b → gr < b ∧ b < gq)
section
variable {w wr w1 : World} {gr gq : Nat} {A Ab : Option Addr} {c cb : Nat} {xs : List Int} {at_ : Nat} {f : Int} {sz : Nat}
theorem q_stays (hL : RdLay w gr gq A Ab sz) (hQ : QV wr gq Ab cb xs at_ f) (hf : Fr gr none wr w1) : QV w1 gq Ab cb xs at_ f :=
  hQ.fr hf (by have := hL.2.1; omega) (fun e => by cases e) (fun _ b e => ⟨by have := (hL.2.2.2.2 b e).1; omega, fun e => by cases e⟩)
theorem r_stays (hL : RdLay w gr gq A Ab sz) (hR : WRV wr gr A c xs at_ f) (hf : Fr gq none wr w1) : WRV w1 gr A c xs at_ f :=
  hR.fr hf (by have := hL.2.1; omega) (fun e => by cases e) (fun b e => ⟨by have := (hL.2.2.2.1 b e).2; have := hL.2.1; omega, fun e => by cases e⟩)
theorem both_new (hL : RdLay w gr gq A Ab sz) (hR : WRV wr gr A c xs at_ f) (hQ : QV wr gq Ab cb xs at_ f) {gx : Nat} (hx : gq < gx) (hf : Fr gx none wr w1) : WRV w1 gr A c xs at_ f ∧ QV w1 gq Ab cb xs at_ f :=
  ⟨hR.fr hf (by have := hL.2.1; omega) (fun e => by cases e) (fun b e => ⟨by have := (hL.2.2.2.1 b e).2; have := hL.2.1; omega, fun e => by cases e⟩),
   hQ.fr hf (by omega) (fun e => by cases e) (fun _ b e => ⟨by have := (hL.2.2.2.2 b e).2; omega, fun e => by cases e⟩)⟩
theorem k_r (hL : RdLay w gr gq A Ab sz) (hk : Keeps w wr) (hf : Fr gr none wr w1) : Keeps w w1 := fr_keeps hk hf hL.1 (fun b e => by cases e)
theorem k_q (hL : RdLay w gr gq A Ab sz) (hk : Keeps w wr) (hf : Fr gq none wr w1) : Keeps w w1 := fr_keeps hk hf (by have := hL.1; have := hL.2.1; omega) (fun b e => by cases e)
end
theorem one_cell {w w' : World} {g go i : Nat} {u : Value} (h : w.cell? ⟨go, i, none⟩ = some u ∧ True) (hf : Fr g none w w') (hg : go ≠ g) (hlt : go < w.heap.size) : w'.cell? ⟨go, i, none⟩ = some u ∧ True :=
  ⟨(World.cell?_of_block (a := ⟨go, i, none⟩) (hf.2.2.2.2 go hlt hg (fun e => by cases e))).trans h.1, trivial⟩
/-- What the last region of a round finds, in whatever order. -/
def TlS (g : Nat) (w3 w' : World) : Prop := g < w3.heap.size ∧ Keeps w3 w'
theorem tl_step {g i : Nat} {w3 w w' : World} {u : Value} (h : w.cell? ⟨g, i, none⟩ = some u ∧ TlS g w3 w) (hk : Keeps w w') : w'.cell? ⟨g, i, none⟩ = some u ∧ TlS g w3 w' :=
  ⟨(Below.cell (p := ⟨g, i, none⟩) hk (Nat.lt_of_lt_of_le h.2.1 h.2.2.size)).trans h.1, h.2.1, h.2.2.trans hk⟩
theorem tl_size {g i : Nat} {w3 w : World} {u : Value} (h : w.cell? ⟨g, i, none⟩ = some u ∧ TlS g w3 w) : w3.heap.size ≤ w.heap.size := h.2.2.size
theorem tl_k {g i : Nat} {w3 w : World} {u : Value} (h : w.cell? ⟨g, i, none⟩ = some u ∧ TlS g w3 w) : Keeps w3 w := h.2.2

set_option maxRecDepth 100000 in
set_option maxHeartbeats 4000000 in
theorem wholeReads_any (Ab P : Option Addr) (xs : List Int) (cb : Nat) (ps : List OpV) (c0 : Nat) (w : World) (hh : Holds w Ab xs) (hx : B8 xs) (hxl : xs.length ≤ maxLen) (hp : OpsAny w P ps) (hpl : ps.length ≤ maxLen) :
    Calls Try.prog 4 #[.slice Ab xs.length cb, .slice P ps.length c0] w fun e w' => e = .returned (.bool true) ∧ Keeps w w' := by
  have hm : ps.length ≤ 9223372036854775807 := by unfold maxLen at hpl; exact hpl
  have hm2 : xs.length ≤ 9223372036854775807 := by unfold maxLen at hxl; exact hxl
  clear hpl hxl
  have HP := hide hp
  clear hp
  generalize hn : ps.length = np at *
  have HN := hide hn
  clear hn
  rcases Nat.lt_or_ge 2000 xs.length with hbig | hsm
  · clear hh hx
    go_enter Try.func4, Try.ntmps4
    go_wp2_with (go_at_call 8; refine (awake17_any _).mono ?_; rintro e w1 ⟨rfl, hk⟩)
    go_ret
    exact ⟨rfl, hk⟩
  · clear hm2
    have HH := hide hh
    have HX := hide hx
    have HCO := hide (own_any Ab xs cb 71 (by omega) w hh)
    clear hh hx
    go_enter Try.func4, Try.ntmps4
    go_wp2_with fail
    with_reducible refine (unhide HCO).mono ?_
    rintro e w1 ⟨gi, rfl, hbi, hgi, hk1⟩
    have hgil := hbi.lt
    have HBI := hide hbi
    have HK1 := hide hk1
    have HCN := hide (wrNew_any (some ⟨gi, 0, none⟩) xs (xs.length + 3) w1 (ownCells_holds hbi) (by omega))
    clear hbi hk1
    go_wp2_with fail
    with_reducible refine (unhide HCN).mono ?_
    rintro e w2 ⟨gr, A, c, rfl, hrv, hgr, hrow, hk2, hcl⟩
    have hgrl := hrv.1.lt
    have HRV := hide hrv
    have HROW := hide hrow
    have HK2 := hide hk2
    have HCQ := hide (xNew_any Ab xs xs.length cb rfl (by omega) w2 ((unhide HH).keeps ((unhide HK1).trans hk2)))
    clear hrv hrow hk2
    go_wp2_with fail
    with_reducible refine (unhide HCQ).mono ?_
    rintro e w3 ⟨gq, Aq, cq, rfl, hqv, hgq, hgqz, hqrow, hk3⟩
    have HQV := hide hqv
    have HQR := hide hqrow
    have HK3 := hide hk3
    clear hqv hqrow hk3
    go_wp2_with fail
    refine (awake17_any _).mono ?_
    rintro e w4 ⟨rfl, hk4⟩
    have HK4 := hide ((unhide HK3).trans hk4)
    have HBI4 := hide (((unhide HBI).keeps (unhide HK2)).keeps (unhide HK4))
    have HCK := hide (kept_any gi Ab xs cb 71 (by omega) w4 (unhide HBI4) ((unhide HH).keeps (((unhide HK1).trans (unhide HK2)).trans (unhide HK4))))
    have HQ4 := hide ((unhide HQV).keeps hk4)
    have hz4 := hk4.size
    clear hk4
    go_wp2_with fail
    with_reducible refine (unhide HCK).mono ?_
    rintro e w5 ⟨rfl, hk5⟩
    have HR5 := hide ((unhide HRV).keeps ((unhide HK4).trans hk5))
    have HQ5 := hide ((unhide HQ4).keeps hk5)
    have HBI5 := hide ((unhide HBI4).keeps hk5)
    have HK5 := hide ((((unhide HK1).trans (unhide HK2)).trans (unhide HK4)).trans hk5)
    have hz5 := hk5.size
    have HE1 := hide (wrEnd_any (unhide HR5) (unhide HX) (by omega) (by omega))
    clear hk5
    go_wp2_with fail
    with_reducible refine (unhide HE1).mono ?_
    rintro e w6 ⟨rfl, hk6⟩
    have HE2 := hide (xEnd_any ((unhide HQ5).keeps hk6) (unhide HX) (by omega) (by omega))
    have HK6 := hide hk6
    have hz6 := hk6.size
    clear hk6 HE1
    generalize wendV xs 0 0 = ev at *
    go_wp2_with fail
    with_reducible refine (unhide HE2).mono ?_
    rintro e w7 ⟨rfl, hk7⟩
    have hbi7 := ((unhide HBI5).keeps (unhide HK6)).keeps hk7
    have HCS := hide (spoilF_any (some ⟨gi, 0, none⟩) gi xs xs.length (xs.length + 3) w7 rfl (fun _ => rfl) (ownCells_holds hbi7) (unhide HX) (fun i hi => hbi7.frozen i) (by omega))
    have HR7 := hide (((unhide HR5).keeps (unhide HK6)).keeps hk7)
    have HQ7 := hide (((unhide HQ5).keeps (unhide HK6)).keeps hk7)
    have HK7 := hide (((unhide HK5).trans (unhide HK6)).trans hk7)
    have hz7 := hk7.size
    clear hk7 hbi7
    go_wp2_with fail
    with_reducible refine (unhide HCS).mono ?_
    rintro e w8 ⟨rfl, hf8⟩
    have hz8 := hf8.2.2.2.1
    have hz1 := (unhide HK1).size
    have HLAY := hide (show RdLay w gr gq A Aq (gq + 1) from ⟨by omega, by omega, by omega, fun b e => ⟨by have := unhide HROW b e; omega, (unhide HRV).2.2 b e⟩, fun b e => ⟨by have := (unhide HQR b e).1; omega, (unhide HQR b e).2⟩⟩)
    have HI := hide (show RdInv w gr gq A Aq c cq xs w8 from ⟨fr_keeps (unhide HK7) hf8 (by omega) (fun b e => by cases e), 0, 0, by omega,
      (unhide HR7).fr hf8 (by omega) (fun e => by cases e) (fun b e => ⟨by have := unhide HROW b e; omega, fun e => by cases e⟩),
      (unhide HQ7).fr hf8 (by omega) (fun e => by cases e) (fun _ b e => ⟨by have := (unhide HQR b e).1; omega, fun e => by cases e⟩)⟩)
    clear hf8
    go_wp2
    go_loopw [8] (fun i wr => ∃ k : Nat, k ≤ np ∧ k ≤ 60 ∧ i = .int .i64 k ∧ RdInv w gr gq A Aq c cq xs wr ∧ gq < wr.heap.size) (fun i _ => np - (intOf i).toNat)
    case atStart => exact ⟨0, by omega, by omega, rfl, unhide HI, by omega⟩
    case round =>
      obtain ⟨k, hk, hk1, rfl, hI, hgqz2⟩ := hrel
      clear hgqz
      have hgqz := hgqz2
      clear hgqz2
      by_cases hlt : k < np ∧ k < 60
      · obtain ⟨hlt, hlt60⟩ := hlt
        obtain ⟨hkp, at0, f, hat, hR, hQ⟩ := hI
        obtain ⟨b, o, kind, x, v, s, qa, qc, bs, rfl, hq, hc0, hc1, hc2, hc3, hc4, _, _, _, _, _, hs0, hs1, hx0, hx1⟩ := ((unhide HP).keeps hkp).at_ (k := k) (by rw [unhide HN]; exact hlt)
        have hop := (Keeps.refl wr).alloc (.cells #[.int .i64 kind, .int .i64 x, .int .u64 v, .int .u64 s, .slice qa bs.length qc] 38)
        have hOb := Blk.new wr 38 #[.int .i64 kind, .int .i64 x, .int .u64 v, .int .u64 s, .slice qa bs.length qc]
        have hOd1 : (wr.alloc (.cells #[.int .i64 kind, .int .i64 x, .int .u64 v, .int .u64 s, .slice qa bs.length qc] 38)).drew.cell? ⟨wr.heap.size, 1, none⟩ = some (.int .i64 x) := hOb.drew.cell 1
        have hOd3 : (wr.alloc (.cells #[.int .i64 kind, .int .i64 x, .int .u64 v, .int .u64 s, .slice qa bs.length qc] 38)).drew.cell? ⟨wr.heap.size, 3, none⟩ = some (.int .u64 s) := hOb.drew.cell 3
        have hwz := hkp.size
        have HRO := hide (hR.keeps hop)
        have HQO := hide (hQ.keeps hop)
        have HKP := hide (hkp.trans hop)
        have HOB := hide hOb
        have HOD1 := hide hOd1
        have HOD3 := hide hOd3
        clear hkp hR hQ hop hOb hq hOd1 hOd3
        by_cases h2 : kind = 2
        · subst h2
          have HC1 := hide fun (wx : World) (h : WRV wx gr A c xs at0 f) => wrBetween_any s hs0 hs1 h (unhide HX) (by omega) hat
          have HC2F := hide fun (wx : World) (h : QV wx gq Aq cq xs at0 f) => xBetweenR_any s hs0 hs1 h (unhide HX) (by omega) hat
          have HAT2 := hide (bt_le (f := f) (s := s) (W := Lib.bitLen s.toNat) hat)
          go_wp2
          refine wp_region_held_drew (S := fun w' => w'.cell? ⟨wr.heap.size, 3, none⟩ = some (.int .u64 s) ∧ True) (by kernel_rfl) ?_ (fun hHeld => ?_)
          · exact ⟨unhide HOD3, trivial⟩
          refine wpAnyH_take (i := 0) (oi := { dst := some 84, op := Op.move (Operand.tmp 6), type := 47, pos := "law.go:95", after := #[], guard := none }) (v := ?_) rfl (by kernel_rfl) (by kernel_rfl) (by kernel_rfl) (fun _ _ _ h => h) (Or.inl ⟨by rfl, ?_⟩) (by assumption) ?_
          rotate_left
          · intro w hSw
            go_simp
            try with_reducible rfl
          try simp only [Act.put, List.setIfInBounds_toArray, List.set_cons_zero, List.set_cons_succ]
          refine wpAnyH_take (i := 1) (oi := { dst := some 85, op := Op.fieldAddr 38 (Operand.tmp 9) 3, type := 0, pos := "law.go:95", after := #[], guard := none }) (v := ?_) rfl (by kernel_rfl) (by kernel_rfl) (by kernel_rfl) (fun _ _ _ h => h) (Or.inl ⟨by rfl, ?_⟩) (by assumption) ?_
          rotate_left
          · intro w hSw
            go_simp
            try with_reducible rfl
          try simp only [Act.put, List.setIfInBounds_toArray, List.set_cons_zero, List.set_cons_succ]
          refine wpAnyH_take (i := 2) (oi := { dst := some 86, op := Op.load 36 (Operand.tmp 85), type := 36, pos := "law.go:95", after := #[{ on := 1, ground := Ground.data }], guard := none }) (v := ?_) rfl (by kernel_rfl) (by kernel_rfl) (by kernel_rfl) (fun _ _ _ h => h) (Or.inl ⟨by rfl, ?_⟩) (by assumption) ?_
          rotate_left
          · intro w hSw
            go_simp
            try with_reducible rfl
          try simp only [Act.put, List.setIfInBounds_toArray, List.set_cons_zero, List.set_cons_succ]
          refine wpAnyH_take (i := 4) (oi := { dst := some 88, op := Op.move (Operand.tmp 7), type := 49, pos := "law.go:95", after := #[], guard := none }) (v := ?_) rfl (by kernel_rfl) (by kernel_rfl) (by kernel_rfl) (fun _ _ _ h => h) (Or.inl ⟨by rfl, ?_⟩) (by assumption) ?_
          rotate_left
          · intro w hSw
            go_simp
            try with_reducible rfl
          try simp only [Act.put, List.setIfInBounds_toArray, List.set_cons_zero, List.set_cons_succ]
          refine wpAnyH_take (i := 5) (oi := { dst := some 89, op := Op.fieldAddr 38 (Operand.tmp 9) 3, type := 0, pos := "law.go:95", after := #[], guard := none }) (v := ?_) rfl (by kernel_rfl) (by kernel_rfl) (by kernel_rfl) (fun _ _ _ h => h) (Or.inl ⟨by rfl, ?_⟩) (by assumption) ?_
          rotate_left
          · intro w hSw
            go_simp
            try with_reducible rfl
          try simp only [Act.put, List.setIfInBounds_toArray, List.set_cons_zero, List.set_cons_succ]
          refine wpAnyH_take (i := 6) (oi := { dst := some 90, op := Op.load 36 (Operand.tmp 89), type := 36, pos := "law.go:95", after := #[{ on := 5, ground := Ground.data }], guard := none }) (v := ?_) rfl (by kernel_rfl) (by kernel_rfl) (by kernel_rfl) (fun _ _ _ h => h) (Or.inl ⟨by rfl, ?_⟩) (by assumption) ?_
          rotate_left
          · intro w hSw
            go_simp
            try with_reducible rfl
          try simp only [Act.put, List.setIfInBounds_toArray, List.set_cons_zero, List.set_cons_succ]
          refine wpAnyH_ready (rs := [3]) (by kernel_rfl) (by simp) ?_
          refine AllReadyH.cons (o := { dst := some 87, op := Op.call { callee := Callee.value (Operand.func 31), args := #[Operand.tmp 84, Operand.tmp 86], argTypes := #[47, 36] }, type := 36, pos := "law.go:95", after := #[{ on := 0, ground := Ground.data }, { on := 2, ground := Ground.data }], guard := none }) rfl (fun K hK => ?_) AllReadyH.nil
          go_simp
          go_at_call 31
          refine (unhide HC1 _ ((unhide HRO).keeps (Keeps.refl _).drew)).mono ?_
          rintro e w6 ⟨rfl, hR6, hf6⟩
          have HR6 := hide hR6
          have HF1 := hide hf6
          have hQ6 := q_stays (unhide HLAY) (unhide HQO).drew hf6
          have HC2 := hide (unhide HC2F _ hQ6)
          clear hR6 hf6 hQ6
          go_wp2_with fail
          refine hK.out _ _ ?_ (fun hHeld => ?_)
          · exact one_cell (by assumption) (unhide HF1) (by have := (unhide HLAY).2.1; omega) (by have e1 : (wr.alloc (.cells #[.int .i64 2, .int .i64 x, .int .u64 v, .int .u64 s, .slice qa bs.length qc] 38)).drew.heap.size = wr.heap.size + 1 := World.size_alloc _ _; omega)
          clear hK K
          try simp only [Act.put, List.setIfInBounds_toArray, List.set_cons_zero, List.set_cons_succ]
          have hOc : True := trivial
          refine wpAnyH_ready (rs := [7]) (by kernel_rfl) (by simp) ?_
          refine AllReadyH.cons (o := { dst := some 91, op := Op.call { callee := Callee.value (Operand.func 32), args := #[Operand.tmp 88, Operand.tmp 90], argTypes := #[49, 36] }, type := 36, pos := "law.go:95", after := #[{ on := 4, ground := Ground.data }, { on := 6, ground := Ground.data }, { on := 3, ground := Ground.chain }], guard := none }) rfl (fun K hK => ?_) AllReadyH.nil
          go_simp
          go_at_call 32
          with_reducible refine (unhide HC2).mono ?_
          rintro e w7 ⟨rfl, hQ7, hf7⟩
          have HQ7 := hide hQ7
          have HF2 := hide hf7
          have HR7 := hide (r_stays (unhide HLAY) (unhide HR6) hf7)
          clear hQ7 hf7
          go_wp2_with fail
          refine hK.out _ _ ?_ (fun hHeld => ?_)
          · exact one_cell (by assumption) (unhide HF2) (by omega) (by have := (unhide HF1).2.2.2.1; have e1 : (wr.alloc (.cells #[.int .i64 2, .int .i64 x, .int .u64 v, .int .u64 s, .slice qa bs.length qc] 38)).drew.heap.size = wr.heap.size + 1 := World.size_alloc _ _; omega)
          clear hK K
          try simp only [Act.put, List.setIfInBounds_toArray, List.set_cons_zero, List.set_cons_succ]
          generalize btV xs at0 f s (Lib.bitLen s.toNat) = rv at *
          refine wpAnyH_take (i := 8) (oi := { dst := some 92, op := Op.binOp BinOp.eql 36 (Operand.tmp 87) (Operand.tmp 91) 36, type := 4, pos := "law.go:95", after := #[{ on := 3, ground := Ground.data }, { on := 7, ground := Ground.data }], guard := none }) (v := ?_) rfl (by kernel_rfl) (by kernel_rfl) (by kernel_rfl) (fun _ _ _ h => h) (Or.inl ⟨by rfl, ?_⟩) (by assumption) ?_
          rotate_left
          · intro w hSw
            go_simp
            try with_reducible rfl
          try simp only [Act.put, List.setIfInBounds_toArray, List.set_cons_zero, List.set_cons_succ]
          refine wpAnyH_take (i := 9) (oi := { dst := some 10, op := Op.assign (Operand.tmp 92), type := 4, pos := "law.go:95", after := #[{ on := 8, ground := Ground.data }, { on := 7, ground := Ground.chain }, { on := 0, ground := Ground.phase }, { on := 1, ground := Ground.phase }, { on := 2, ground := Ground.phase }, { on := 3, ground := Ground.phase }, { on := 4, ground := Ground.phase }, { on := 5, ground := Ground.phase }, { on := 6, ground := Ground.phase }, { on := 7, ground := Ground.phase }, { on := 8, ground := Ground.phase }], guard := none }) (v := ?_) rfl (by kernel_rfl) (by kernel_rfl) (by kernel_rfl) (fun _ _ _ h => h) (Or.inl ⟨by rfl, ?_⟩) (by assumption) ?_
          rotate_left
          · intro w hSw
            go_simp
            try with_reducible rfl
          try simp only [Act.put, List.setIfInBounds_toArray, List.set_cons_zero, List.set_cons_succ]
          refine wpAnyH_done (by kernel_rfl) ?_ _
          have HKB := hide (k_q (unhide HLAY) (k_r (unhide HLAY) (unhide HKP).drew (unhide HF1)) (unhide HF2))
          have hsz : gq < w7.heap.size := by have := (unhide HF1).2.2.2.1; have := (unhide HF2).2.2.2.1; have e1 : (wr.alloc (.cells #[.int .i64 2, .int .i64 x, .int .u64 v, .int .u64 s, .slice qa bs.length qc] 38)).drew.heap.size = wr.heap.size + 1 := World.size_alloc _ _; omega
          have hR7 := unhide HR7
          have hQ7 := unhide HQ7
          have hat7 := unhide HAT2
          generalize btA xs at0 f s (Lib.bitLen s.toNat) = at1 at *
          generalize btF xs at0 f s (Lib.bitLen s.toNat) = f1 at *
          clear hOc
          have hg9 : w7.cell? ⟨gq, 2, none⟩ = some (.int .i64 f1) := hQ7.1.cell 2
          have HR9 := hide hR7
          have HQ9 := hide hQ7
          clear hR7 hQ7
          go_wp2
          refine wp_region_held_drew (S := fun w' => w'.cell? ⟨gq, 2, none⟩ = some (.int .i64 f1) ∧ TlS gq w7 w') (by kernel_rfl) ?_ (fun hHeld => ?_)
          · exact ⟨hg9, hsz, (Keeps.refl w7).drew⟩
          refine wpAnyH_take (i := 0) (oi := { dst := some 112, op := Op.move (Operand.tmp 10), type := 4, pos := "law.go:104", after := #[], guard := none }) (v := ?_) rfl (by kernel_rfl) (by kernel_rfl) (by kernel_rfl) (fun _ _ _ h => h) (Or.inl ⟨by rfl, ?_⟩) (by assumption) ?_
          rotate_left
          · intro w hSw
            go_simp
            try with_reducible rfl
          try simp only [Act.put, List.setIfInBounds_toArray, List.set_cons_zero, List.set_cons_succ]
          refine wpAnyH_take (i := 1) (oi := { dst := some 113, op := Op.unOp UnOp.not 4 (Operand.tmp 112), type := 4, pos := "law.go:104", after := #[{ on := 0, ground := Ground.data }], guard := none }) (v := ?_) rfl (by kernel_rfl) (by kernel_rfl) (by kernel_rfl) (fun _ _ _ h => h) (Or.inl ⟨by rfl, ?_⟩) (by assumption) ?_
          rotate_left
          · intro w hSw
            go_simp
            try with_reducible rfl
          try simp only [Act.put, List.setIfInBounds_toArray, List.set_cons_zero, List.set_cons_succ]
          refine wpAnyH_take (i := 2) (oi := { dst := some 114, op := Op.move (Operand.tmp 113), type := 4, pos := "law.go:104", after := #[{ on := 1, ground := Ground.data }], guard := none }) (v := ?_) rfl (by kernel_rfl) (by kernel_rfl) (by kernel_rfl) (fun _ _ _ h => h) (Or.inl ⟨by rfl, ?_⟩) (by assumption) ?_
          rotate_left
          · intro w hSw
            go_simp
            try with_reducible rfl
          try simp only [Act.put, List.setIfInBounds_toArray, List.set_cons_zero, List.set_cons_succ]
          refine wpAnyH_take (i := 3) (oi := { dst := some 115, op := Op.move (Operand.tmp 6), type := 47, pos := "law.go:104", after := #[{ on := 2, ground := Ground.guard }], guard := some (2, false) }) (v := ?_) rfl (by kernel_rfl) (by kernel_rfl) (by kernel_rfl) (fun _ _ _ h => h) (Or.inl ⟨by rfl, ?_⟩) (by assumption) ?_
          rotate_left
          · intro w hSw
            go_simp
            try with_reducible rfl
          try simp only [Act.put, List.setIfInBounds_toArray, List.set_cons_zero, List.set_cons_succ]
          refine wpAnyH_take (i := 5) (oi := { dst := some 117, op := Op.move (Operand.tmp 7), type := 49, pos := "law.go:104", after := #[{ on := 2, ground := Ground.guard }], guard := some (2, false) }) (v := ?_) rfl (by kernel_rfl) (by kernel_rfl) (by kernel_rfl) (fun _ _ _ h => h) (Or.inl ⟨by rfl, ?_⟩) (by assumption) ?_
          rotate_left
          · intro w hSw
            go_simp
            try with_reducible rfl
          try simp only [Act.put, List.setIfInBounds_toArray, List.set_cons_zero, List.set_cons_succ]
          refine wpAnyH_ready (rs := [4]) (by kernel_rfl) (by simp) ?_
          refine AllReadyH.cons (o := { dst := some 116, op := Op.call { callee := Callee.value (Operand.func 39), args := #[Operand.tmp 115], argTypes := #[47] }, type := 3, pos := "law.go:104", after := #[{ on := 3, ground := Ground.data }, { on := 2, ground := Ground.chain }, { on := 2, ground := Ground.guard }], guard := some (2, false) }) rfl (fun K hK => ?_) AllReadyH.nil
          go_simp
          go_at_call 39
          refine (wrLeft_any ((unhide HR9).keeps (tl_k hHeld)) (by omega) hat7).mono ?_
          rintro e wn ⟨rfl, rfl⟩
          go_wp2_with fail
          refine hK.out _ _ ?_ (fun hHeld => ?_)
          · exact tl_step (by assumption) (Keeps.refl _).drew
          clear hK K
          try simp only [Act.put, List.setIfInBounds_toArray, List.set_cons_zero, List.set_cons_succ]
          refine wpAnyH_ready (rs := [6]) (by kernel_rfl) (by simp) ?_
          refine AllReadyH.cons (o := { dst := some 118, op := Op.call { callee := Callee.value (Operand.func 40), args := #[Operand.tmp 117], argTypes := #[49] }, type := 3, pos := "law.go:104", after := #[{ on := 5, ground := Ground.data }, { on := 4, ground := Ground.chain }, { on := 2, ground := Ground.guard }], guard := some (2, false) }) rfl (fun K hK => ?_) AllReadyH.nil
          go_simp
          go_at_call 40
          refine (xLeft_any ((unhide HQ9).keeps (tl_k hHeld)) (by omega) hat7).mono ?_
          rintro e wn ⟨rfl, rfl⟩
          go_wp2_with fail
          refine hK.out _ _ ?_ (fun hHeld => ?_)
          · exact tl_step (by assumption) (Keeps.refl _).drew
          clear hK K
          try simp only [Act.put, List.setIfInBounds_toArray, List.set_cons_zero, List.set_cons_succ]
          refine wpAnyH_take (i := 7) (oi := { dst := some 119, op := Op.binOp BinOp.neq 3 (Operand.tmp 116) (Operand.tmp 118) 3, type := 4, pos := "law.go:104", after := #[{ on := 4, ground := Ground.data }, { on := 6, ground := Ground.data }, { on := 2, ground := Ground.guard }], guard := some (2, false) }) (v := ?_) rfl (by kernel_rfl) (by kernel_rfl) (by kernel_rfl) (fun _ _ _ h => h) (Or.inl ⟨by rfl, ?_⟩) (by assumption) ?_
          rotate_left
          · intro w hSw
            go_simp
            try with_reducible rfl
          try simp only [Act.put, List.setIfInBounds_toArray, List.set_cons_zero, List.set_cons_succ]
          refine wpAnyH_take (i := 8) (oi := { dst := some 120, op := Op.pick (Operand.tmp 114) (Operand.const (Value.bool true)) (Operand.tmp 119), type := 4, pos := "law.go:104", after := #[{ on := 2, ground := Ground.data }, { on := 7, ground := Ground.data }], guard := none }) (v := ?_) rfl (by kernel_rfl) (by kernel_rfl) (by kernel_rfl) (fun _ _ _ h => h) (Or.inl ⟨by rfl, ?_⟩) (by assumption) ?_
          rotate_left
          · intro w hSw
            go_simp
            try with_reducible rfl
          try simp only [Act.put, List.setIfInBounds_toArray, List.set_cons_zero, List.set_cons_succ]
          refine wpAnyH_take (i := 9) (oi := { dst := some 121, op := Op.move (Operand.tmp 120), type := 4, pos := "law.go:104", after := #[{ on := 8, ground := Ground.data }, { on := 6, ground := Ground.chain }], guard := none }) (v := ?_) rfl (by kernel_rfl) (by kernel_rfl) (by kernel_rfl) (fun _ _ _ h => h) (Or.inl ⟨by rfl, ?_⟩) (by assumption) ?_
          rotate_left
          · intro w hSw
            go_simp
            try with_reducible rfl
          try simp only [Act.put, List.setIfInBounds_toArray, List.set_cons_zero, List.set_cons_succ]
          refine wpAnyH_take (i := 10) (oi := { dst := some 122, op := Op.move (Operand.tmp 6), type := 47, pos := "law.go:104", after := #[{ on := 9, ground := Ground.guard }], guard := some (9, false) }) (v := ?_) rfl (by kernel_rfl) (by kernel_rfl) (by kernel_rfl) (fun _ _ _ h => h) (Or.inl ⟨by rfl, ?_⟩) (by assumption) ?_
          rotate_left
          · intro w hSw
            go_simp
            try with_reducible rfl
          try simp only [Act.put, List.setIfInBounds_toArray, List.set_cons_zero, List.set_cons_succ]
          refine wpAnyH_take (i := 12) (oi := { dst := some 124, op := Op.move (Operand.tmp 7), type := 49, pos := "law.go:104", after := #[{ on := 9, ground := Ground.guard }], guard := some (9, false) }) (v := ?_) rfl (by kernel_rfl) (by kernel_rfl) (by kernel_rfl) (fun _ _ _ h => h) (Or.inl ⟨by rfl, ?_⟩) (by assumption) ?_
          rotate_left
          · intro w hSw
            go_simp
            try with_reducible rfl
          try simp only [Act.put, List.setIfInBounds_toArray, List.set_cons_zero, List.set_cons_succ]
          refine wpAnyH_take (i := 13) (oi := { dst := some 125, op := Op.nilCheck (Operand.tmp 124), type := 0, pos := "law.go:104", after := #[{ on := 12, ground := Ground.data }, { on := 9, ground := Ground.guard }], guard := some (9, false) }) (v := ?_) rfl (by kernel_rfl) (by kernel_rfl) (by kernel_rfl) (fun _ _ _ h => h) (Or.inl ⟨by rfl, ?_⟩) (by assumption) ?_
          rotate_left
          · intro w hSw
            go_simp
            try with_reducible rfl
          try simp only [Act.put, List.setIfInBounds_toArray, List.set_cons_zero, List.set_cons_succ]
          refine wpAnyH_take (i := 14) (oi := { dst := some 126, op := Op.fieldAddr 60 (Operand.tmp 125) 0, type := 0, pos := "law.go:104", after := #[{ on := 13, ground := Ground.data }, { on := 9, ground := Ground.guard }], guard := some (9, false) }) (v := ?_) rfl (by kernel_rfl) (by kernel_rfl) (by kernel_rfl) (fun _ _ _ h => h) (Or.inl ⟨by rfl, ?_⟩) (by assumption) ?_
          rotate_left
          · intro w hSw
            go_simp
            try with_reducible rfl
          try simp only [Act.put, List.setIfInBounds_toArray, List.set_cons_zero, List.set_cons_succ]
          refine wpAnyH_take (i := 15) (oi := { dst := some 127, op := Op.fieldAddr 58 (Operand.tmp 126) 2, type := 0, pos := "law.go:104", after := #[{ on := 14, ground := Ground.data }, { on := 9, ground := Ground.guard }], guard := some (9, false) }) (v := ?_) rfl (by kernel_rfl) (by kernel_rfl) (by kernel_rfl) (fun _ _ _ h => h) (Or.inl ⟨by rfl, ?_⟩) (by assumption) ?_
          rotate_left
          · intro w hSw
            go_simp
            try with_reducible rfl
          try simp only [Act.put, List.setIfInBounds_toArray, List.set_cons_zero, List.set_cons_succ]
          refine wpAnyH_take (i := 16) (oi := { dst := some 128, op := Op.load 51 (Operand.tmp 127), type := 51, pos := "law.go:104", after := #[{ on := 15, ground := Ground.data }, { on := 9, ground := Ground.guard }], guard := some (9, false) }) (v := ?_) rfl (by kernel_rfl) (by kernel_rfl) (by kernel_rfl) (fun _ _ _ h => h) (Or.inl ⟨by rfl, ?_⟩) (by assumption) ?_
          rotate_left
          · intro w hSw
            go_simp
            try with_reducible rfl
          try simp only [Act.put, List.setIfInBounds_toArray, List.set_cons_zero, List.set_cons_succ]
          refine wpAnyH_ready (rs := [11]) (by kernel_rfl) (by simp) ?_
          refine AllReadyH.cons (o := { dst := some 123, op := Op.call { callee := Callee.value (Operand.func 41), args := #[Operand.tmp 122], argTypes := #[47] }, type := 51, pos := "law.go:104", after := #[{ on := 10, ground := Ground.data }, { on := 9, ground := Ground.chain }, { on := 9, ground := Ground.guard }], guard := some (9, false) }) rfl (fun K hK => ?_) AllReadyH.nil
          go_simp
          go_at_call 41
          refine (wrErr_any ((unhide HR9).keeps (tl_k hHeld))).mono ?_
          rintro e wn ⟨rfl, hwn⟩
          rw [hwn]
          clear hwn
          go_wp2_with fail
          refine hK.out _ _ ?_ (fun hHeld => ?_)
          · assumption
          clear hK K
          try simp only [Act.put, List.setIfInBounds_toArray, List.set_cons_zero, List.set_cons_succ]
          refine wpAnyH_take (i := 17) (oi := { dst := some 129, op := Op.binOp BinOp.neq 51 (Operand.tmp 123) (Operand.tmp 128) 51, type := 4, pos := "law.go:104", after := #[{ on := 11, ground := Ground.data }, { on := 16, ground := Ground.data }, { on := 9, ground := Ground.guard }], guard := some (9, false) }) (v := ?_) rfl (by kernel_rfl) (by kernel_rfl) (by kernel_rfl) (fun _ _ _ h => h) (Or.inl ⟨by rfl, ?_⟩) (by assumption) ?_
          rotate_left
          · intro w hSw
            go_simp
            try with_reducible rfl
          try simp only [Act.put, List.setIfInBounds_toArray, List.set_cons_zero, List.set_cons_succ]
          refine wpAnyH_take (i := 18) (oi := { dst := some 130, op := Op.pick (Operand.tmp 121) (Operand.const (Value.bool true)) (Operand.tmp 129), type := 4, pos := "law.go:104", after := #[{ on := 9, ground := Ground.data }, { on := 17, ground := Ground.data }], guard := none }) (v := ?_) rfl (by kernel_rfl) (by kernel_rfl) (by kernel_rfl) (fun _ _ _ h => h) (Or.inl ⟨by rfl, ?_⟩) (by assumption) ?_
          rotate_left
          · intro w hSw
            go_simp
            try with_reducible rfl
          try simp only [Act.put, List.setIfInBounds_toArray, List.set_cons_zero, List.set_cons_succ]
          refine wpAnyH_take (i := 19) (oi := { dst := some 131, op := Op.move (Operand.tmp 130), type := 4, pos := "law.go:104", after := #[{ on := 18, ground := Ground.data }, { on := 11, ground := Ground.chain }], guard := none }) (v := ?_) rfl (by kernel_rfl) (by kernel_rfl) (by kernel_rfl) (fun _ _ _ h => h) (Or.inl ⟨by rfl, ?_⟩) (by assumption) ?_
          rotate_left
          · intro w hSw
            go_simp
            try with_reducible rfl
          try simp only [Act.put, List.setIfInBounds_toArray, List.set_cons_zero, List.set_cons_succ]
          refine wpAnyH_take (i := 20) (oi := { dst := some 132, op := Op.move (Operand.tmp 6), type := 47, pos := "law.go:104", after := #[{ on := 19, ground := Ground.guard }], guard := some (19, false) }) (v := ?_) rfl (by kernel_rfl) (by kernel_rfl) (by kernel_rfl) (fun _ _ _ h => h) (Or.inl ⟨by rfl, ?_⟩) (by assumption) ?_
          rotate_left
          · intro w hSw
            go_simp
            try with_reducible rfl
          try simp only [Act.put, List.setIfInBounds_toArray, List.set_cons_zero, List.set_cons_succ]
          refine wpAnyH_take (i := 22) (oi := { dst := some 134, op := Op.move (Operand.tmp 7), type := 49, pos := "law.go:104", after := #[{ on := 19, ground := Ground.guard }], guard := some (19, false) }) (v := ?_) rfl (by kernel_rfl) (by kernel_rfl) (by kernel_rfl) (fun _ _ _ h => h) (Or.inl ⟨by rfl, ?_⟩) (by assumption) ?_
          rotate_left
          · intro w hSw
            go_simp
            try with_reducible rfl
          try simp only [Act.put, List.setIfInBounds_toArray, List.set_cons_zero, List.set_cons_succ]
          refine wpAnyH_ready (rs := [21]) (by kernel_rfl) (by simp) ?_
          refine AllReadyH.cons (o := { dst := some 133, op := Op.call { callee := Callee.value (Operand.func 27), args := #[Operand.tmp 132], argTypes := #[47] }, type := 51, pos := "law.go:104", after := #[{ on := 20, ground := Ground.data }, { on := 19, ground := Ground.chain }, { on := 19, ground := Ground.guard }], guard := some (19, false) }) rfl (fun K hK => ?_) AllReadyH.nil
          go_simp
          go_at_call 27
          refine (wrEnd_any ((unhide HR9).keeps (tl_k hHeld)) (unhide HX) (by omega) hat7).mono ?_
          rintro e wn ⟨rfl, hke⟩
          go_wp2_with fail
          refine hK.out _ _ ?_ (fun hHeld => ?_)
          · exact tl_step (by assumption) hke
          clear hK K
          try simp only [Act.put, List.setIfInBounds_toArray, List.set_cons_zero, List.set_cons_succ]
          refine wpAnyH_ready (rs := [23]) (by kernel_rfl) (by simp) ?_
          refine AllReadyH.cons (o := { dst := some 135, op := Op.call { callee := Callee.value (Operand.func 28), args := #[Operand.tmp 134], argTypes := #[49] }, type := 51, pos := "law.go:104", after := #[{ on := 22, ground := Ground.data }, { on := 21, ground := Ground.chain }, { on := 19, ground := Ground.guard }], guard := some (19, false) }) rfl (fun K hK => ?_) AllReadyH.nil
          go_simp
          go_at_call 28
          refine (xEnd_any ((unhide HQ9).keeps (tl_k hHeld)) (unhide HX) (by omega) hat7).mono ?_
          rintro e wn ⟨rfl, hkf⟩
          go_wp2_with fail
          refine hK.out _ _ ?_ (fun hHeld => ?_)
          · exact tl_step (by assumption) hkf
          clear hK K
          try simp only [Act.put, List.setIfInBounds_toArray, List.set_cons_zero, List.set_cons_succ]
          refine wpAnyH_take (i := 24) (oi := { dst := some 136, op := Op.binOp BinOp.neq 51 (Operand.tmp 133) (Operand.tmp 135) 51, type := 4, pos := "law.go:104", after := #[{ on := 21, ground := Ground.data }, { on := 23, ground := Ground.data }, { on := 19, ground := Ground.guard }], guard := some (19, false) }) (v := ?_) rfl (by kernel_rfl) (by kernel_rfl) (by kernel_rfl) (fun _ _ _ h => h) (Or.inl ⟨by rfl, ?_⟩) (by assumption) ?_
          rotate_left
          · intro w hSw
            go_simp
            try with_reducible rfl
          try simp only [Act.put, List.setIfInBounds_toArray, List.set_cons_zero, List.set_cons_succ]
          refine wpAnyH_take (i := 25) (oi := { dst := some 137, op := Op.pick (Operand.tmp 131) (Operand.const (Value.bool true)) (Operand.tmp 136), type := 4, pos := "law.go:104", after := #[{ on := 19, ground := Ground.data }, { on := 24, ground := Ground.data }], guard := none }) (v := ?_) rfl (by kernel_rfl) (by kernel_rfl) (by kernel_rfl) (fun _ _ _ h => h) (Or.inl ⟨by rfl, ?_⟩) (by assumption) ?_
          rotate_left
          · intro w hSw
            go_simp
            try with_reducible rfl
          try simp only [Act.put, List.setIfInBounds_toArray, List.set_cons_zero, List.set_cons_succ]
          refine wpAnyH_done (by kernel_rfl) ?_ _
          have HKF := hide ((unhide HKB).trans (tl_k hHeld))
          have HRF := hide ((unhide HR9).keeps (tl_k hHeld))
          have HQF := hide ((unhide HQ9).keeps (tl_k hHeld))
          have hszf := Nat.lt_of_lt_of_le hsz (tl_size hHeld)
          clear hHeld
          go_wp2
          exact ⟨⟨k + 1, by omega, by omega, by go_num, ⟨unhide HKF, at1, f1, hat7, unhide HRF, unhide HQF⟩, hszf⟩, by simp [intOf]; omega⟩
        · have e2 : (kind == 2) = false := beq_eq_false_iff_ne.2 h2
          by_cases h1 : kind = 1
          · subst h1
            clear h2 e2
            obtain ⟨at1, f1, ys, hat7, hy8, hyl, hcr, hcq⟩ := octBoth xs at0 f x (unhide HX) (by omega) hat hx0 hx1
            have HCR := hide (hcr _ gr A c (unhide HRO) hcl)
            have HCQ := hide hcq
            have HY8 := hide hy8
            obtain ⟨hoc, hof, hol⟩ := (unhide HOB).facts
            clear hcr hcq hy8
            go_wp2_with fail
            with_reducible refine (unhide HCR).mono ?_
            rintro e w6 ⟨B, d, rfl, hd, hhB, hwB, hR6, hf6⟩
            rw [World.size_alloc] at hwB
            have hsz6 := hf6.2.2.2.1
            rw [World.size_alloc] at hsz6
            have hQ6 := q_stays (unhide HLAY) (unhide HQO) hf6
            have hob6 := fr_blk hf6 (unhide HOB) (by have := (unhide HLAY).2.1; omega) (fun e => by cases e)
            obtain ⟨hoc6, hof6, hol6⟩ := hob6.facts
            have HC2 := hide (unhide HCQ _ gq Aq cq hQ6)
            have HHB := hide hhB
            have HWB := hide hwB
            have HR6 := hide hR6
            have HF6 := hide hf6
            clear hhB hwB hR6 hf6 hQ6 hob6 hoc hof hol hd
            go_wp2_with fail
            with_reducible refine (unhide HC2).mono ?_
            rintro e w7 ⟨B2, d2, rfl, hhB2, hQ7, hf7⟩
            have hBrow : ∀ b, rowOf B = some b → 0 < ys.length → wr.heap.size + 1 ≤ b := fun b e h0 => by
              obtain ⟨g9, e9, h9, _⟩ := unhide HWB h0
              rw [e9] at e
              injection e with e
              change g9 = b at e
              omega
            have hhB7 : Holds w7 B ys := by
              rcases Nat.eq_zero_or_pos ys.length with h0 | h0
              · have : ys = [] := List.eq_nil_of_length_eq_zero h0
                subst this
                exact ⟨by simp, fun h => absurd h (by simp)⟩
              · exact (unhide HHB).fr hf7 (fun b e => ⟨by have := hBrow b e h0; omega, fun e => by cases e⟩)
            have HSB := hide (sameBytes_any B B2 ys ys d d2 w7 hhB7 hhB2 (unhide HY8) (unhide HY8))
            rw [decide_eq_true rfl] at HSB
            have HHB7 := hide hhB7
            have HF7 := hide hf7
            have HQ7a := hide hQ7
            clear hhB2 hQ7 hf7 hhB7 hBrow hoc6 hof6 hol6
            go_wp2_with fail
            with_reducible refine (unhide HSB).mono ?_
            rintro e wn ⟨rfl, hwn⟩
            rw [← hwn]
            clear hwn
            obtain ⟨gx, hgx0, hgx1, hgx2⟩ : ∃ gx : Nat, (0 < ys.length → B = some ⟨gx, 0, none⟩) ∧ wr.heap.size + 1 ≤ gx ∧ ∀ i, i < ys.length → w7.frozen? ⟨gx, i, none⟩ = false := by
              rcases Nat.eq_zero_or_pos ys.length with h0 | h0
              · exact ⟨wr.heap.size + 1, fun h => by omega, Nat.le_refl _, fun i hi => by omega⟩
              · obtain ⟨g9, e9, h9, h10⟩ := unhide HWB h0
                refine ⟨g9, fun _ => e9, h9, fun i hi => ?_⟩
                have hbl : g9 < w6.heap.size := by
                  obtain ⟨ad, ea, hb, _⟩ := (unhide HHB).2 h0
                  rw [e9] at ea
                  injection ea with ea
                  subst ea
                  exact hb
                exact (World.frozen?_of_block (a := ⟨g9, i, none⟩) ((unhide HF7).2.2.2.2 g9 hbl (by omega) (fun e => by cases e))).trans (h10 i hi)
            have HCS2 := hide (spoilF_any B gx ys ys.length d w7 rfl hgx0 (unhide HHB7) (unhide HY8) hgx2 (by omega))
            clear hgx0 hgx2
            go_wp2_with fail
            with_reducible refine (unhide HCS2).mono ?_
            rintro e w8 ⟨rfl, hf8⟩
            have HKB := hide (fr_keeps (k_q (unhide HLAY) (k_r (unhide HLAY) (unhide HKP) (unhide HF6)) (unhide HF7)) hf8 (by omega) (fun b e => by cases e))
            have hsz : gq < w8.heap.size := by have := (unhide HF7).2.2.2.1; have := hf8.2.2.2.1; omega
            obtain ⟨hR7, hQ7⟩ := both_new (unhide HLAY) (r_stays (unhide HLAY) (unhide HR6) (unhide HF7)) (unhide HQ7a) (gx := gx) (by omega) hf8
            clear hf8
            have hg9 : w8.cell? ⟨gq, 2, none⟩ = some (.int .i64 f1) := hQ7.1.cell 2
            have HR9 := hide hR7
            have HQ9 := hide hQ7
            clear hR7 hQ7
            go_wp2
            refine wp_region_held_drew (S := fun w' => w'.cell? ⟨gq, 2, none⟩ = some (.int .i64 f1) ∧ TlS gq w8 w') (by kernel_rfl) ?_ (fun hHeld => ?_)
            · exact ⟨hg9, hsz, (Keeps.refl w8).drew⟩
            refine wpAnyH_take (i := 0) (oi := { dst := some 112, op := Op.move (Operand.tmp 10), type := 4, pos := "law.go:104", after := #[], guard := none }) (v := ?_) rfl (by kernel_rfl) (by kernel_rfl) (by kernel_rfl) (fun _ _ _ h => h) (Or.inl ⟨by rfl, ?_⟩) (by assumption) ?_
            rotate_left
            · intro w hSw
              go_simp
              try with_reducible rfl
            try simp only [Act.put, List.setIfInBounds_toArray, List.set_cons_zero, List.set_cons_succ]
            refine wpAnyH_take (i := 1) (oi := { dst := some 113, op := Op.unOp UnOp.not 4 (Operand.tmp 112), type := 4, pos := "law.go:104", after := #[{ on := 0, ground := Ground.data }], guard := none }) (v := ?_) rfl (by kernel_rfl) (by kernel_rfl) (by kernel_rfl) (fun _ _ _ h => h) (Or.inl ⟨by rfl, ?_⟩) (by assumption) ?_
            rotate_left
            · intro w hSw
              go_simp
              try with_reducible rfl
            try simp only [Act.put, List.setIfInBounds_toArray, List.set_cons_zero, List.set_cons_succ]
            refine wpAnyH_take (i := 2) (oi := { dst := some 114, op := Op.move (Operand.tmp 113), type := 4, pos := "law.go:104", after := #[{ on := 1, ground := Ground.data }], guard := none }) (v := ?_) rfl (by kernel_rfl) (by kernel_rfl) (by kernel_rfl) (fun _ _ _ h => h) (Or.inl ⟨by rfl, ?_⟩) (by assumption) ?_
            rotate_left
            · intro w hSw
              go_simp
              try with_reducible rfl
            try simp only [Act.put, List.setIfInBounds_toArray, List.set_cons_zero, List.set_cons_succ]
            refine wpAnyH_take (i := 3) (oi := { dst := some 115, op := Op.move (Operand.tmp 6), type := 47, pos := "law.go:104", after := #[{ on := 2, ground := Ground.guard }], guard := some (2, false) }) (v := ?_) rfl (by kernel_rfl) (by kernel_rfl) (by kernel_rfl) (fun _ _ _ h => h) (Or.inl ⟨by rfl, ?_⟩) (by assumption) ?_
            rotate_left
            · intro w hSw
              go_simp
              try with_reducible rfl
            try simp only [Act.put, List.setIfInBounds_toArray, List.set_cons_zero, List.set_cons_succ]
            refine wpAnyH_take (i := 5) (oi := { dst := some 117, op := Op.move (Operand.tmp 7), type := 49, pos := "law.go:104", after := #[{ on := 2, ground := Ground.guard }], guard := some (2, false) }) (v := ?_) rfl (by kernel_rfl) (by kernel_rfl) (by kernel_rfl) (fun _ _ _ h => h) (Or.inl ⟨by rfl, ?_⟩) (by assumption) ?_
            rotate_left
            · intro w hSw
              go_simp
              try with_reducible rfl
            try simp only [Act.put, List.setIfInBounds_toArray, List.set_cons_zero, List.set_cons_succ]
            refine wpAnyH_ready (rs := [4]) (by kernel_rfl) (by simp) ?_
            refine AllReadyH.cons (o := { dst := some 116, op := Op.call { callee := Callee.value (Operand.func 39), args := #[Operand.tmp 115], argTypes := #[47] }, type := 3, pos := "law.go:104", after := #[{ on := 3, ground := Ground.data }, { on := 2, ground := Ground.chain }, { on := 2, ground := Ground.guard }], guard := some (2, false) }) rfl (fun K hK => ?_) AllReadyH.nil
            go_simp
            go_at_call 39
            refine (wrLeft_any ((unhide HR9).keeps (tl_k hHeld)) (by omega) hat7).mono ?_
            rintro e wn ⟨rfl, rfl⟩
            go_wp2_with fail
            refine hK.out _ _ ?_ (fun hHeld => ?_)
            · exact tl_step (by assumption) (Keeps.refl _).drew
            clear hK K
            try simp only [Act.put, List.setIfInBounds_toArray, List.set_cons_zero, List.set_cons_succ]
            refine wpAnyH_ready (rs := [6]) (by kernel_rfl) (by simp) ?_
            refine AllReadyH.cons (o := { dst := some 118, op := Op.call { callee := Callee.value (Operand.func 40), args := #[Operand.tmp 117], argTypes := #[49] }, type := 3, pos := "law.go:104", after := #[{ on := 5, ground := Ground.data }, { on := 4, ground := Ground.chain }, { on := 2, ground := Ground.guard }], guard := some (2, false) }) rfl (fun K hK => ?_) AllReadyH.nil
            go_simp
            go_at_call 40
            refine (xLeft_any ((unhide HQ9).keeps (tl_k hHeld)) (by omega) hat7).mono ?_
            rintro e wn ⟨rfl, rfl⟩
            go_wp2_with fail
            refine hK.out _ _ ?_ (fun hHeld => ?_)
            · exact tl_step (by assumption) (Keeps.refl _).drew
            clear hK K
            try simp only [Act.put, List.setIfInBounds_toArray, List.set_cons_zero, List.set_cons_succ]
            refine wpAnyH_take (i := 7) (oi := { dst := some 119, op := Op.binOp BinOp.neq 3 (Operand.tmp 116) (Operand.tmp 118) 3, type := 4, pos := "law.go:104", after := #[{ on := 4, ground := Ground.data }, { on := 6, ground := Ground.data }, { on := 2, ground := Ground.guard }], guard := some (2, false) }) (v := ?_) rfl (by kernel_rfl) (by kernel_rfl) (by kernel_rfl) (fun _ _ _ h => h) (Or.inl ⟨by rfl, ?_⟩) (by assumption) ?_
            rotate_left
            · intro w hSw
              go_simp
              try with_reducible rfl
            try simp only [Act.put, List.setIfInBounds_toArray, List.set_cons_zero, List.set_cons_succ]
            refine wpAnyH_take (i := 8) (oi := { dst := some 120, op := Op.pick (Operand.tmp 114) (Operand.const (Value.bool true)) (Operand.tmp 119), type := 4, pos := "law.go:104", after := #[{ on := 2, ground := Ground.data }, { on := 7, ground := Ground.data }], guard := none }) (v := ?_) rfl (by kernel_rfl) (by kernel_rfl) (by kernel_rfl) (fun _ _ _ h => h) (Or.inl ⟨by rfl, ?_⟩) (by assumption) ?_
            rotate_left
            · intro w hSw
              go_simp
              try with_reducible rfl
            try simp only [Act.put, List.setIfInBounds_toArray, List.set_cons_zero, List.set_cons_succ]
            refine wpAnyH_take (i := 9) (oi := { dst := some 121, op := Op.move (Operand.tmp 120), type := 4, pos := "law.go:104", after := #[{ on := 8, ground := Ground.data }, { on := 6, ground := Ground.chain }], guard := none }) (v := ?_) rfl (by kernel_rfl) (by kernel_rfl) (by kernel_rfl) (fun _ _ _ h => h) (Or.inl ⟨by rfl, ?_⟩) (by assumption) ?_
            rotate_left
            · intro w hSw
              go_simp
              try with_reducible rfl
            try simp only [Act.put, List.setIfInBounds_toArray, List.set_cons_zero, List.set_cons_succ]
            refine wpAnyH_take (i := 10) (oi := { dst := some 122, op := Op.move (Operand.tmp 6), type := 47, pos := "law.go:104", after := #[{ on := 9, ground := Ground.guard }], guard := some (9, false) }) (v := ?_) rfl (by kernel_rfl) (by kernel_rfl) (by kernel_rfl) (fun _ _ _ h => h) (Or.inl ⟨by rfl, ?_⟩) (by assumption) ?_
            rotate_left
            · intro w hSw
              go_simp
              try with_reducible rfl
            try simp only [Act.put, List.setIfInBounds_toArray, List.set_cons_zero, List.set_cons_succ]
            refine wpAnyH_take (i := 12) (oi := { dst := some 124, op := Op.move (Operand.tmp 7), type := 49, pos := "law.go:104", after := #[{ on := 9, ground := Ground.guard }], guard := some (9, false) }) (v := ?_) rfl (by kernel_rfl) (by kernel_rfl) (by kernel_rfl) (fun _ _ _ h => h) (Or.inl ⟨by rfl, ?_⟩) (by assumption) ?_
            rotate_left
            · intro w hSw
              go_simp
              try with_reducible rfl
            try simp only [Act.put, List.setIfInBounds_toArray, List.set_cons_zero, List.set_cons_succ]
            refine wpAnyH_take (i := 13) (oi := { dst := some 125, op := Op.nilCheck (Operand.tmp 124), type := 0, pos := "law.go:104", after := #[{ on := 12, ground := Ground.data }, { on := 9, ground := Ground.guard }], guard := some (9, false) }) (v := ?_) rfl (by kernel_rfl) (by kernel_rfl) (by kernel_rfl) (fun _ _ _ h => h) (Or.inl ⟨by rfl, ?_⟩) (by assumption) ?_
            rotate_left
            · intro w hSw
              go_simp
              try with_reducible rfl
            try simp only [Act.put, List.setIfInBounds_toArray, List.set_cons_zero, List.set_cons_succ]
            refine wpAnyH_take (i := 14) (oi := { dst := some 126, op := Op.fieldAddr 60 (Operand.tmp 125) 0, type := 0, pos := "law.go:104", after := #[{ on := 13, ground := Ground.data }, { on := 9, ground := Ground.guard }], guard := some (9, false) }) (v := ?_) rfl (by kernel_rfl) (by kernel_rfl) (by kernel_rfl) (fun _ _ _ h => h) (Or.inl ⟨by rfl, ?_⟩) (by assumption) ?_
            rotate_left
            · intro w hSw
              go_simp
              try with_reducible rfl
            try simp only [Act.put, List.setIfInBounds_toArray, List.set_cons_zero, List.set_cons_succ]
            refine wpAnyH_take (i := 15) (oi := { dst := some 127, op := Op.fieldAddr 58 (Operand.tmp 126) 2, type := 0, pos := "law.go:104", after := #[{ on := 14, ground := Ground.data }, { on := 9, ground := Ground.guard }], guard := some (9, false) }) (v := ?_) rfl (by kernel_rfl) (by kernel_rfl) (by kernel_rfl) (fun _ _ _ h => h) (Or.inl ⟨by rfl, ?_⟩) (by assumption) ?_
            rotate_left
            · intro w hSw
              go_simp
              try with_reducible rfl
            try simp only [Act.put, List.setIfInBounds_toArray, List.set_cons_zero, List.set_cons_succ]
            refine wpAnyH_take (i := 16) (oi := { dst := some 128, op := Op.load 51 (Operand.tmp 127), type := 51, pos := "law.go:104", after := #[{ on := 15, ground := Ground.data }, { on := 9, ground := Ground.guard }], guard := some (9, false) }) (v := ?_) rfl (by kernel_rfl) (by kernel_rfl) (by kernel_rfl) (fun _ _ _ h => h) (Or.inl ⟨by rfl, ?_⟩) (by assumption) ?_
            rotate_left
            · intro w hSw
              go_simp
              try with_reducible rfl
            try simp only [Act.put, List.setIfInBounds_toArray, List.set_cons_zero, List.set_cons_succ]
            refine wpAnyH_ready (rs := [11]) (by kernel_rfl) (by simp) ?_
            refine AllReadyH.cons (o := { dst := some 123, op := Op.call { callee := Callee.value (Operand.func 41), args := #[Operand.tmp 122], argTypes := #[47] }, type := 51, pos := "law.go:104", after := #[{ on := 10, ground := Ground.data }, { on := 9, ground := Ground.chain }, { on := 9, ground := Ground.guard }], guard := some (9, false) }) rfl (fun K hK => ?_) AllReadyH.nil
            go_simp
            go_at_call 41
            refine (wrErr_any ((unhide HR9).keeps (tl_k hHeld))).mono ?_
            rintro e wn ⟨rfl, hwn⟩
            rw [hwn]
            clear hwn
            go_wp2_with fail
            refine hK.out _ _ ?_ (fun hHeld => ?_)
            · assumption
            clear hK K
            try simp only [Act.put, List.setIfInBounds_toArray, List.set_cons_zero, List.set_cons_succ]
            refine wpAnyH_take (i := 17) (oi := { dst := some 129, op := Op.binOp BinOp.neq 51 (Operand.tmp 123) (Operand.tmp 128) 51, type := 4, pos := "law.go:104", after := #[{ on := 11, ground := Ground.data }, { on := 16, ground := Ground.data }, { on := 9, ground := Ground.guard }], guard := some (9, false) }) (v := ?_) rfl (by kernel_rfl) (by kernel_rfl) (by kernel_rfl) (fun _ _ _ h => h) (Or.inl ⟨by rfl, ?_⟩) (by assumption) ?_
            rotate_left
            · intro w hSw
              go_simp
              try with_reducible rfl
            try simp only [Act.put, List.setIfInBounds_toArray, List.set_cons_zero, List.set_cons_succ]
            refine wpAnyH_take (i := 18) (oi := { dst := some 130, op := Op.pick (Operand.tmp 121) (Operand.const (Value.bool true)) (Operand.tmp 129), type := 4, pos := "law.go:104", after := #[{ on := 9, ground := Ground.data }, { on := 17, ground := Ground.data }], guard := none }) (v := ?_) rfl (by kernel_rfl) (by kernel_rfl) (by kernel_rfl) (fun _ _ _ h => h) (Or.inl ⟨by rfl, ?_⟩) (by assumption) ?_
            rotate_left
            · intro w hSw
              go_simp
              try with_reducible rfl
            try simp only [Act.put, List.setIfInBounds_toArray, List.set_cons_zero, List.set_cons_succ]
            refine wpAnyH_take (i := 19) (oi := { dst := some 131, op := Op.move (Operand.tmp 130), type := 4, pos := "law.go:104", after := #[{ on := 18, ground := Ground.data }, { on := 11, ground := Ground.chain }], guard := none }) (v := ?_) rfl (by kernel_rfl) (by kernel_rfl) (by kernel_rfl) (fun _ _ _ h => h) (Or.inl ⟨by rfl, ?_⟩) (by assumption) ?_
            rotate_left
            · intro w hSw
              go_simp
              try with_reducible rfl
            try simp only [Act.put, List.setIfInBounds_toArray, List.set_cons_zero, List.set_cons_succ]
            refine wpAnyH_take (i := 20) (oi := { dst := some 132, op := Op.move (Operand.tmp 6), type := 47, pos := "law.go:104", after := #[{ on := 19, ground := Ground.guard }], guard := some (19, false) }) (v := ?_) rfl (by kernel_rfl) (by kernel_rfl) (by kernel_rfl) (fun _ _ _ h => h) (Or.inl ⟨by rfl, ?_⟩) (by assumption) ?_
            rotate_left
            · intro w hSw
              go_simp
              try with_reducible rfl
            try simp only [Act.put, List.setIfInBounds_toArray, List.set_cons_zero, List.set_cons_succ]
            refine wpAnyH_take (i := 22) (oi := { dst := some 134, op := Op.move (Operand.tmp 7), type := 49, pos := "law.go:104", after := #[{ on := 19, ground := Ground.guard }], guard := some (19, false) }) (v := ?_) rfl (by kernel_rfl) (by kernel_rfl) (by kernel_rfl) (fun _ _ _ h => h) (Or.inl ⟨by rfl, ?_⟩) (by assumption) ?_
            rotate_left
            · intro w hSw
              go_simp
              try with_reducible rfl
            try simp only [Act.put, List.setIfInBounds_toArray, List.set_cons_zero, List.set_cons_succ]
            refine wpAnyH_ready (rs := [21]) (by kernel_rfl) (by simp) ?_
            refine AllReadyH.cons (o := { dst := some 133, op := Op.call { callee := Callee.value (Operand.func 27), args := #[Operand.tmp 132], argTypes := #[47] }, type := 51, pos := "law.go:104", after := #[{ on := 20, ground := Ground.data }, { on := 19, ground := Ground.chain }, { on := 19, ground := Ground.guard }], guard := some (19, false) }) rfl (fun K hK => ?_) AllReadyH.nil
            go_simp
            go_at_call 27
            refine (wrEnd_any ((unhide HR9).keeps (tl_k hHeld)) (unhide HX) (by omega) hat7).mono ?_
            rintro e wn ⟨rfl, hke⟩
            go_wp2_with fail
            refine hK.out _ _ ?_ (fun hHeld => ?_)
            · exact tl_step (by assumption) hke
            clear hK K
            try simp only [Act.put, List.setIfInBounds_toArray, List.set_cons_zero, List.set_cons_succ]
            refine wpAnyH_ready (rs := [23]) (by kernel_rfl) (by simp) ?_
            refine AllReadyH.cons (o := { dst := some 135, op := Op.call { callee := Callee.value (Operand.func 28), args := #[Operand.tmp 134], argTypes := #[49] }, type := 51, pos := "law.go:104", after := #[{ on := 22, ground := Ground.data }, { on := 21, ground := Ground.chain }, { on := 19, ground := Ground.guard }], guard := some (19, false) }) rfl (fun K hK => ?_) AllReadyH.nil
            go_simp
            go_at_call 28
            refine (xEnd_any ((unhide HQ9).keeps (tl_k hHeld)) (unhide HX) (by omega) hat7).mono ?_
            rintro e wn ⟨rfl, hkf⟩
            go_wp2_with fail
            refine hK.out _ _ ?_ (fun hHeld => ?_)
            · exact tl_step (by assumption) hkf
            clear hK K
            try simp only [Act.put, List.setIfInBounds_toArray, List.set_cons_zero, List.set_cons_succ]
            refine wpAnyH_take (i := 24) (oi := { dst := some 136, op := Op.binOp BinOp.neq 51 (Operand.tmp 133) (Operand.tmp 135) 51, type := 4, pos := "law.go:104", after := #[{ on := 21, ground := Ground.data }, { on := 23, ground := Ground.data }, { on := 19, ground := Ground.guard }], guard := some (19, false) }) (v := ?_) rfl (by kernel_rfl) (by kernel_rfl) (by kernel_rfl) (fun _ _ _ h => h) (Or.inl ⟨by rfl, ?_⟩) (by assumption) ?_
            rotate_left
            · intro w hSw
              go_simp
              try with_reducible rfl
            try simp only [Act.put, List.setIfInBounds_toArray, List.set_cons_zero, List.set_cons_succ]
            refine wpAnyH_take (i := 25) (oi := { dst := some 137, op := Op.pick (Operand.tmp 131) (Operand.const (Value.bool true)) (Operand.tmp 136), type := 4, pos := "law.go:104", after := #[{ on := 19, ground := Ground.data }, { on := 24, ground := Ground.data }], guard := none }) (v := ?_) rfl (by kernel_rfl) (by kernel_rfl) (by kernel_rfl) (fun _ _ _ h => h) (Or.inl ⟨by rfl, ?_⟩) (by assumption) ?_
            rotate_left
            · intro w hSw
              go_simp
              try with_reducible rfl
            try simp only [Act.put, List.setIfInBounds_toArray, List.set_cons_zero, List.set_cons_succ]
            refine wpAnyH_done (by kernel_rfl) ?_ _
            have HKF := hide ((unhide HKB).trans (tl_k hHeld))
            have HRF := hide ((unhide HR9).keeps (tl_k hHeld))
            have HQF := hide ((unhide HQ9).keeps (tl_k hHeld))
            have hszf := Nat.lt_of_lt_of_le hsz (tl_size hHeld)
            clear hHeld
            go_wp2
            exact ⟨⟨k + 1, by omega, by omega, by go_num, ⟨unhide HKF, at1, f1, hat7, unhide HRF, unhide HQF⟩, hszf⟩, by simp [intOf]; omega⟩
          · have e1 : (kind == 1) = false := beq_eq_false_iff_ne.2 h1
            by_cases h3 : kind = 3
            · subst h3
              clear h1 h2 e1 e2
              obtain ⟨hoc, hof, hol⟩ := (unhide HOB).facts
              have HC1 := hide (wrSmall_any (unhide HRO) (unhide HX) (by omega) hcl hat)
              have HC2F := hide fun (wx : World) (h : QV wx gq Aq cq xs at0 f) => xSmall_any h (unhide HX) (by omega) hat
              have HAT2 := hide (sl_le (f := f) hat)
              go_wp2_with fail
              with_reducible refine (unhide HC1).mono ?_
              rintro e w6 ⟨rfl, hR6, hf6⟩
              have hQ6 := q_stays (unhide HLAY) (unhide HQO) hf6
              have HC2 := hide (unhide HC2F _ hQ6)
              have HR6 := hide hR6
              have HF6 := hide hf6
              have hsz6 := hf6.2.2.2.1
              rw [World.size_alloc] at hsz6
              clear hR6 hf6 hQ6 hoc hof hol
              generalize slV xs at0 f = rv at *
              go_wp2_with fail
              with_reducible refine (unhide HC2).mono ?_
              rintro e w7 ⟨rfl, hQ7, hf7⟩
              have HKB := hide (k_q (unhide HLAY) (k_r (unhide HLAY) (unhide HKP) (unhide HF6)) hf7)
              have hsz : gq < w7.heap.size := by have := hf7.2.2.2.1; omega
              have hR7 := r_stays (unhide HLAY) (unhide HR6) hf7
              have hat7 := unhide HAT2
              clear hf7
              generalize slA xs at0 f = at1 at *
              generalize slF xs at0 f = f1 at *
              have hg9 : w7.cell? ⟨gq, 2, none⟩ = some (.int .i64 f1) := hQ7.1.cell 2
              have HR9 := hide hR7
              have HQ9 := hide hQ7
              clear hR7 hQ7
              go_wp2
              refine wp_region_held_drew (S := fun w' => w'.cell? ⟨gq, 2, none⟩ = some (.int .i64 f1) ∧ TlS gq w7 w') (by kernel_rfl) ?_ (fun hHeld => ?_)
              · exact ⟨hg9, hsz, (Keeps.refl w7).drew⟩
              refine wpAnyH_take (i := 0) (oi := { dst := some 112, op := Op.move (Operand.tmp 10), type := 4, pos := "law.go:104", after := #[], guard := none }) (v := ?_) rfl (by kernel_rfl) (by kernel_rfl) (by kernel_rfl) (fun _ _ _ h => h) (Or.inl ⟨by rfl, ?_⟩) (by assumption) ?_
              rotate_left
              · intro w hSw
                go_simp
                try with_reducible rfl
              try simp only [Act.put, List.setIfInBounds_toArray, List.set_cons_zero, List.set_cons_succ]
              refine wpAnyH_take (i := 1) (oi := { dst := some 113, op := Op.unOp UnOp.not 4 (Operand.tmp 112), type := 4, pos := "law.go:104", after := #[{ on := 0, ground := Ground.data }], guard := none }) (v := ?_) rfl (by kernel_rfl) (by kernel_rfl) (by kernel_rfl) (fun _ _ _ h => h) (Or.inl ⟨by rfl, ?_⟩) (by assumption) ?_
              rotate_left
              · intro w hSw
                go_simp
                try with_reducible rfl
              try simp only [Act.put, List.setIfInBounds_toArray, List.set_cons_zero, List.set_cons_succ]
              refine wpAnyH_take (i := 2) (oi := { dst := some 114, op := Op.move (Operand.tmp 113), type := 4, pos := "law.go:104", after := #[{ on := 1, ground := Ground.data }], guard := none }) (v := ?_) rfl (by kernel_rfl) (by kernel_rfl) (by kernel_rfl) (fun _ _ _ h => h) (Or.inl ⟨by rfl, ?_⟩) (by assumption) ?_
              rotate_left
              · intro w hSw
                go_simp
                try with_reducible rfl
              try simp only [Act.put, List.setIfInBounds_toArray, List.set_cons_zero, List.set_cons_succ]
              refine wpAnyH_take (i := 3) (oi := { dst := some 115, op := Op.move (Operand.tmp 6), type := 47, pos := "law.go:104", after := #[{ on := 2, ground := Ground.guard }], guard := some (2, false) }) (v := ?_) rfl (by kernel_rfl) (by kernel_rfl) (by kernel_rfl) (fun _ _ _ h => h) (Or.inl ⟨by rfl, ?_⟩) (by assumption) ?_
              rotate_left
              · intro w hSw
                go_simp
                try with_reducible rfl
              try simp only [Act.put, List.setIfInBounds_toArray, List.set_cons_zero, List.set_cons_succ]
              refine wpAnyH_take (i := 5) (oi := { dst := some 117, op := Op.move (Operand.tmp 7), type := 49, pos := "law.go:104", after := #[{ on := 2, ground := Ground.guard }], guard := some (2, false) }) (v := ?_) rfl (by kernel_rfl) (by kernel_rfl) (by kernel_rfl) (fun _ _ _ h => h) (Or.inl ⟨by rfl, ?_⟩) (by assumption) ?_
              rotate_left
              · intro w hSw
                go_simp
                try with_reducible rfl
              try simp only [Act.put, List.setIfInBounds_toArray, List.set_cons_zero, List.set_cons_succ]
              refine wpAnyH_ready (rs := [4]) (by kernel_rfl) (by simp) ?_
              refine AllReadyH.cons (o := { dst := some 116, op := Op.call { callee := Callee.value (Operand.func 39), args := #[Operand.tmp 115], argTypes := #[47] }, type := 3, pos := "law.go:104", after := #[{ on := 3, ground := Ground.data }, { on := 2, ground := Ground.chain }, { on := 2, ground := Ground.guard }], guard := some (2, false) }) rfl (fun K hK => ?_) AllReadyH.nil
              go_simp
              go_at_call 39
              refine (wrLeft_any ((unhide HR9).keeps (tl_k hHeld)) (by omega) hat7).mono ?_
              rintro e wn ⟨rfl, rfl⟩
              go_wp2_with fail
              refine hK.out _ _ ?_ (fun hHeld => ?_)
              · exact tl_step (by assumption) (Keeps.refl _).drew
              clear hK K
              try simp only [Act.put, List.setIfInBounds_toArray, List.set_cons_zero, List.set_cons_succ]
              refine wpAnyH_ready (rs := [6]) (by kernel_rfl) (by simp) ?_
              refine AllReadyH.cons (o := { dst := some 118, op := Op.call { callee := Callee.value (Operand.func 40), args := #[Operand.tmp 117], argTypes := #[49] }, type := 3, pos := "law.go:104", after := #[{ on := 5, ground := Ground.data }, { on := 4, ground := Ground.chain }, { on := 2, ground := Ground.guard }], guard := some (2, false) }) rfl (fun K hK => ?_) AllReadyH.nil
              go_simp
              go_at_call 40
              refine (xLeft_any ((unhide HQ9).keeps (tl_k hHeld)) (by omega) hat7).mono ?_
              rintro e wn ⟨rfl, rfl⟩
              go_wp2_with fail
              refine hK.out _ _ ?_ (fun hHeld => ?_)
              · exact tl_step (by assumption) (Keeps.refl _).drew
              clear hK K
              try simp only [Act.put, List.setIfInBounds_toArray, List.set_cons_zero, List.set_cons_succ]
              refine wpAnyH_take (i := 7) (oi := { dst := some 119, op := Op.binOp BinOp.neq 3 (Operand.tmp 116) (Operand.tmp 118) 3, type := 4, pos := "law.go:104", after := #[{ on := 4, ground := Ground.data }, { on := 6, ground := Ground.data }, { on := 2, ground := Ground.guard }], guard := some (2, false) }) (v := ?_) rfl (by kernel_rfl) (by kernel_rfl) (by kernel_rfl) (fun _ _ _ h => h) (Or.inl ⟨by rfl, ?_⟩) (by assumption) ?_
              rotate_left
              · intro w hSw
                go_simp
                try with_reducible rfl
              try simp only [Act.put, List.setIfInBounds_toArray, List.set_cons_zero, List.set_cons_succ]
              refine wpAnyH_take (i := 8) (oi := { dst := some 120, op := Op.pick (Operand.tmp 114) (Operand.const (Value.bool true)) (Operand.tmp 119), type := 4, pos := "law.go:104", after := #[{ on := 2, ground := Ground.data }, { on := 7, ground := Ground.data }], guard := none }) (v := ?_) rfl (by kernel_rfl) (by kernel_rfl) (by kernel_rfl) (fun _ _ _ h => h) (Or.inl ⟨by rfl, ?_⟩) (by assumption) ?_
              rotate_left
              · intro w hSw
                go_simp
                try with_reducible rfl
              try simp only [Act.put, List.setIfInBounds_toArray, List.set_cons_zero, List.set_cons_succ]
              refine wpAnyH_take (i := 9) (oi := { dst := some 121, op := Op.move (Operand.tmp 120), type := 4, pos := "law.go:104", after := #[{ on := 8, ground := Ground.data }, { on := 6, ground := Ground.chain }], guard := none }) (v := ?_) rfl (by kernel_rfl) (by kernel_rfl) (by kernel_rfl) (fun _ _ _ h => h) (Or.inl ⟨by rfl, ?_⟩) (by assumption) ?_
              rotate_left
              · intro w hSw
                go_simp
                try with_reducible rfl
              try simp only [Act.put, List.setIfInBounds_toArray, List.set_cons_zero, List.set_cons_succ]
              refine wpAnyH_take (i := 10) (oi := { dst := some 122, op := Op.move (Operand.tmp 6), type := 47, pos := "law.go:104", after := #[{ on := 9, ground := Ground.guard }], guard := some (9, false) }) (v := ?_) rfl (by kernel_rfl) (by kernel_rfl) (by kernel_rfl) (fun _ _ _ h => h) (Or.inl ⟨by rfl, ?_⟩) (by assumption) ?_
              rotate_left
              · intro w hSw
                go_simp
                try with_reducible rfl
              try simp only [Act.put, List.setIfInBounds_toArray, List.set_cons_zero, List.set_cons_succ]
              refine wpAnyH_take (i := 12) (oi := { dst := some 124, op := Op.move (Operand.tmp 7), type := 49, pos := "law.go:104", after := #[{ on := 9, ground := Ground.guard }], guard := some (9, false) }) (v := ?_) rfl (by kernel_rfl) (by kernel_rfl) (by kernel_rfl) (fun _ _ _ h => h) (Or.inl ⟨by rfl, ?_⟩) (by assumption) ?_
              rotate_left
              · intro w hSw
                go_simp
                try with_reducible rfl
              try simp only [Act.put, List.setIfInBounds_toArray, List.set_cons_zero, List.set_cons_succ]
              refine wpAnyH_take (i := 13) (oi := { dst := some 125, op := Op.nilCheck (Operand.tmp 124), type := 0, pos := "law.go:104", after := #[{ on := 12, ground := Ground.data }, { on := 9, ground := Ground.guard }], guard := some (9, false) }) (v := ?_) rfl (by kernel_rfl) (by kernel_rfl) (by kernel_rfl) (fun _ _ _ h => h) (Or.inl ⟨by rfl, ?_⟩) (by assumption) ?_
              rotate_left
              · intro w hSw
                go_simp
                try with_reducible rfl
              try simp only [Act.put, List.setIfInBounds_toArray, List.set_cons_zero, List.set_cons_succ]
              refine wpAnyH_take (i := 14) (oi := { dst := some 126, op := Op.fieldAddr 60 (Operand.tmp 125) 0, type := 0, pos := "law.go:104", after := #[{ on := 13, ground := Ground.data }, { on := 9, ground := Ground.guard }], guard := some (9, false) }) (v := ?_) rfl (by kernel_rfl) (by kernel_rfl) (by kernel_rfl) (fun _ _ _ h => h) (Or.inl ⟨by rfl, ?_⟩) (by assumption) ?_
              rotate_left
              · intro w hSw
                go_simp
                try with_reducible rfl
              try simp only [Act.put, List.setIfInBounds_toArray, List.set_cons_zero, List.set_cons_succ]
              refine wpAnyH_take (i := 15) (oi := { dst := some 127, op := Op.fieldAddr 58 (Operand.tmp 126) 2, type := 0, pos := "law.go:104", after := #[{ on := 14, ground := Ground.data }, { on := 9, ground := Ground.guard }], guard := some (9, false) }) (v := ?_) rfl (by kernel_rfl) (by kernel_rfl) (by kernel_rfl) (fun _ _ _ h => h) (Or.inl ⟨by rfl, ?_⟩) (by assumption) ?_
              rotate_left
              · intro w hSw
                go_simp
                try with_reducible rfl
              try simp only [Act.put, List.setIfInBounds_toArray, List.set_cons_zero, List.set_cons_succ]
              refine wpAnyH_take (i := 16) (oi := { dst := some 128, op := Op.load 51 (Operand.tmp 127), type := 51, pos := "law.go:104", after := #[{ on := 15, ground := Ground.data }, { on := 9, ground := Ground.guard }], guard := some (9, false) }) (v := ?_) rfl (by kernel_rfl) (by kernel_rfl) (by kernel_rfl) (fun _ _ _ h => h) (Or.inl ⟨by rfl, ?_⟩) (by assumption) ?_
              rotate_left
              · intro w hSw
                go_simp
                try with_reducible rfl
              try simp only [Act.put, List.setIfInBounds_toArray, List.set_cons_zero, List.set_cons_succ]
              refine wpAnyH_ready (rs := [11]) (by kernel_rfl) (by simp) ?_
              refine AllReadyH.cons (o := { dst := some 123, op := Op.call { callee := Callee.value (Operand.func 41), args := #[Operand.tmp 122], argTypes := #[47] }, type := 51, pos := "law.go:104", after := #[{ on := 10, ground := Ground.data }, { on := 9, ground := Ground.chain }, { on := 9, ground := Ground.guard }], guard := some (9, false) }) rfl (fun K hK => ?_) AllReadyH.nil
              go_simp
              go_at_call 41
              refine (wrErr_any ((unhide HR9).keeps (tl_k hHeld))).mono ?_
              rintro e wn ⟨rfl, hwn⟩
              rw [hwn]
              clear hwn
              go_wp2_with fail
              refine hK.out _ _ ?_ (fun hHeld => ?_)
              · assumption
              clear hK K
              try simp only [Act.put, List.setIfInBounds_toArray, List.set_cons_zero, List.set_cons_succ]
              refine wpAnyH_take (i := 17) (oi := { dst := some 129, op := Op.binOp BinOp.neq 51 (Operand.tmp 123) (Operand.tmp 128) 51, type := 4, pos := "law.go:104", after := #[{ on := 11, ground := Ground.data }, { on := 16, ground := Ground.data }, { on := 9, ground := Ground.guard }], guard := some (9, false) }) (v := ?_) rfl (by kernel_rfl) (by kernel_rfl) (by kernel_rfl) (fun _ _ _ h => h) (Or.inl ⟨by rfl, ?_⟩) (by assumption) ?_
              rotate_left
              · intro w hSw
                go_simp
                try with_reducible rfl
              try simp only [Act.put, List.setIfInBounds_toArray, List.set_cons_zero, List.set_cons_succ]
              refine wpAnyH_take (i := 18) (oi := { dst := some 130, op := Op.pick (Operand.tmp 121) (Operand.const (Value.bool true)) (Operand.tmp 129), type := 4, pos := "law.go:104", after := #[{ on := 9, ground := Ground.data }, { on := 17, ground := Ground.data }], guard := none }) (v := ?_) rfl (by kernel_rfl) (by kernel_rfl) (by kernel_rfl) (fun _ _ _ h => h) (Or.inl ⟨by rfl, ?_⟩) (by assumption) ?_
              rotate_left
              · intro w hSw
                go_simp
                try with_reducible rfl
              try simp only [Act.put, List.setIfInBounds_toArray, List.set_cons_zero, List.set_cons_succ]
              refine wpAnyH_take (i := 19) (oi := { dst := some 131, op := Op.move (Operand.tmp 130), type := 4, pos := "law.go:104", after := #[{ on := 18, ground := Ground.data }, { on := 11, ground := Ground.chain }], guard := none }) (v := ?_) rfl (by kernel_rfl) (by kernel_rfl) (by kernel_rfl) (fun _ _ _ h => h) (Or.inl ⟨by rfl, ?_⟩) (by assumption) ?_
              rotate_left
              · intro w hSw
                go_simp
                try with_reducible rfl
              try simp only [Act.put, List.setIfInBounds_toArray, List.set_cons_zero, List.set_cons_succ]
              refine wpAnyH_take (i := 20) (oi := { dst := some 132, op := Op.move (Operand.tmp 6), type := 47, pos := "law.go:104", after := #[{ on := 19, ground := Ground.guard }], guard := some (19, false) }) (v := ?_) rfl (by kernel_rfl) (by kernel_rfl) (by kernel_rfl) (fun _ _ _ h => h) (Or.inl ⟨by rfl, ?_⟩) (by assumption) ?_
              rotate_left
              · intro w hSw
                go_simp
                try with_reducible rfl
              try simp only [Act.put, List.setIfInBounds_toArray, List.set_cons_zero, List.set_cons_succ]
              refine wpAnyH_take (i := 22) (oi := { dst := some 134, op := Op.move (Operand.tmp 7), type := 49, pos := "law.go:104", after := #[{ on := 19, ground := Ground.guard }], guard := some (19, false) }) (v := ?_) rfl (by kernel_rfl) (by kernel_rfl) (by kernel_rfl) (fun _ _ _ h => h) (Or.inl ⟨by rfl, ?_⟩) (by assumption) ?_
              rotate_left
              · intro w hSw
                go_simp
                try with_reducible rfl
              try simp only [Act.put, List.setIfInBounds_toArray, List.set_cons_zero, List.set_cons_succ]
              refine wpAnyH_ready (rs := [21]) (by kernel_rfl) (by simp) ?_
              refine AllReadyH.cons (o := { dst := some 133, op := Op.call { callee := Callee.value (Operand.func 27), args := #[Operand.tmp 132], argTypes := #[47] }, type := 51, pos := "law.go:104", after := #[{ on := 20, ground := Ground.data }, { on := 19, ground := Ground.chain }, { on := 19, ground := Ground.guard }], guard := some (19, false) }) rfl (fun K hK => ?_) AllReadyH.nil
              go_simp
              go_at_call 27
              refine (wrEnd_any ((unhide HR9).keeps (tl_k hHeld)) (unhide HX) (by omega) hat7).mono ?_
              rintro e wn ⟨rfl, hke⟩
              go_wp2_with fail
              refine hK.out _ _ ?_ (fun hHeld => ?_)
              · exact tl_step (by assumption) hke
              clear hK K
              try simp only [Act.put, List.setIfInBounds_toArray, List.set_cons_zero, List.set_cons_succ]
              refine wpAnyH_ready (rs := [23]) (by kernel_rfl) (by simp) ?_
              refine AllReadyH.cons (o := { dst := some 135, op := Op.call { callee := Callee.value (Operand.func 28), args := #[Operand.tmp 134], argTypes := #[49] }, type := 51, pos := "law.go:104", after := #[{ on := 22, ground := Ground.data }, { on := 21, ground := Ground.chain }, { on := 19, ground := Ground.guard }], guard := some (19, false) }) rfl (fun K hK => ?_) AllReadyH.nil
              go_simp
              go_at_call 28
              refine (xEnd_any ((unhide HQ9).keeps (tl_k hHeld)) (unhide HX) (by omega) hat7).mono ?_
              rintro e wn ⟨rfl, hkf⟩
              go_wp2_with fail
              refine hK.out _ _ ?_ (fun hHeld => ?_)
              · exact tl_step (by assumption) hkf
              clear hK K
              try simp only [Act.put, List.setIfInBounds_toArray, List.set_cons_zero, List.set_cons_succ]
              refine wpAnyH_take (i := 24) (oi := { dst := some 136, op := Op.binOp BinOp.neq 51 (Operand.tmp 133) (Operand.tmp 135) 51, type := 4, pos := "law.go:104", after := #[{ on := 21, ground := Ground.data }, { on := 23, ground := Ground.data }, { on := 19, ground := Ground.guard }], guard := some (19, false) }) (v := ?_) rfl (by kernel_rfl) (by kernel_rfl) (by kernel_rfl) (fun _ _ _ h => h) (Or.inl ⟨by rfl, ?_⟩) (by assumption) ?_
              rotate_left
              · intro w hSw
                go_simp
                try with_reducible rfl
              try simp only [Act.put, List.setIfInBounds_toArray, List.set_cons_zero, List.set_cons_succ]
              refine wpAnyH_take (i := 25) (oi := { dst := some 137, op := Op.pick (Operand.tmp 131) (Operand.const (Value.bool true)) (Operand.tmp 136), type := 4, pos := "law.go:104", after := #[{ on := 19, ground := Ground.data }, { on := 24, ground := Ground.data }], guard := none }) (v := ?_) rfl (by kernel_rfl) (by kernel_rfl) (by kernel_rfl) (fun _ _ _ h => h) (Or.inl ⟨by rfl, ?_⟩) (by assumption) ?_
              rotate_left
              · intro w hSw
                go_simp
                try with_reducible rfl
              try simp only [Act.put, List.setIfInBounds_toArray, List.set_cons_zero, List.set_cons_succ]
              refine wpAnyH_done (by kernel_rfl) ?_ _
              have HKF := hide ((unhide HKB).trans (tl_k hHeld))
              have HRF := hide ((unhide HR9).keeps (tl_k hHeld))
              have HQF := hide ((unhide HQ9).keeps (tl_k hHeld))
              have hszf := Nat.lt_of_lt_of_le hsz (tl_size hHeld)
              clear hHeld
              go_wp2
              exact ⟨⟨k + 1, by omega, by omega, by go_num, ⟨unhide HKF, at1, f1, hat7, unhide HRF, unhide HQF⟩, hszf⟩, by simp [intOf]; omega⟩
            · have e3 : (kind == 3) = false := beq_eq_false_iff_ne.2 h3
              by_cases h4 : kind = 4
              · subst h4
                clear h1 h2 h3 e1 e2 e3
                obtain ⟨hoc, hof, hol⟩ := (unhide HOB).facts
                have HC1F := hide fun e2 => wrFail_any e2 (unhide HRO)
                have HC2F := hide fun e2 (wx : World) (h : QV wx gq Aq cq xs at0 f) => xFail_any e2 h
                go_wp2_with fail
                refine (unhide HC1F _).mono ?_
                rintro e w6 ⟨rfl, hR6, hf6⟩
                have hQ6 := q_stays (unhide HLAY) (unhide HQO) hf6
                have HC2 := hide fun e2 => unhide HC2F e2 _ hQ6
                have HR6 := hide hR6
                have HF6 := hide hf6
                have hsz6 := hf6.2.2.2.1
                rw [World.size_alloc] at hsz6
                have hob6 := fr_blk hf6 (unhide HOB) (by have := (unhide HLAY).2.1; omega) (fun e => by cases e)
                obtain ⟨hoc6, hof6, hol6⟩ := hob6.facts
                clear hR6 hf6 hQ6 hoc hof hol hob6
                go_wp2_with fail
                refine (unhide HC2 _).mono ?_
                rintro e w7 ⟨rfl, hQ7, hf7⟩
                have HKB := hide (k_q (unhide HLAY) (k_r (unhide HLAY) (unhide HKP) (unhide HF6)) hf7)
                have hsz : gq < w7.heap.size := by have := hf7.2.2.2.1; omega
                have hR7 := r_stays (unhide HLAY) (unhide HR6) hf7
                have hat7 := hat
                clear hf7 hoc6 hof6 hol6
                generalize hF1 : (if f = 0 then _ else f) = f1 at hR7 hQ7
                clear hF1
                generalize hat1 : at0 = at1 at *
                clear hat1
                have hg9 : w7.cell? ⟨gq, 2, none⟩ = some (.int .i64 f1) := hQ7.1.cell 2
                have HR9 := hide hR7
                have HQ9 := hide hQ7
                clear hR7 hQ7
                go_wp2
                refine wp_region_held_drew (S := fun w' => w'.cell? ⟨gq, 2, none⟩ = some (.int .i64 f1) ∧ TlS gq w7 w') (by kernel_rfl) ?_ (fun hHeld => ?_)
                · exact ⟨hg9, hsz, (Keeps.refl w7).drew⟩
                refine wpAnyH_take (i := 0) (oi := { dst := some 112, op := Op.move (Operand.tmp 10), type := 4, pos := "law.go:104", after := #[], guard := none }) (v := ?_) rfl (by kernel_rfl) (by kernel_rfl) (by kernel_rfl) (fun _ _ _ h => h) (Or.inl ⟨by rfl, ?_⟩) (by assumption) ?_
                rotate_left
                · intro w hSw
                  go_simp
                  try with_reducible rfl
                try simp only [Act.put, List.setIfInBounds_toArray, List.set_cons_zero, List.set_cons_succ]
                refine wpAnyH_take (i := 1) (oi := { dst := some 113, op := Op.unOp UnOp.not 4 (Operand.tmp 112), type := 4, pos := "law.go:104", after := #[{ on := 0, ground := Ground.data }], guard := none }) (v := ?_) rfl (by kernel_rfl) (by kernel_rfl) (by kernel_rfl) (fun _ _ _ h => h) (Or.inl ⟨by rfl, ?_⟩) (by assumption) ?_
                rotate_left
                · intro w hSw
                  go_simp
                  try with_reducible rfl
                try simp only [Act.put, List.setIfInBounds_toArray, List.set_cons_zero, List.set_cons_succ]
                refine wpAnyH_take (i := 2) (oi := { dst := some 114, op := Op.move (Operand.tmp 113), type := 4, pos := "law.go:104", after := #[{ on := 1, ground := Ground.data }], guard := none }) (v := ?_) rfl (by kernel_rfl) (by kernel_rfl) (by kernel_rfl) (fun _ _ _ h => h) (Or.inl ⟨by rfl, ?_⟩) (by assumption) ?_
                rotate_left
                · intro w hSw
                  go_simp
                  try with_reducible rfl
                try simp only [Act.put, List.setIfInBounds_toArray, List.set_cons_zero, List.set_cons_succ]
                refine wpAnyH_take (i := 3) (oi := { dst := some 115, op := Op.move (Operand.tmp 6), type := 47, pos := "law.go:104", after := #[{ on := 2, ground := Ground.guard }], guard := some (2, false) }) (v := ?_) rfl (by kernel_rfl) (by kernel_rfl) (by kernel_rfl) (fun _ _ _ h => h) (Or.inl ⟨by rfl, ?_⟩) (by assumption) ?_
                rotate_left
                · intro w hSw
                  go_simp
                  try with_reducible rfl
                try simp only [Act.put, List.setIfInBounds_toArray, List.set_cons_zero, List.set_cons_succ]
                refine wpAnyH_take (i := 5) (oi := { dst := some 117, op := Op.move (Operand.tmp 7), type := 49, pos := "law.go:104", after := #[{ on := 2, ground := Ground.guard }], guard := some (2, false) }) (v := ?_) rfl (by kernel_rfl) (by kernel_rfl) (by kernel_rfl) (fun _ _ _ h => h) (Or.inl ⟨by rfl, ?_⟩) (by assumption) ?_
                rotate_left
                · intro w hSw
                  go_simp
                  try with_reducible rfl
                try simp only [Act.put, List.setIfInBounds_toArray, List.set_cons_zero, List.set_cons_succ]
                refine wpAnyH_ready (rs := [4]) (by kernel_rfl) (by simp) ?_
                refine AllReadyH.cons (o := { dst := some 116, op := Op.call { callee := Callee.value (Operand.func 39), args := #[Operand.tmp 115], argTypes := #[47] }, type := 3, pos := "law.go:104", after := #[{ on := 3, ground := Ground.data }, { on := 2, ground := Ground.chain }, { on := 2, ground := Ground.guard }], guard := some (2, false) }) rfl (fun K hK => ?_) AllReadyH.nil
                go_simp
                go_at_call 39
                refine (wrLeft_any ((unhide HR9).keeps (tl_k hHeld)) (by omega) hat7).mono ?_
                rintro e wn ⟨rfl, rfl⟩
                go_wp2_with fail
                refine hK.out _ _ ?_ (fun hHeld => ?_)
                · exact tl_step (by assumption) (Keeps.refl _).drew
                clear hK K
                try simp only [Act.put, List.setIfInBounds_toArray, List.set_cons_zero, List.set_cons_succ]
                refine wpAnyH_ready (rs := [6]) (by kernel_rfl) (by simp) ?_
                refine AllReadyH.cons (o := { dst := some 118, op := Op.call { callee := Callee.value (Operand.func 40), args := #[Operand.tmp 117], argTypes := #[49] }, type := 3, pos := "law.go:104", after := #[{ on := 5, ground := Ground.data }, { on := 4, ground := Ground.chain }, { on := 2, ground := Ground.guard }], guard := some (2, false) }) rfl (fun K hK => ?_) AllReadyH.nil
                go_simp
                go_at_call 40
                refine (xLeft_any ((unhide HQ9).keeps (tl_k hHeld)) (by omega) hat7).mono ?_
                rintro e wn ⟨rfl, rfl⟩
                go_wp2_with fail
                refine hK.out _ _ ?_ (fun hHeld => ?_)
                · exact tl_step (by assumption) (Keeps.refl _).drew
                clear hK K
                try simp only [Act.put, List.setIfInBounds_toArray, List.set_cons_zero, List.set_cons_succ]
                refine wpAnyH_take (i := 7) (oi := { dst := some 119, op := Op.binOp BinOp.neq 3 (Operand.tmp 116) (Operand.tmp 118) 3, type := 4, pos := "law.go:104", after := #[{ on := 4, ground := Ground.data }, { on := 6, ground := Ground.data }, { on := 2, ground := Ground.guard }], guard := some (2, false) }) (v := ?_) rfl (by kernel_rfl) (by kernel_rfl) (by kernel_rfl) (fun _ _ _ h => h) (Or.inl ⟨by rfl, ?_⟩) (by assumption) ?_
                rotate_left
                · intro w hSw
                  go_simp
                  try with_reducible rfl
                try simp only [Act.put, List.setIfInBounds_toArray, List.set_cons_zero, List.set_cons_succ]
                refine wpAnyH_take (i := 8) (oi := { dst := some 120, op := Op.pick (Operand.tmp 114) (Operand.const (Value.bool true)) (Operand.tmp 119), type := 4, pos := "law.go:104", after := #[{ on := 2, ground := Ground.data }, { on := 7, ground := Ground.data }], guard := none }) (v := ?_) rfl (by kernel_rfl) (by kernel_rfl) (by kernel_rfl) (fun _ _ _ h => h) (Or.inl ⟨by rfl, ?_⟩) (by assumption) ?_
                rotate_left
                · intro w hSw
                  go_simp
                  try with_reducible rfl
                try simp only [Act.put, List.setIfInBounds_toArray, List.set_cons_zero, List.set_cons_succ]
                refine wpAnyH_take (i := 9) (oi := { dst := some 121, op := Op.move (Operand.tmp 120), type := 4, pos := "law.go:104", after := #[{ on := 8, ground := Ground.data }, { on := 6, ground := Ground.chain }], guard := none }) (v := ?_) rfl (by kernel_rfl) (by kernel_rfl) (by kernel_rfl) (fun _ _ _ h => h) (Or.inl ⟨by rfl, ?_⟩) (by assumption) ?_
                rotate_left
                · intro w hSw
                  go_simp
                  try with_reducible rfl
                try simp only [Act.put, List.setIfInBounds_toArray, List.set_cons_zero, List.set_cons_succ]
                refine wpAnyH_take (i := 10) (oi := { dst := some 122, op := Op.move (Operand.tmp 6), type := 47, pos := "law.go:104", after := #[{ on := 9, ground := Ground.guard }], guard := some (9, false) }) (v := ?_) rfl (by kernel_rfl) (by kernel_rfl) (by kernel_rfl) (fun _ _ _ h => h) (Or.inl ⟨by rfl, ?_⟩) (by assumption) ?_
                rotate_left
                · intro w hSw
                  go_simp
                  try with_reducible rfl
                try simp only [Act.put, List.setIfInBounds_toArray, List.set_cons_zero, List.set_cons_succ]
                refine wpAnyH_take (i := 12) (oi := { dst := some 124, op := Op.move (Operand.tmp 7), type := 49, pos := "law.go:104", after := #[{ on := 9, ground := Ground.guard }], guard := some (9, false) }) (v := ?_) rfl (by kernel_rfl) (by kernel_rfl) (by kernel_rfl) (fun _ _ _ h => h) (Or.inl ⟨by rfl, ?_⟩) (by assumption) ?_
                rotate_left
                · intro w hSw
                  go_simp
                  try with_reducible rfl
                try simp only [Act.put, List.setIfInBounds_toArray, List.set_cons_zero, List.set_cons_succ]
                refine wpAnyH_take (i := 13) (oi := { dst := some 125, op := Op.nilCheck (Operand.tmp 124), type := 0, pos := "law.go:104", after := #[{ on := 12, ground := Ground.data }, { on := 9, ground := Ground.guard }], guard := some (9, false) }) (v := ?_) rfl (by kernel_rfl) (by kernel_rfl) (by kernel_rfl) (fun _ _ _ h => h) (Or.inl ⟨by rfl, ?_⟩) (by assumption) ?_
                rotate_left
                · intro w hSw
                  go_simp
                  try with_reducible rfl
                try simp only [Act.put, List.setIfInBounds_toArray, List.set_cons_zero, List.set_cons_succ]
                refine wpAnyH_take (i := 14) (oi := { dst := some 126, op := Op.fieldAddr 60 (Operand.tmp 125) 0, type := 0, pos := "law.go:104", after := #[{ on := 13, ground := Ground.data }, { on := 9, ground := Ground.guard }], guard := some (9, false) }) (v := ?_) rfl (by kernel_rfl) (by kernel_rfl) (by kernel_rfl) (fun _ _ _ h => h) (Or.inl ⟨by rfl, ?_⟩) (by assumption) ?_
                rotate_left
                · intro w hSw
                  go_simp
                  try with_reducible rfl
                try simp only [Act.put, List.setIfInBounds_toArray, List.set_cons_zero, List.set_cons_succ]
                refine wpAnyH_take (i := 15) (oi := { dst := some 127, op := Op.fieldAddr 58 (Operand.tmp 126) 2, type := 0, pos := "law.go:104", after := #[{ on := 14, ground := Ground.data }, { on := 9, ground := Ground.guard }], guard := some (9, false) }) (v := ?_) rfl (by kernel_rfl) (by kernel_rfl) (by kernel_rfl) (fun _ _ _ h => h) (Or.inl ⟨by rfl, ?_⟩) (by assumption) ?_
                rotate_left
                · intro w hSw
                  go_simp
                  try with_reducible rfl
                try simp only [Act.put, List.setIfInBounds_toArray, List.set_cons_zero, List.set_cons_succ]
                refine wpAnyH_take (i := 16) (oi := { dst := some 128, op := Op.load 51 (Operand.tmp 127), type := 51, pos := "law.go:104", after := #[{ on := 15, ground := Ground.data }, { on := 9, ground := Ground.guard }], guard := some (9, false) }) (v := ?_) rfl (by kernel_rfl) (by kernel_rfl) (by kernel_rfl) (fun _ _ _ h => h) (Or.inl ⟨by rfl, ?_⟩) (by assumption) ?_
                rotate_left
                · intro w hSw
                  go_simp
                  try with_reducible rfl
                try simp only [Act.put, List.setIfInBounds_toArray, List.set_cons_zero, List.set_cons_succ]
                refine wpAnyH_ready (rs := [11]) (by kernel_rfl) (by simp) ?_
                refine AllReadyH.cons (o := { dst := some 123, op := Op.call { callee := Callee.value (Operand.func 41), args := #[Operand.tmp 122], argTypes := #[47] }, type := 51, pos := "law.go:104", after := #[{ on := 10, ground := Ground.data }, { on := 9, ground := Ground.chain }, { on := 9, ground := Ground.guard }], guard := some (9, false) }) rfl (fun K hK => ?_) AllReadyH.nil
                go_simp
                go_at_call 41
                refine (wrErr_any ((unhide HR9).keeps (tl_k hHeld))).mono ?_
                rintro e wn ⟨rfl, hwn⟩
                rw [hwn]
                clear hwn
                go_wp2_with fail
                refine hK.out _ _ ?_ (fun hHeld => ?_)
                · assumption
                clear hK K
                try simp only [Act.put, List.setIfInBounds_toArray, List.set_cons_zero, List.set_cons_succ]
                refine wpAnyH_take (i := 17) (oi := { dst := some 129, op := Op.binOp BinOp.neq 51 (Operand.tmp 123) (Operand.tmp 128) 51, type := 4, pos := "law.go:104", after := #[{ on := 11, ground := Ground.data }, { on := 16, ground := Ground.data }, { on := 9, ground := Ground.guard }], guard := some (9, false) }) (v := ?_) rfl (by kernel_rfl) (by kernel_rfl) (by kernel_rfl) (fun _ _ _ h => h) (Or.inl ⟨by rfl, ?_⟩) (by assumption) ?_
                rotate_left
                · intro w hSw
                  go_simp
                  try with_reducible rfl
                try simp only [Act.put, List.setIfInBounds_toArray, List.set_cons_zero, List.set_cons_succ]
                refine wpAnyH_take (i := 18) (oi := { dst := some 130, op := Op.pick (Operand.tmp 121) (Operand.const (Value.bool true)) (Operand.tmp 129), type := 4, pos := "law.go:104", after := #[{ on := 9, ground := Ground.data }, { on := 17, ground := Ground.data }], guard := none }) (v := ?_) rfl (by kernel_rfl) (by kernel_rfl) (by kernel_rfl) (fun _ _ _ h => h) (Or.inl ⟨by rfl, ?_⟩) (by assumption) ?_
                rotate_left
                · intro w hSw
                  go_simp
                  try with_reducible rfl
                try simp only [Act.put, List.setIfInBounds_toArray, List.set_cons_zero, List.set_cons_succ]
                refine wpAnyH_take (i := 19) (oi := { dst := some 131, op := Op.move (Operand.tmp 130), type := 4, pos := "law.go:104", after := #[{ on := 18, ground := Ground.data }, { on := 11, ground := Ground.chain }], guard := none }) (v := ?_) rfl (by kernel_rfl) (by kernel_rfl) (by kernel_rfl) (fun _ _ _ h => h) (Or.inl ⟨by rfl, ?_⟩) (by assumption) ?_
                rotate_left
                · intro w hSw
                  go_simp
                  try with_reducible rfl
                try simp only [Act.put, List.setIfInBounds_toArray, List.set_cons_zero, List.set_cons_succ]
                refine wpAnyH_take (i := 20) (oi := { dst := some 132, op := Op.move (Operand.tmp 6), type := 47, pos := "law.go:104", after := #[{ on := 19, ground := Ground.guard }], guard := some (19, false) }) (v := ?_) rfl (by kernel_rfl) (by kernel_rfl) (by kernel_rfl) (fun _ _ _ h => h) (Or.inl ⟨by rfl, ?_⟩) (by assumption) ?_
                rotate_left
                · intro w hSw
                  go_simp
                  try with_reducible rfl
                try simp only [Act.put, List.setIfInBounds_toArray, List.set_cons_zero, List.set_cons_succ]
                refine wpAnyH_take (i := 22) (oi := { dst := some 134, op := Op.move (Operand.tmp 7), type := 49, pos := "law.go:104", after := #[{ on := 19, ground := Ground.guard }], guard := some (19, false) }) (v := ?_) rfl (by kernel_rfl) (by kernel_rfl) (by kernel_rfl) (fun _ _ _ h => h) (Or.inl ⟨by rfl, ?_⟩) (by assumption) ?_
                rotate_left
                · intro w hSw
                  go_simp
                  try with_reducible rfl
                try simp only [Act.put, List.setIfInBounds_toArray, List.set_cons_zero, List.set_cons_succ]
                refine wpAnyH_ready (rs := [21]) (by kernel_rfl) (by simp) ?_
                refine AllReadyH.cons (o := { dst := some 133, op := Op.call { callee := Callee.value (Operand.func 27), args := #[Operand.tmp 132], argTypes := #[47] }, type := 51, pos := "law.go:104", after := #[{ on := 20, ground := Ground.data }, { on := 19, ground := Ground.chain }, { on := 19, ground := Ground.guard }], guard := some (19, false) }) rfl (fun K hK => ?_) AllReadyH.nil
                go_simp
                go_at_call 27
                refine (wrEnd_any ((unhide HR9).keeps (tl_k hHeld)) (unhide HX) (by omega) hat7).mono ?_
                rintro e wn ⟨rfl, hke⟩
                go_wp2_with fail
                refine hK.out _ _ ?_ (fun hHeld => ?_)
                · exact tl_step (by assumption) hke
                clear hK K
                try simp only [Act.put, List.setIfInBounds_toArray, List.set_cons_zero, List.set_cons_succ]
                refine wpAnyH_ready (rs := [23]) (by kernel_rfl) (by simp) ?_
                refine AllReadyH.cons (o := { dst := some 135, op := Op.call { callee := Callee.value (Operand.func 28), args := #[Operand.tmp 134], argTypes := #[49] }, type := 51, pos := "law.go:104", after := #[{ on := 22, ground := Ground.data }, { on := 21, ground := Ground.chain }, { on := 19, ground := Ground.guard }], guard := some (19, false) }) rfl (fun K hK => ?_) AllReadyH.nil
                go_simp
                go_at_call 28
                refine (xEnd_any ((unhide HQ9).keeps (tl_k hHeld)) (unhide HX) (by omega) hat7).mono ?_
                rintro e wn ⟨rfl, hkf⟩
                go_wp2_with fail
                refine hK.out _ _ ?_ (fun hHeld => ?_)
                · exact tl_step (by assumption) hkf
                clear hK K
                try simp only [Act.put, List.setIfInBounds_toArray, List.set_cons_zero, List.set_cons_succ]
                refine wpAnyH_take (i := 24) (oi := { dst := some 136, op := Op.binOp BinOp.neq 51 (Operand.tmp 133) (Operand.tmp 135) 51, type := 4, pos := "law.go:104", after := #[{ on := 21, ground := Ground.data }, { on := 23, ground := Ground.data }, { on := 19, ground := Ground.guard }], guard := some (19, false) }) (v := ?_) rfl (by kernel_rfl) (by kernel_rfl) (by kernel_rfl) (fun _ _ _ h => h) (Or.inl ⟨by rfl, ?_⟩) (by assumption) ?_
                rotate_left
                · intro w hSw
                  go_simp
                  try with_reducible rfl
                try simp only [Act.put, List.setIfInBounds_toArray, List.set_cons_zero, List.set_cons_succ]
                refine wpAnyH_take (i := 25) (oi := { dst := some 137, op := Op.pick (Operand.tmp 131) (Operand.const (Value.bool true)) (Operand.tmp 136), type := 4, pos := "law.go:104", after := #[{ on := 19, ground := Ground.data }, { on := 24, ground := Ground.data }], guard := none }) (v := ?_) rfl (by kernel_rfl) (by kernel_rfl) (by kernel_rfl) (fun _ _ _ h => h) (Or.inl ⟨by rfl, ?_⟩) (by assumption) ?_
                rotate_left
                · intro w hSw
                  go_simp
                  try with_reducible rfl
                try simp only [Act.put, List.setIfInBounds_toArray, List.set_cons_zero, List.set_cons_succ]
                refine wpAnyH_done (by kernel_rfl) ?_ _
                have HKF := hide ((unhide HKB).trans (tl_k hHeld))
                have HRF := hide ((unhide HR9).keeps (tl_k hHeld))
                have HQF := hide ((unhide HQ9).keeps (tl_k hHeld))
                have hszf := Nat.lt_of_lt_of_le hsz (tl_size hHeld)
                clear hHeld
                go_wp2
                exact ⟨⟨k + 1, by omega, by omega, by go_num, ⟨unhide HKF, at1, f1, hat7, unhide HRF, unhide HQF⟩, hszf⟩, by simp [intOf]; omega⟩
              · have e4 : (kind == 4) = false := beq_eq_false_iff_ne.2 h4
                clear h1 h2 h3 h4
                obtain ⟨nb, hK1, hK2⟩ : ∃ K : Nat, min (max x 0) 64 = (K : Int) ∧ max 0 (min x 64) = (K : Int) := ⟨(min (max x 0) 64).toNat, by omega, by omega⟩
                have HC1 := hide fun (wx : World) (h : WRV wx gr A c xs at0 f) => wrBits_any x nb hK1 h (unhide HX) (by omega) hat
                have HC2F := hide fun (wx : World) (h : QV wx gq Aq cq xs at0 f) => xBitsR_any x nb hK2 h (unhide HX) (by omega) hat
                have HAT2 := hide (rdAt_le (f := f) (n := nb) hat)
                clear hK1 hK2
                go_wp2
                refine wp_region_held_drew (S := fun w' => w'.cell? ⟨wr.heap.size, 1, none⟩ = some (.int .i64 x) ∧ True) (by kernel_rfl) ?_ (fun hHeld => ?_)
                · exact ⟨unhide HOD1, trivial⟩
                refine wpAnyH_take (i := 0) (oi := { dst := some 59, op := Op.move (Operand.tmp 6), type := 47, pos := "law.go:102", after := #[], guard := none }) (v := ?_) rfl (by kernel_rfl) (by kernel_rfl) (by kernel_rfl) (fun _ _ _ h => h) (Or.inl ⟨by rfl, ?_⟩) (by assumption) ?_
                rotate_left
                · intro w hSw
                  go_simp
                  try with_reducible rfl
                try simp only [Act.put, List.setIfInBounds_toArray, List.set_cons_zero, List.set_cons_succ]
                refine wpAnyH_take (i := 1) (oi := { dst := some 60, op := Op.fieldAddr 38 (Operand.tmp 9) 1, type := 0, pos := "law.go:102", after := #[], guard := none }) (v := ?_) rfl (by kernel_rfl) (by kernel_rfl) (by kernel_rfl) (fun _ _ _ h => h) (Or.inl ⟨by rfl, ?_⟩) (by assumption) ?_
                rotate_left
                · intro w hSw
                  go_simp
                  try with_reducible rfl
                try simp only [Act.put, List.setIfInBounds_toArray, List.set_cons_zero, List.set_cons_succ]
                refine wpAnyH_take (i := 2) (oi := { dst := some 61, op := Op.load 3 (Operand.tmp 60), type := 3, pos := "law.go:102", after := #[{ on := 1, ground := Ground.data }], guard := none }) (v := ?_) rfl (by kernel_rfl) (by kernel_rfl) (by kernel_rfl) (fun _ _ _ h => h) (Or.inl ⟨by rfl, ?_⟩) (by assumption) ?_
                rotate_left
                · intro w hSw
                  go_simp
                  try with_reducible rfl
                try simp only [Act.put, List.setIfInBounds_toArray, List.set_cons_zero, List.set_cons_succ]
                refine wpAnyH_take (i := 4) (oi := { dst := some 63, op := Op.move (Operand.tmp 7), type := 49, pos := "law.go:102", after := #[], guard := none }) (v := ?_) rfl (by kernel_rfl) (by kernel_rfl) (by kernel_rfl) (fun _ _ _ h => h) (Or.inl ⟨by rfl, ?_⟩) (by assumption) ?_
                rotate_left
                · intro w hSw
                  go_simp
                  try with_reducible rfl
                try simp only [Act.put, List.setIfInBounds_toArray, List.set_cons_zero, List.set_cons_succ]
                refine wpAnyH_take (i := 5) (oi := { dst := some 64, op := Op.fieldAddr 38 (Operand.tmp 9) 1, type := 0, pos := "law.go:102", after := #[], guard := none }) (v := ?_) rfl (by kernel_rfl) (by kernel_rfl) (by kernel_rfl) (fun _ _ _ h => h) (Or.inl ⟨by rfl, ?_⟩) (by assumption) ?_
                rotate_left
                · intro w hSw
                  go_simp
                  try with_reducible rfl
                try simp only [Act.put, List.setIfInBounds_toArray, List.set_cons_zero, List.set_cons_succ]
                refine wpAnyH_take (i := 6) (oi := { dst := some 65, op := Op.load 3 (Operand.tmp 64), type := 3, pos := "law.go:102", after := #[{ on := 5, ground := Ground.data }], guard := none }) (v := ?_) rfl (by kernel_rfl) (by kernel_rfl) (by kernel_rfl) (fun _ _ _ h => h) (Or.inl ⟨by rfl, ?_⟩) (by assumption) ?_
                rotate_left
                · intro w hSw
                  go_simp
                  try with_reducible rfl
                try simp only [Act.put, List.setIfInBounds_toArray, List.set_cons_zero, List.set_cons_succ]
                refine wpAnyH_ready (rs := [3]) (by kernel_rfl) (by simp) ?_
                refine AllReadyH.cons (o := { dst := some 62, op := Op.call { callee := Callee.value (Operand.func 37), args := #[Operand.tmp 59, Operand.tmp 61], argTypes := #[47, 3] }, type := 36, pos := "law.go:102", after := #[{ on := 0, ground := Ground.data }, { on := 2, ground := Ground.data }], guard := none }) rfl (fun K hK => ?_) AllReadyH.nil
                go_simp
                go_at_call 37
                refine (unhide HC1 _ ((unhide HRO).keeps (Keeps.refl _).drew)).mono ?_
                rintro e w6 ⟨rfl, hR6, hf6⟩
                have HR6 := hide hR6
                have HF1 := hide hf6
                have hQ6 := q_stays (unhide HLAY) (unhide HQO).drew hf6
                have HC2 := hide (unhide HC2F _ hQ6)
                clear hR6 hf6 hQ6
                go_wp2_with fail
                refine hK.out _ _ ?_ (fun hHeld => ?_)
                · exact one_cell (by assumption) (unhide HF1) (by have := (unhide HLAY).2.1; omega) (by have e1 : (wr.alloc (.cells #[.int .i64 kind, .int .i64 x, .int .u64 v, .int .u64 s, .slice qa bs.length qc] 38)).drew.heap.size = wr.heap.size + 1 := World.size_alloc _ _; omega)
                clear hK K
                try simp only [Act.put, List.setIfInBounds_toArray, List.set_cons_zero, List.set_cons_succ]
                have hOc : True := trivial
                refine wpAnyH_ready (rs := [7]) (by kernel_rfl) (by simp) ?_
                refine AllReadyH.cons (o := { dst := some 66, op := Op.call { callee := Callee.value (Operand.func 38), args := #[Operand.tmp 63, Operand.tmp 65], argTypes := #[49, 3] }, type := 36, pos := "law.go:102", after := #[{ on := 4, ground := Ground.data }, { on := 6, ground := Ground.data }, { on := 3, ground := Ground.chain }], guard := none }) rfl (fun K hK => ?_) AllReadyH.nil
                go_simp
                go_at_call 38
                with_reducible refine (unhide HC2).mono ?_
                rintro e w7 ⟨rfl, hQ7, hf7⟩
                have HQ7 := hide hQ7
                have HF2 := hide hf7
                have HR7 := hide (r_stays (unhide HLAY) (unhide HR6) hf7)
                clear hQ7 hf7
                go_wp2_with fail
                refine hK.out _ _ ?_ (fun hHeld => ?_)
                · exact one_cell (by assumption) (unhide HF2) (by omega) (by have := (unhide HF1).2.2.2.1; have e1 : (wr.alloc (.cells #[.int .i64 kind, .int .i64 x, .int .u64 v, .int .u64 s, .slice qa bs.length qc] 38)).drew.heap.size = wr.heap.size + 1 := World.size_alloc _ _; omega)
                clear hK K
                try simp only [Act.put, List.setIfInBounds_toArray, List.set_cons_zero, List.set_cons_succ]
                generalize rdVal xs at0 f nb = rv at *
                refine wpAnyH_take (i := 8) (oi := { dst := some 67, op := Op.binOp BinOp.eql 36 (Operand.tmp 62) (Operand.tmp 66) 36, type := 4, pos := "law.go:102", after := #[{ on := 3, ground := Ground.data }, { on := 7, ground := Ground.data }], guard := none }) (v := ?_) rfl (by kernel_rfl) (by kernel_rfl) (by kernel_rfl) (fun _ _ _ h => h) (Or.inl ⟨by rfl, ?_⟩) (by assumption) ?_
                rotate_left
                · intro w hSw
                  go_simp
                  try with_reducible rfl
                try simp only [Act.put, List.setIfInBounds_toArray, List.set_cons_zero, List.set_cons_succ]
                refine wpAnyH_take (i := 9) (oi := { dst := some 10, op := Op.assign (Operand.tmp 67), type := 4, pos := "law.go:102", after := #[{ on := 8, ground := Ground.data }, { on := 7, ground := Ground.chain }, { on := 0, ground := Ground.phase }, { on := 1, ground := Ground.phase }, { on := 2, ground := Ground.phase }, { on := 3, ground := Ground.phase }, { on := 4, ground := Ground.phase }, { on := 5, ground := Ground.phase }, { on := 6, ground := Ground.phase }, { on := 7, ground := Ground.phase }, { on := 8, ground := Ground.phase }], guard := none }) (v := ?_) rfl (by kernel_rfl) (by kernel_rfl) (by kernel_rfl) (fun _ _ _ h => h) (Or.inl ⟨by rfl, ?_⟩) (by assumption) ?_
                rotate_left
                · intro w hSw
                  go_simp
                  try with_reducible rfl
                try simp only [Act.put, List.setIfInBounds_toArray, List.set_cons_zero, List.set_cons_succ]
                refine wpAnyH_done (by kernel_rfl) ?_ _
                have HKB := hide (k_q (unhide HLAY) (k_r (unhide HLAY) (unhide HKP).drew (unhide HF1)) (unhide HF2))
                have hsz : gq < w7.heap.size := by have := (unhide HF1).2.2.2.1; have := (unhide HF2).2.2.2.1; have e1 : (wr.alloc (.cells #[.int .i64 kind, .int .i64 x, .int .u64 v, .int .u64 s, .slice qa bs.length qc] 38)).drew.heap.size = wr.heap.size + 1 := World.size_alloc _ _; omega
                have hR7 := unhide HR7
                have hQ7 := unhide HQ7
                have hat7 := unhide HAT2
                generalize rdAt (8 * xs.length) at0 f nb = at1 at *
                generalize rdF (8 * xs.length) at0 f nb = f1 at *
                clear hOc
                have hg9 : w7.cell? ⟨gq, 2, none⟩ = some (.int .i64 f1) := hQ7.1.cell 2
                have HR9 := hide hR7
                have HQ9 := hide hQ7
                clear hR7 hQ7
                go_wp2
                refine wp_region_held_drew (S := fun w' => w'.cell? ⟨gq, 2, none⟩ = some (.int .i64 f1) ∧ TlS gq w7 w') (by kernel_rfl) ?_ (fun hHeld => ?_)
                · exact ⟨hg9, hsz, (Keeps.refl w7).drew⟩
                refine wpAnyH_take (i := 0) (oi := { dst := some 112, op := Op.move (Operand.tmp 10), type := 4, pos := "law.go:104", after := #[], guard := none }) (v := ?_) rfl (by kernel_rfl) (by kernel_rfl) (by kernel_rfl) (fun _ _ _ h => h) (Or.inl ⟨by rfl, ?_⟩) (by assumption) ?_
                rotate_left
                · intro w hSw
                  go_simp
                  try with_reducible rfl
                try simp only [Act.put, List.setIfInBounds_toArray, List.set_cons_zero, List.set_cons_succ]
                refine wpAnyH_take (i := 1) (oi := { dst := some 113, op := Op.unOp UnOp.not 4 (Operand.tmp 112), type := 4, pos := "law.go:104", after := #[{ on := 0, ground := Ground.data }], guard := none }) (v := ?_) rfl (by kernel_rfl) (by kernel_rfl) (by kernel_rfl) (fun _ _ _ h => h) (Or.inl ⟨by rfl, ?_⟩) (by assumption) ?_
                rotate_left
                · intro w hSw
                  go_simp
                  try with_reducible rfl
                try simp only [Act.put, List.setIfInBounds_toArray, List.set_cons_zero, List.set_cons_succ]
                refine wpAnyH_take (i := 2) (oi := { dst := some 114, op := Op.move (Operand.tmp 113), type := 4, pos := "law.go:104", after := #[{ on := 1, ground := Ground.data }], guard := none }) (v := ?_) rfl (by kernel_rfl) (by kernel_rfl) (by kernel_rfl) (fun _ _ _ h => h) (Or.inl ⟨by rfl, ?_⟩) (by assumption) ?_
                rotate_left
                · intro w hSw
                  go_simp
                  try with_reducible rfl
                try simp only [Act.put, List.setIfInBounds_toArray, List.set_cons_zero, List.set_cons_succ]
                refine wpAnyH_take (i := 3) (oi := { dst := some 115, op := Op.move (Operand.tmp 6), type := 47, pos := "law.go:104", after := #[{ on := 2, ground := Ground.guard }], guard := some (2, false) }) (v := ?_) rfl (by kernel_rfl) (by kernel_rfl) (by kernel_rfl) (fun _ _ _ h => h) (Or.inl ⟨by rfl, ?_⟩) (by assumption) ?_
                rotate_left
                · intro w hSw
                  go_simp
                  try with_reducible rfl
                try simp only [Act.put, List.setIfInBounds_toArray, List.set_cons_zero, List.set_cons_succ]
                refine wpAnyH_take (i := 5) (oi := { dst := some 117, op := Op.move (Operand.tmp 7), type := 49, pos := "law.go:104", after := #[{ on := 2, ground := Ground.guard }], guard := some (2, false) }) (v := ?_) rfl (by kernel_rfl) (by kernel_rfl) (by kernel_rfl) (fun _ _ _ h => h) (Or.inl ⟨by rfl, ?_⟩) (by assumption) ?_
                rotate_left
                · intro w hSw
                  go_simp
                  try with_reducible rfl
                try simp only [Act.put, List.setIfInBounds_toArray, List.set_cons_zero, List.set_cons_succ]
                refine wpAnyH_ready (rs := [4]) (by kernel_rfl) (by simp) ?_
                refine AllReadyH.cons (o := { dst := some 116, op := Op.call { callee := Callee.value (Operand.func 39), args := #[Operand.tmp 115], argTypes := #[47] }, type := 3, pos := "law.go:104", after := #[{ on := 3, ground := Ground.data }, { on := 2, ground := Ground.chain }, { on := 2, ground := Ground.guard }], guard := some (2, false) }) rfl (fun K hK => ?_) AllReadyH.nil
                go_simp
                go_at_call 39
                refine (wrLeft_any ((unhide HR9).keeps (tl_k hHeld)) (by omega) hat7).mono ?_
                rintro e wn ⟨rfl, rfl⟩
                go_wp2_with fail
                refine hK.out _ _ ?_ (fun hHeld => ?_)
                · exact tl_step (by assumption) (Keeps.refl _).drew
                clear hK K
                try simp only [Act.put, List.setIfInBounds_toArray, List.set_cons_zero, List.set_cons_succ]
                refine wpAnyH_ready (rs := [6]) (by kernel_rfl) (by simp) ?_
                refine AllReadyH.cons (o := { dst := some 118, op := Op.call { callee := Callee.value (Operand.func 40), args := #[Operand.tmp 117], argTypes := #[49] }, type := 3, pos := "law.go:104", after := #[{ on := 5, ground := Ground.data }, { on := 4, ground := Ground.chain }, { on := 2, ground := Ground.guard }], guard := some (2, false) }) rfl (fun K hK => ?_) AllReadyH.nil
                go_simp
                go_at_call 40
                refine (xLeft_any ((unhide HQ9).keeps (tl_k hHeld)) (by omega) hat7).mono ?_
                rintro e wn ⟨rfl, rfl⟩
                go_wp2_with fail
                refine hK.out _ _ ?_ (fun hHeld => ?_)
                · exact tl_step (by assumption) (Keeps.refl _).drew
                clear hK K
                try simp only [Act.put, List.setIfInBounds_toArray, List.set_cons_zero, List.set_cons_succ]
                refine wpAnyH_take (i := 7) (oi := { dst := some 119, op := Op.binOp BinOp.neq 3 (Operand.tmp 116) (Operand.tmp 118) 3, type := 4, pos := "law.go:104", after := #[{ on := 4, ground := Ground.data }, { on := 6, ground := Ground.data }, { on := 2, ground := Ground.guard }], guard := some (2, false) }) (v := ?_) rfl (by kernel_rfl) (by kernel_rfl) (by kernel_rfl) (fun _ _ _ h => h) (Or.inl ⟨by rfl, ?_⟩) (by assumption) ?_
                rotate_left
                · intro w hSw
                  go_simp
                  try with_reducible rfl
                try simp only [Act.put, List.setIfInBounds_toArray, List.set_cons_zero, List.set_cons_succ]
                refine wpAnyH_take (i := 8) (oi := { dst := some 120, op := Op.pick (Operand.tmp 114) (Operand.const (Value.bool true)) (Operand.tmp 119), type := 4, pos := "law.go:104", after := #[{ on := 2, ground := Ground.data }, { on := 7, ground := Ground.data }], guard := none }) (v := ?_) rfl (by kernel_rfl) (by kernel_rfl) (by kernel_rfl) (fun _ _ _ h => h) (Or.inl ⟨by rfl, ?_⟩) (by assumption) ?_
                rotate_left
                · intro w hSw
                  go_simp
                  try with_reducible rfl
                try simp only [Act.put, List.setIfInBounds_toArray, List.set_cons_zero, List.set_cons_succ]
                refine wpAnyH_take (i := 9) (oi := { dst := some 121, op := Op.move (Operand.tmp 120), type := 4, pos := "law.go:104", after := #[{ on := 8, ground := Ground.data }, { on := 6, ground := Ground.chain }], guard := none }) (v := ?_) rfl (by kernel_rfl) (by kernel_rfl) (by kernel_rfl) (fun _ _ _ h => h) (Or.inl ⟨by rfl, ?_⟩) (by assumption) ?_
                rotate_left
                · intro w hSw
                  go_simp
                  try with_reducible rfl
                try simp only [Act.put, List.setIfInBounds_toArray, List.set_cons_zero, List.set_cons_succ]
                refine wpAnyH_take (i := 10) (oi := { dst := some 122, op := Op.move (Operand.tmp 6), type := 47, pos := "law.go:104", after := #[{ on := 9, ground := Ground.guard }], guard := some (9, false) }) (v := ?_) rfl (by kernel_rfl) (by kernel_rfl) (by kernel_rfl) (fun _ _ _ h => h) (Or.inl ⟨by rfl, ?_⟩) (by assumption) ?_
                rotate_left
                · intro w hSw
                  go_simp
                  try with_reducible rfl
                try simp only [Act.put, List.setIfInBounds_toArray, List.set_cons_zero, List.set_cons_succ]
                refine wpAnyH_take (i := 12) (oi := { dst := some 124, op := Op.move (Operand.tmp 7), type := 49, pos := "law.go:104", after := #[{ on := 9, ground := Ground.guard }], guard := some (9, false) }) (v := ?_) rfl (by kernel_rfl) (by kernel_rfl) (by kernel_rfl) (fun _ _ _ h => h) (Or.inl ⟨by rfl, ?_⟩) (by assumption) ?_
                rotate_left
                · intro w hSw
                  go_simp
                  try with_reducible rfl
                try simp only [Act.put, List.setIfInBounds_toArray, List.set_cons_zero, List.set_cons_succ]
                refine wpAnyH_take (i := 13) (oi := { dst := some 125, op := Op.nilCheck (Operand.tmp 124), type := 0, pos := "law.go:104", after := #[{ on := 12, ground := Ground.data }, { on := 9, ground := Ground.guard }], guard := some (9, false) }) (v := ?_) rfl (by kernel_rfl) (by kernel_rfl) (by kernel_rfl) (fun _ _ _ h => h) (Or.inl ⟨by rfl, ?_⟩) (by assumption) ?_
                rotate_left
                · intro w hSw
                  go_simp
                  try with_reducible rfl
                try simp only [Act.put, List.setIfInBounds_toArray, List.set_cons_zero, List.set_cons_succ]
                refine wpAnyH_take (i := 14) (oi := { dst := some 126, op := Op.fieldAddr 60 (Operand.tmp 125) 0, type := 0, pos := "law.go:104", after := #[{ on := 13, ground := Ground.data }, { on := 9, ground := Ground.guard }], guard := some (9, false) }) (v := ?_) rfl (by kernel_rfl) (by kernel_rfl) (by kernel_rfl) (fun _ _ _ h => h) (Or.inl ⟨by rfl, ?_⟩) (by assumption) ?_
                rotate_left
                · intro w hSw
                  go_simp
                  try with_reducible rfl
                try simp only [Act.put, List.setIfInBounds_toArray, List.set_cons_zero, List.set_cons_succ]
                refine wpAnyH_take (i := 15) (oi := { dst := some 127, op := Op.fieldAddr 58 (Operand.tmp 126) 2, type := 0, pos := "law.go:104", after := #[{ on := 14, ground := Ground.data }, { on := 9, ground := Ground.guard }], guard := some (9, false) }) (v := ?_) rfl (by kernel_rfl) (by kernel_rfl) (by kernel_rfl) (fun _ _ _ h => h) (Or.inl ⟨by rfl, ?_⟩) (by assumption) ?_
                rotate_left
                · intro w hSw
                  go_simp
                  try with_reducible rfl
                try simp only [Act.put, List.setIfInBounds_toArray, List.set_cons_zero, List.set_cons_succ]
                refine wpAnyH_take (i := 16) (oi := { dst := some 128, op := Op.load 51 (Operand.tmp 127), type := 51, pos := "law.go:104", after := #[{ on := 15, ground := Ground.data }, { on := 9, ground := Ground.guard }], guard := some (9, false) }) (v := ?_) rfl (by kernel_rfl) (by kernel_rfl) (by kernel_rfl) (fun _ _ _ h => h) (Or.inl ⟨by rfl, ?_⟩) (by assumption) ?_
                rotate_left
                · intro w hSw
                  go_simp
                  try with_reducible rfl
                try simp only [Act.put, List.setIfInBounds_toArray, List.set_cons_zero, List.set_cons_succ]
                refine wpAnyH_ready (rs := [11]) (by kernel_rfl) (by simp) ?_
                refine AllReadyH.cons (o := { dst := some 123, op := Op.call { callee := Callee.value (Operand.func 41), args := #[Operand.tmp 122], argTypes := #[47] }, type := 51, pos := "law.go:104", after := #[{ on := 10, ground := Ground.data }, { on := 9, ground := Ground.chain }, { on := 9, ground := Ground.guard }], guard := some (9, false) }) rfl (fun K hK => ?_) AllReadyH.nil
                go_simp
                go_at_call 41
                refine (wrErr_any ((unhide HR9).keeps (tl_k hHeld))).mono ?_
                rintro e wn ⟨rfl, hwn⟩
                rw [hwn]
                clear hwn
                go_wp2_with fail
                refine hK.out _ _ ?_ (fun hHeld => ?_)
                · assumption
                clear hK K
                try simp only [Act.put, List.setIfInBounds_toArray, List.set_cons_zero, List.set_cons_succ]
                refine wpAnyH_take (i := 17) (oi := { dst := some 129, op := Op.binOp BinOp.neq 51 (Operand.tmp 123) (Operand.tmp 128) 51, type := 4, pos := "law.go:104", after := #[{ on := 11, ground := Ground.data }, { on := 16, ground := Ground.data }, { on := 9, ground := Ground.guard }], guard := some (9, false) }) (v := ?_) rfl (by kernel_rfl) (by kernel_rfl) (by kernel_rfl) (fun _ _ _ h => h) (Or.inl ⟨by rfl, ?_⟩) (by assumption) ?_
                rotate_left
                · intro w hSw
                  go_simp
                  try with_reducible rfl
                try simp only [Act.put, List.setIfInBounds_toArray, List.set_cons_zero, List.set_cons_succ]
                refine wpAnyH_take (i := 18) (oi := { dst := some 130, op := Op.pick (Operand.tmp 121) (Operand.const (Value.bool true)) (Operand.tmp 129), type := 4, pos := "law.go:104", after := #[{ on := 9, ground := Ground.data }, { on := 17, ground := Ground.data }], guard := none }) (v := ?_) rfl (by kernel_rfl) (by kernel_rfl) (by kernel_rfl) (fun _ _ _ h => h) (Or.inl ⟨by rfl, ?_⟩) (by assumption) ?_
                rotate_left
                · intro w hSw
                  go_simp
                  try with_reducible rfl
                try simp only [Act.put, List.setIfInBounds_toArray, List.set_cons_zero, List.set_cons_succ]
                refine wpAnyH_take (i := 19) (oi := { dst := some 131, op := Op.move (Operand.tmp 130), type := 4, pos := "law.go:104", after := #[{ on := 18, ground := Ground.data }, { on := 11, ground := Ground.chain }], guard := none }) (v := ?_) rfl (by kernel_rfl) (by kernel_rfl) (by kernel_rfl) (fun _ _ _ h => h) (Or.inl ⟨by rfl, ?_⟩) (by assumption) ?_
                rotate_left
                · intro w hSw
                  go_simp
                  try with_reducible rfl
                try simp only [Act.put, List.setIfInBounds_toArray, List.set_cons_zero, List.set_cons_succ]
                refine wpAnyH_take (i := 20) (oi := { dst := some 132, op := Op.move (Operand.tmp 6), type := 47, pos := "law.go:104", after := #[{ on := 19, ground := Ground.guard }], guard := some (19, false) }) (v := ?_) rfl (by kernel_rfl) (by kernel_rfl) (by kernel_rfl) (fun _ _ _ h => h) (Or.inl ⟨by rfl, ?_⟩) (by assumption) ?_
                rotate_left
                · intro w hSw
                  go_simp
                  try with_reducible rfl
                try simp only [Act.put, List.setIfInBounds_toArray, List.set_cons_zero, List.set_cons_succ]
                refine wpAnyH_take (i := 22) (oi := { dst := some 134, op := Op.move (Operand.tmp 7), type := 49, pos := "law.go:104", after := #[{ on := 19, ground := Ground.guard }], guard := some (19, false) }) (v := ?_) rfl (by kernel_rfl) (by kernel_rfl) (by kernel_rfl) (fun _ _ _ h => h) (Or.inl ⟨by rfl, ?_⟩) (by assumption) ?_
                rotate_left
                · intro w hSw
                  go_simp
                  try with_reducible rfl
                try simp only [Act.put, List.setIfInBounds_toArray, List.set_cons_zero, List.set_cons_succ]
                refine wpAnyH_ready (rs := [21]) (by kernel_rfl) (by simp) ?_
                refine AllReadyH.cons (o := { dst := some 133, op := Op.call { callee := Callee.value (Operand.func 27), args := #[Operand.tmp 132], argTypes := #[47] }, type := 51, pos := "law.go:104", after := #[{ on := 20, ground := Ground.data }, { on := 19, ground := Ground.chain }, { on := 19, ground := Ground.guard }], guard := some (19, false) }) rfl (fun K hK => ?_) AllReadyH.nil
                go_simp
                go_at_call 27
                refine (wrEnd_any ((unhide HR9).keeps (tl_k hHeld)) (unhide HX) (by omega) hat7).mono ?_
                rintro e wn ⟨rfl, hke⟩
                go_wp2_with fail
                refine hK.out _ _ ?_ (fun hHeld => ?_)
                · exact tl_step (by assumption) hke
                clear hK K
                try simp only [Act.put, List.setIfInBounds_toArray, List.set_cons_zero, List.set_cons_succ]
                refine wpAnyH_ready (rs := [23]) (by kernel_rfl) (by simp) ?_
                refine AllReadyH.cons (o := { dst := some 135, op := Op.call { callee := Callee.value (Operand.func 28), args := #[Operand.tmp 134], argTypes := #[49] }, type := 51, pos := "law.go:104", after := #[{ on := 22, ground := Ground.data }, { on := 21, ground := Ground.chain }, { on := 19, ground := Ground.guard }], guard := some (19, false) }) rfl (fun K hK => ?_) AllReadyH.nil
                go_simp
                go_at_call 28
                refine (xEnd_any ((unhide HQ9).keeps (tl_k hHeld)) (unhide HX) (by omega) hat7).mono ?_
                rintro e wn ⟨rfl, hkf⟩
                go_wp2_with fail
                refine hK.out _ _ ?_ (fun hHeld => ?_)
                · exact tl_step (by assumption) hkf
                clear hK K
                try simp only [Act.put, List.setIfInBounds_toArray, List.set_cons_zero, List.set_cons_succ]
                refine wpAnyH_take (i := 24) (oi := { dst := some 136, op := Op.binOp BinOp.neq 51 (Operand.tmp 133) (Operand.tmp 135) 51, type := 4, pos := "law.go:104", after := #[{ on := 21, ground := Ground.data }, { on := 23, ground := Ground.data }, { on := 19, ground := Ground.guard }], guard := some (19, false) }) (v := ?_) rfl (by kernel_rfl) (by kernel_rfl) (by kernel_rfl) (fun _ _ _ h => h) (Or.inl ⟨by rfl, ?_⟩) (by assumption) ?_
                rotate_left
                · intro w hSw
                  go_simp
                  try with_reducible rfl
                try simp only [Act.put, List.setIfInBounds_toArray, List.set_cons_zero, List.set_cons_succ]
                refine wpAnyH_take (i := 25) (oi := { dst := some 137, op := Op.pick (Operand.tmp 131) (Operand.const (Value.bool true)) (Operand.tmp 136), type := 4, pos := "law.go:104", after := #[{ on := 19, ground := Ground.data }, { on := 24, ground := Ground.data }], guard := none }) (v := ?_) rfl (by kernel_rfl) (by kernel_rfl) (by kernel_rfl) (fun _ _ _ h => h) (Or.inl ⟨by rfl, ?_⟩) (by assumption) ?_
                rotate_left
                · intro w hSw
                  go_simp
                  try with_reducible rfl
                try simp only [Act.put, List.setIfInBounds_toArray, List.set_cons_zero, List.set_cons_succ]
                refine wpAnyH_done (by kernel_rfl) ?_ _
                have HKF := hide ((unhide HKB).trans (tl_k hHeld))
                have HRF := hide ((unhide HR9).keeps (tl_k hHeld))
                have HQF := hide ((unhide HQ9).keeps (tl_k hHeld))
                have hszf := Nat.lt_of_lt_of_le hsz (tl_size hHeld)
                clear hHeld
                go_wp2
                exact ⟨⟨k + 1, by omega, by omega, by go_num, ⟨unhide HKF, at1, f1, hat7, unhide HRF, unhide HQF⟩, hszf⟩, by simp [intOf]; omega⟩
      · obtain ⟨hkp, _⟩ := hI
        have HKP := hide hkp
        clear hkp
        rcases Nat.lt_or_ge k np with hA | hA
        · have hB : ¬ ((k : Int) < 60) := by omega
          go_wp2
          go_ret
          exact ⟨rfl, unhide HKP⟩
        · have hB : ¬ ((k : Int) < (np : Int)) := by omega
          go_wp2
          go_ret
          exact ⟨rfl, unhide HKP⟩
end Go.Proofs.Ytnbcehoddjcnoaa
