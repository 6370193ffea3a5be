/- The writer's state behind some calls, from a world on; Writer.Bits, Bit and Octets on it. -/
import Derived.Test.YtgaapigagglgbaaBitsO
import Derived.Test.YtgaapigagglgbaaBitsAw
import Derived.Test.YtgaapigagglgbaaPartsB
namespace Go.Proofs.Ytgaapigagglgbaa
open Go.ChangeShapes Go.WideShapes Go.ChangeAt Go.RowKit

theorem Fr.trans {g : Nat} {row row' : Option Nat} {a b c : World} (h : Fr g row a b) (k : Fr g row' b c) (hr : ∀ x, row' = some x → row = some x ∨ a.heap.size ≤ x) : Fr g row a c := by
  obtain ⟨h1, h2, h3, h4, h5⟩ := h
  obtain ⟨k1, k2, k3, k4, k5⟩ := k
  refine ⟨k1.trans h1, k2.trans h2, k3.trans h3, Nat.le_trans h4 k4, fun x hx hg hrow => (k5 x (by omega) hg ?_).trans (h5 x hx hg hrow)⟩
  intro e
  rcases hr x e with h | h
  · exact hrow h
  · omega
theorem Moved.row {w : World} {A A' : Option Addr} (h : Moved w A A') : ∀ x, rowOf A' = some x → rowOf A = some x ∨ w.heap.size ≤ x := by
  intro x e
  rcases h with h | ⟨b, h, hb⟩
  · exact .inl (h ▸ e)
  · rw [h] at e; injection e with e; subst e; exact .inr hb
theorem Moved.trans {a b : World} {A A' A'' : Option Addr} (h : Moved a A A') (hs : a.heap.size ≤ b.heap.size) (k : Moved b A' A'') : Moved a A A'' := by
  rcases k with k | ⟨x, k, hx⟩
  · rcases h with h | ⟨y, h, hy⟩
    · exact .inl (k.trans h)
    · exact .inr ⟨y, k.trans h, hy⟩
  · exact .inr ⟨x, k, by omega⟩
/-- The writer at g, whose octets lay at A0 in the world w, holds the n bits of N now. -/
def St (base : Nat) (w : World) (g : Nat) (A0 : Option Addr) (N : Int) (n : Nat) (wr : World) : Prop :=
  ∃ m room A c, WrV base wr g N n m room A c ∧ room < 8 ∧ Fr g (rowOf A0) w wr ∧ Moved w A0 A
/-- The writer at g holds the n bits of N, in memory from base on. -/
def WS (base : Nat) (wr : World) (g : Nat) (N : Int) (n : Nat) : Prop := ∃ m room A c, WrV base wr g N n m room A c ∧ room < 8
theorem St.ws {base : Nat} {w wr : World} {g : Nat} {A0 : Option Addr} {N : Int} {n : Nat} (h : St base w g A0 N n wr) : WS base wr g N n := by
  obtain ⟨m, room, A, c, h1, h2, _⟩ := h
  exact ⟨m, room, A, c, h1, h2⟩
theorem St.fr {base : Nat} {w wr : World} {g : Nat} {A0 : Option Addr} {N : Int} {n : Nat} (h : St base w g A0 N n wr) : Fr g (rowOf A0) w wr := by
  obtain ⟨m, room, A, c, h1, h2, h3, _⟩ := h
  exact h3
theorem St.start {base : Nat} {w : World} {g : Nat} {A0 : Option Addr} {N : Int} {n m room c : Nat} (h : WrV base w g N n m room A0 c) (hr : room < 8) : St base w g A0 N n w :=
  ⟨m, room, A0, c, h, hr, Fr.refl _ _ _, .inl rfl⟩
theorem St.step {base : Nat} {w w1 w2 : World} {g : Nat} {A0 A1 : Option Addr} {N : Int} {n : Nat} (hf : Fr g (rowOf A0) w w1) (hm : Moved w A0 A1) (h : St base w1 g A1 N n w2) : St base w g A0 N n w2 := by
  obtain ⟨m, room, A, c, h1, h2, h3, h4⟩ := h
  exact ⟨m, room, A, c, h1, h2, hf.trans h3 hm.row, hm.trans hf.2.2.2.1 h4⟩
theorem st_of_bits {base : Nat} {w wr : World} {g : Nat} {A0 : Option Addr} {N v : Int} {n K : Nat} (h : BitsR base w g N v n K A0 0 wr) : St base w g A0 (tot N v K) (n + K) wr := by
  obtain ⟨n1, m, room, A, c, h1, h2, _, h4, h5, h6⟩ := h
  rw [Int.pow_zero, Int.ediv_one] at h1
  obtain rfl : n1 = n + K := by omega
  exact ⟨m, room, A, c, h1, h2, h5, h6⟩

theorem bits_st (v k : Int) (K : Nat) {base : Nat} {w wr : World} {g : Nat} {A0 : Option Addr} {N : Int} {n : Nat} (hS : St base w g A0 N n wr) (hb : base ≤ wr.heap.size) (hv0 : 0 ≤ v) (hv1 : v ≤ 4294967295) (hK : min (max k 0) 32 = (K : Int)) (hn : n ≤ 10000000) :
    Calls Try.prog 35 #[.pointer (some ⟨g, 0, none⟩), .int .u32 v, .int .i64 k] wr fun e w' => e = .returned (.tuple #[]) ∧ St base w g A0 (tot N v K) (n + K) w' := by
  obtain ⟨m, room, A, c, h1, h2, h3, h4⟩ := hS
  refine (bits_any v k g base N n m room K A c hv0 hv1 hK hn wr hb h1 h2).mono ?_
  rintro e w' ⟨rfl, hR⟩
  exact ⟨rfl, St.step h3 h4 (st_of_bits hR)⟩
theorem len_st {base : Nat} {wr : World} {g : Nat} {N : Int} {n : Nat} (h : WS base wr g N n) :
    Calls Try.prog 41 #[.pointer (some ⟨g, 0, none⟩)] wr fun e w' => e = .returned (.int .i64 (n : Nat)) ∧ w' = wr := by
  obtain ⟨m, room, A, c, h1, h2⟩ := h
  exact len_any g base N n m room A c wr h1
/-- The octets of n bits. -/
def oct (N : Int) (n : Nat) : List Int := lo ((n + 7) / 8) (N * 2 ^ (8 * ((n + 7) / 8) - n))
theorem oct_of {N : Int} {n m room : Nat} (h : 8 * m = n + room) (hr : room < 8) : lo m (N * 2 ^ room) = oct N n := by
  have e1 : (n + 7) / 8 = m := by omega
  unfold oct
  rw [e1, show 8 * m - n = room from by omega]
theorem oct_length (N : Int) (n : Nat) : (oct N n).length = (n + 7) / 8 := lo_length _ _
theorem oct_bytes (N : Int) (n : Nat) : B8 (oct N n) := lo_range _ _
theorem bytes_st {base : Nat} {wr : World} {g : Nat} {N : Int} {n : Nat} (h : WS base wr g N n) (hn : n ≤ 70000000) :
    Calls Try.prog 42 #[.pointer (some ⟨g, 0, none⟩)] wr (GivesBytes 5 (oct N n) wr) := by
  obtain ⟨m, room, A, c, h1, h2⟩ := h
  have := bytes_any g base N n m room A c (by have := h1.1; omega) wr h1
  rwa [oct_of h1.1 h2] at this
theorem WS.keeps {base : Nat} {w w' : World} {g : Nat} {N : Int} {n : Nat} (h : WS base w g N n) (hk : Keeps w w') : WS base w' g N n := by
  obtain ⟨m, room, A, c, h1, h2⟩ := h
  exact ⟨m, room, A, c, ⟨h1.1, h1.2.1.keeps hk, own_keeps_ h1.2.2 hk⟩, h2⟩

/-! ### Octets -/
theorem after_appendP {base g n m c : Nat} {N : Int} {A : Option Addr} {w w3 : World} {v' : Value} {xs : List Int} (hx : B8 xs) (hg : Blk w g 32 #[.slice A m c, .int .i64 n])
    (hown : w3.ownsRow base 5 1 v' (m + xs.length) ((lo m (N * 2 ^ 0)).map (Value.int .u8) ++ xs.map (Value.int .u8))) (hgr : w.grownBy w3 (Value.slice A m c).ownBlock)
    (hat : v'.ownBlock = (Value.slice A m c).ownBlock ∨ v'.ownBlock = some w.heap.size) (hne : rowOf A ≠ some g) :
    ∃ A3 c3, v' = .slice A3 (m + xs.length) c3 ∧ w3.ownsRow base 5 1 (.slice A3 (m + xs.length) c3) (m + xs.length) ((lo (m + xs.length) (appB N xs * 2 ^ 0)).map (Value.int .u8)) ∧ Blk w3 g 32 #[.slice A m c, .int .i64 n] ∧ rowOf A3 ≠ some g ∧ (rowOf A3 = rowOf A ∨ rowOf A3 = some w.heap.size) := by
  have hG3 := hg.grown hgr (fun e => hne ((own_row rfl).symm.trans e.symm))
  rw [← List.map_append, Int.pow_zero, Int.mul_one, appB_lo xs m N hx] at hown
  obtain ⟨A3, c3, rfl, _⟩ := own_form hown
  rw [own_row rfl, own_row rfl] at hat
  refine ⟨A3, c3, rfl, by rw [Int.pow_zero, Int.mul_one]; exact hown, hG3, ?_, hat⟩
  rcases hat with h | h
  · rw [h]; exact hne
  · rw [h]; intro e; injection e with e; have := hg.lt; omega
theorem st_append {base : Nat} {w wr w3 : World} {g : Nat} {A0 A A3 : Option Addr} {N : Int} {n m c c3 l : Nat} {xs : List Int} (h8 : 8 * m = n + 0) (hfr : Fr g (rowOf A0) w wr) (hmv : Moved w A0 A)
    (hgr : wr.grownBy w3 (Value.slice A m c).ownBlock) (hown : w3.ownsRow base 5 1 (.slice A3 (m + l) c3) (m + l) ((lo (m + l) (appB N xs * 2 ^ 0)).map (Value.int .u8)))
    (hG : Blk w3 g 32 #[.slice A m c, .int .i64 n]) (hne : rowOf A3 ≠ some g) (hat : rowOf A3 = rowOf A ∨ rowOf A3 = some wr.heap.size) :
    St base w g A0 (appB N xs) (n + 8 * l) ((w3.setCell ⟨g, 0, none⟩ (.slice A3 (m + l) c3)).setCell ⟨g, 1, none⟩ (.int .i64 ((n : Int) + 8 * (l : Int)))) := by
  have hsz := hfr.2.2.2.1
  refine ⟨m + l, 0, A3, c3, ⟨by omega, ?_, ?_⟩, by omega, ?_, ?_⟩
  · have := (hG.set_ 0 (.slice A3 (m + l) c3)).set_ 1 (.int .i64 ((n : Int) + 8 * (l : Int)))
    rw [show ((n + 8 * l : Nat) : Int) = (n : Int) + 8 * (l : Int) from by omega]
    simpa using this
  · refine own_kept hown fun b e => ?_
    rw [own_row rfl] at e
    have hbg : b ≠ g := by rintro rfl; exact hne e
    exact (Below.heap_setCell _ ⟨g, 1, none⟩ _ b hbg).trans (Below.heap_setCell _ ⟨g, 0, none⟩ _ b hbg)
  · refine ((hfr.grown hgr ?_).setCell _ _ (.inl rfl)).setCell _ _ (.inl rfl)
    intro b e
    rw [own_row rfl] at e
    exact hmv.row b e
  · rcases hat with h | h
    · rcases hmv with h2 | ⟨x, h2, hx⟩
      · exact .inl (h.trans h2)
      · exact .inr ⟨x, h.trans h2, hx⟩
    · exact .inr ⟨_, h, hsz⟩

theorem flat_takeP (ps : List Part) (k : Nat) (q : Part) (h : ps[k]? = some q) : flat (ps.take (k + 1)) = flat (ps.take k) ++ q.2.2 := by
  rw [List.take_add_one, h]
  simp [flat]
theorem flat_le (ps : List Part) (k : Nat) : (flat (ps.take k)).length ≤ (flat ps).length := by
  have : flat ps = flat (ps.take k) ++ flat (ps.drop k) := by
    unfold flat; rw [← List.flatMap_append, List.take_append_drop]
  rw [this, List.length_append]; omega
theorem flat_le1 (ps : List Part) (k : Nat) (q : Part) (h : ps[k]? = some q) : (flat (ps.take k)).length + q.2.2.length ≤ (flat ps).length := by
  have := flat_le ps (k + 1)
  rw [flat_takeP ps k q h, List.length_append] at this
  exact this

set_option maxRecDepth 100000 in
set_option maxHeartbeats 4000000 in
theorem octets_st (P : Option Addr) (ps : List Part) (np c : Nat) {base : Nat} {w wr : World} {g : Nat} {A0 : Option Addr} {N : Int} {n : Nat} (hnp : ps.length = np) (hS : St base w g A0 N n wr) (hb : base ≤ w.heap.size)
    (hst : ∀ w', Fr g (rowOf A0) w w' → PartsAny w' P ps) (hn : n + 8 * (flat ps).length ≤ 10000000) (hl0 : np ≤ 1000000) :
    Calls Try.prog 57 #[.pointer (some ⟨g, 0, none⟩), .slice P np c] wr fun e w' => e = .returned (.tuple #[]) ∧ St base w g A0 (appB N (flat ps)) (n + 8 * (flat ps).length) w' := by
  obtain ⟨i0, hi0, hz0, hz1, hz2⟩ := info_parts u8_info
  have HST := hide hst
  have HN := hide hn
  have HNP := hide hnp
  have HS := hide hS
  clear hst hn hnp hS
  go_enter Try.func57, Try.ntmps57
  go_wp2
  go_loopw [12] (fun i wr => ∃ k : Nat, k ≤ np ∧ i = .int .i64 k ∧ St base w g A0 (appB N (flat (ps.take k))) (n + 8 * (flat (ps.take k)).length) wr) (fun i _ => np - (intOf i).toNat)
  case atStart => exact ⟨0, by omega, rfl, by simpa [flat, appB] using unhide HS⟩
  case round =>
    obtain ⟨k, hk, rfl, hR⟩ := hrel
    by_cases hlt : k < np
    · obtain ⟨b, o, rfl, q, hq, hc, hh, h8⟩ := (unhide HST _ hR.fr).at_ (k := k) (by rw [unhide HNP]; exact hlt)
      have hfl := flat_le1 ps k q hq
      have HFT := hide (flat_takeP ps k q hq)
      have HQ := hide hq
      clear hq
      obtain ⟨qa, qc, xs⟩ := q
      simp only at hc hh h8 hfl HFT
      have hN := unhide HN
      generalize hM : flat (ps.take k) = done at *
      have hlx : xs.length ≤ 10000000 := by omega
      have hld : n + 8 * done.length ≤ 10000000 := by omega
      by_cases he : ((n + 8 * done.length : Nat) : Int) % 8 = 0
      · obtain ⟨m, room, A, ca, ⟨h8m, hg, hown⟩, hroom, hfr, hmv⟩ := hR
        obtain rfl : room = 0 := by omega
        have hne : rowOf A ≠ some g := fun e => by
          rcases hown.2 with ⟨h, _⟩ | ⟨b, _, cur, h, _, hcur, _⟩
          · injection h with h1; subst h1; cases e
          · injection h with h1; subst h1
            injection e with e
            change b = g at e
            subst e
            unfold Blk at hg
            rw [hcur] at hg
            injection hg with hg; injection hg with _ ht; exact absurd ht (by decide)
        obtain ⟨hgc, hgf, hgl⟩ := hg.facts
        have hg0 : wr.cell? ⟨g, 0, none⟩ = some (.slice A m ca) := hgc 0
        have hg1 : wr.cell? ⟨g, 1, none⟩ = some (.int .i64 (n + 8 * done.length : Nat)) := hgc 1
        have hbw := hfr.2.2.2.1
        have HFR := hide hfr
        have HMV := hide hmv
        have HG := hide hg
        have HH := hide hh
        have HOWN := hide hown
        have HX := hide h8
        have hln : (xs.length : Int) = ((xs.length : Nat) : Int) := rfl
        generalize hlenx : xs.length = l at *
        have HL := hide hlenx
        generalize hnn : n + 8 * done.length = nn at *
        have HNN := hide hnn
        have e1 : ((nn : Int) % 8 == 0) = true := by rw [he]; rfl
        clear hfr hmv hg hh hown h8 hgc hM hlenx hln hnn
        have hgr0 := hide (show Holds wr qa xs from unhide HH)
        go_wp2_with (at_builtin; refine wpList_append_any _ rfl (.tmp 26) (.tmp 27) _ rfl base 5 i0 _ 1 1 Try.underlying28 hi0 hz0 hz1 hz2 rfl (by omega) _ m _ rfl (unhide HOWN) _ qa l qc (xs.map (Value.int .u8)) rfl (by have := unhide HH; unfold Holds at this; rw [unhide HL] at this; exact this) (ints_oneCell _ _) (by simp only [maxLen]; omega) (by omega) (by omega) ?_; intro v' w3 hown3 hg3 hat3; rw [← unhide HL] at hown3; obtain ⟨A3, c3, rfl, hown4, hG3, hne3, hat4⟩ := after_appendP (unhide HX) (unhide HG) hown3 hg3 hat3 hne; rw [unhide HL] at hown4; rw [unhide HL]; obtain ⟨hgc3, hgf3, hgl3⟩ := hG3.facts; have hg30 : w3.cell? ⟨g, 0, none⟩ = some (.slice A m ca) := hgc3 0; have hg31 : w3.cell? ⟨g, 1, none⟩ = some (.int .i64 (nn : Nat)) := hgc3 1; have HFIN := hide (st_append h8m (unhide HFR) (unhide HMV) hg3 hown4 hG3 hne3 hat4); clear hown3 hown4 hg3 hat3 hgc3 hG3 hat4)
        refine ⟨⟨k + 1, by omega, by go_num, ?_⟩, by simp [intOf]; omega⟩
        rw [unhide HFT, appB_app, List.length_append, unhide HL]
        have := unhide HFIN
        rw [show n + 8 * (done.length + l) = nn + 8 * l from by rw [← unhide HNN]; omega]
        exact this
      · have e1 : (((n + 8 * done.length : Nat) : Int) % 8 == 0) = false := beq_eq_false_iff_ne.2 he
        have hcell1 : ∀ {N' : Int} {n' : Nat} {wr' : World}, St base w g A0 N' n' wr' → wr'.cell? ⟨g, 1, none⟩ = some (.int .i64 n') := by
          rintro N' n' wr' ⟨m, room, A, ca, hW, _⟩
          exact hW.2.1.cell 1
        have hg1 := hcell1 hR
        generalize hnn : n + 8 * done.length = nn at *
        have HNN := hide hnn
        have hbd : nn + 8 * xs.length ≤ 10000000 := by omega
        have HR := hide hR
        have HX := hide h8
        clear hR hh h8 hcell1 hnn
        have HM := hide hM
        clear hM
        go_wp2
        go_loopw [43] (fun j wr' => ∃ l : Nat, l ≤ xs.length ∧ j = .int .i64 l ∧ St base w g A0 (appB N (done ++ xs.take l)) (nn + 8 * l) wr') (fun j _ => xs.length - (intOf j).toNat)
        case atStart => exact ⟨0, by omega, rfl, by simpa using unhide HR⟩
        case round =>
          obtain ⟨l, hl, rfl, hR2⟩ := hrel
          by_cases hlt2 : l < xs.length
          · obtain ⟨b2, o2, e2, q2, hq2, hc2, hh2, _⟩ := (unhide HST _ hR2.fr).at_ (k := k) (by rw [unhide HNP]; exact hlt)
            rw [unhide HQ] at hq2
            injection hq2 with hq2
            subst hq2
            obtain ⟨b3, o3, rfl, hc3⟩ := hh2.at_ hlt2
            have hxr := unhide HX (xs.getD l 0) (by rw [show xs.getD l 0 = xs[l] from by simp [hlt2]]; exact List.getElem_mem _)
            have htk : xs.take (l + 1) = xs.take l ++ [xs.getD l 0] := by rw [List.take_succ_eq_append_getElem hlt2]; simp [hlt2]
            have HTK := hide htk
            clear htk e2 hc2 hh2
            generalize hy : xs.getD l 0 = y at *
            have HB := hide (bits_st y 8 8 hR2 (Nat.le_trans hb hR2.fr.2.2.2.1) hxr.1 (by omega) (by omega) (by omega))
            clear hR2
            go_wp2_with fail
            with_reducible refine (unhide HB).mono ?_
            rintro e w3 ⟨rfl, hR3⟩
            have HR3 := hide hR3
            clear hR3
            go_wp2
            refine ⟨⟨l + 1, by omega, by go_num, ?_⟩, by simp [intOf]; omega⟩
            have h3 := unhide HR3
            rw [tot_octet _ _ hxr.1 hxr.2] at h3
            rw [unhide HTK, ← List.append_assoc, appB_snoc]
            exact h3
          · obtain rfl : l = xs.length := by omega
            have HR2 := hide hR2
            clear hR2
            go_wp2
            refine ⟨⟨k + 1, by omega, by go_num, ?_⟩, by simp [intOf]; omega⟩
            rw [unhide HFT, List.length_append, show n + 8 * (done.length + xs.length) = nn + 8 * xs.length from by rw [← unhide HNN]; omega]
            have := unhide HR2
            rwa [List.take_length] at this
    · obtain rfl : k = np := by omega
      have HR := hide hR
      clear hR
      go_wp2
      go_end0
      refine ⟨rfl, ?_⟩
      have := unhide HR
      rwa [List.take_of_length_le (by rw [unhide HNP]; exact Nat.le_refl _)] at this
end Go.Proofs.Ytgaapigagglgbaa
