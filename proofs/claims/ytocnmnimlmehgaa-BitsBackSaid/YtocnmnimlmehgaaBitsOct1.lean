/- The walk of BitsOctets. -/
import Derived.Test.YtocnmnimlmehgaaBitsSt
namespace Go.Proofs.Ytocnmnimlmehgaa
open Go.ChangeShapes Go.WideShapes Go.ChangeAt Go.RowKit

theorem WrV.row_ne {base : Nat} {w : World} {g : Nat} {N : Int} {n m room : Nat} {A : Option Addr} {c : Nat} (h : WrV base w g N n m room A c) {g' : Nat} {t : TypeId} {cs : Array Value} (hb : Blk w g' t cs) (ht : 5 ≠ t) : rowOf A ≠ some g' := fun e => by
  rcases h.2.2.2 with ⟨h, _⟩ | ⟨b, _, cur, h, _, hcur, _⟩
  · injection h with h1; subst h1; cases e
  · injection h with h1; subst h1
    injection e with e
    change b = g' at e
    subst e
    unfold Blk at hb
    rw [hcur] at hb
    injection hb with hb; injection hb with _ h2; exact ht h2
theorem WrV.fr {base : Nat} {w w' : World} {g g' : Nat} {row' : Option Nat} {N : Int} {n m room : Nat} {A : Option Addr} {c : Nat} (h : WrV base w g N n m room A c) (hf : Fr g' row' w w') (h1 : g ≠ g') (h2 : row' ≠ some g)
    (h3 : rowOf A ≠ some g') (h4 : ∀ b, rowOf A = some b → row' ≠ some b) : WrV base w' g N n m room A c := by
  refine ⟨h.1, fr_blk hf h.2.1 h1 h2, own_kept h.2.2 fun b e => ?_⟩
  rw [own_row rfl] at e
  exact hf.2.2.2.2 b (h.row_lt b e).2 (fun e2 => h3 (e2 ▸ e)) (h4 b e)
theorem flat_len (ps : List Part) (k : Nat) (L : Nat) (h : ∀ i q, i < k → ps[i]? = some q → q.2.2.length ≤ L) : (flat (ps.take k)).length ≤ L * k := by
  induction k with
  | zero => simp [flat]
  | succ k ih =>
    have h1 := ih (fun i q hi hq => h i q (by omega) hq)
    cases hq : ps[k]? with
    | none =>
      rw [List.take_add_one, hq]
      simp only [Option.toList_none, List.append_nil]
      rw [Nat.mul_succ]; omega
    | some q =>
      rw [flat_takeP ps k q hq, List.length_append]
      have := h k q (by omega) hq
      rw [Nat.mul_succ]; omega

theorem wrap_rangeB (z : Int) : 0 ≤ IntKind.u64.wrap z ∧ IntKind.u64.wrap z ≤ 18446744073709551615 := by
  rw [IntKind.wrap_u64]; omega
theorem cut_offB (c : Int) (n : Nat) (h : 1 ≤ n) : ∃ k : Nat, IntKind.u64.wrap c % (n : Int) = k ∧ k < n := by
  have h0 := Int.emod_nonneg (IntKind.u64.wrap c) (show (n : Int) ≠ 0 by omega)
  have h1 := Int.emod_lt_of_pos (IntKind.u64.wrap c) (show (0 : Int) < n by omega)
  exact ⟨(IntKind.u64.wrap c % (n : Int)).toNat, by omega, by omega⟩

set_option maxRecDepth 100000 in
set_option maxHeartbeats 4000000 in
theorem bitsOct_any (a : Int) (P : Option Addr) (ps : List Part) (c : Nat) (w : World)
    (hp : PartsAny w P ps) (hpl : ps.length ≤ maxLen) (hpq : ∀ q ∈ ps, q.2.2.length ≤ maxLen) :
    Calls Try.prog 7 #[.int .i64 a, .slice P ps.length c] w fun e w' => e = .returned (.bool true) ∧ Keeps w w' := by
  have hm : ps.length ≤ 9223372036854775807 := by unfold maxLen at hpl; exact hpl
  have HPQ := hide hpq
  clear hpl hpq
  rcases Nat.lt_or_ge 20 ps.length with hb1 | hb1
  · clear hp
    go_enter Try.func7, Try.ntmps7
    go_wp2_with (go_at_call 9; refine (awake01_any _).mono ?_; rintro e w1 ⟨rfl, hk⟩)
    go_ret
    exact ⟨rfl, hk⟩
  · clear hm
    have HP := hide hp
    clear hp
    generalize hn : ps.length = np at *
    have HN := hide hn
    clear hn
    have h0 : WrV w.heap.size ((w.alloc (.cells #[.slice none 0 0, .int .i64 0] 25)).alloc (.cells #[.slice none 0 0, .int .i64 0] 25)) w.heap.size 0 0 0 0 none 0 :=
      ⟨rfl, (Blk.new _ _ _).alloc _, by simpa [lo] using World.ownsRow_nil _ _ _ _⟩
    have h0v : WrV w.heap.size ((w.alloc (.cells #[.slice none 0 0, .int .i64 0] 25)).alloc (.cells #[.slice none 0 0, .int .i64 0] 25)) (w.heap.size + 1) 0 0 0 0 none 0 := by
      have := Blk.new (w.alloc (.cells #[.slice none 0 0, .int .i64 0] 25)) 25 #[.slice none 0 0, .int .i64 0]
      rw [World.size_alloc] at this
      exact ⟨rfl, this, by simpa [lo] using World.ownsRow_nil _ _ _ _⟩
    have hk0 := ((Keeps.refl w).alloc (.cells #[.slice none 0 0, .int .i64 0] 25)).alloc (.cells #[.slice none 0 0, .int .i64 0] 25)
    obtain ⟨hq0, hq1⟩ := wrap_rangeB a
    obtain ⟨K, hK, hK8⟩ := cut_offB a 8 (by omega)
    rw [show ((8 : Nat) : Int) = 8 from rfl] at hK
    have HB1 := hide (bits_st 5 K K (St.start h0 (by omega)) hk0.size (by omega) (by omega) (by omega) (by omega))
    have HV0 := hide h0v
    have HK0 := hide hk0
    clear h0 h0v hk0
    go_enter Try.func7, Try.ntmps7
    go_wp2_with fail
    with_reducible refine (unhide HB1).mono ?_
    rintro e w1 ⟨rfl, hS1⟩
    have hk1 := fr_keeps (unhide HK0) hS1.fr (Nat.le_refl _) (fun b e => by cases e)
    have hv1 := (unhide HV0).fr hS1.fr (by omega) (fun e => by cases e) (fun e => by cases e) (fun b e => by cases e)
    obtain ⟨m1, r1, A1, c1, hW1, hr1, _, _⟩ := hS1
    rw [Nat.zero_add] at hW1
    have hA1v := hW1.row_ne hv1.2.1 (by decide)
    have HA1 := hide hA1v
    have HRL := hide hW1.row_lt
    have HW1 := hide hW1
    have HB2 := hide (bits_st 5 K K (St.start hv1 (by omega)) hk1.size (by omega) (by omega) (by omega) (by omega))
    have HK1 := hide hk1
    clear hv1 hW1 hk1 hA1v
    go_wp2_with fail
    with_reducible refine (unhide HB2).mono ?_
    rintro e w2 ⟨rfl, hS2⟩
    rw [Nat.zero_add] at hS2
    generalize hN0 : tot 0 5 K = N0 at *
    have HS2 := hide hS2
    clear hS2
    go_wp2
    have hkp : ∀ (N : Int) (n : Nat) (wr : World), St w.heap.size w1 (w.heap.size + 1) none N n wr → Keeps w wr := fun N n wr h => fr_keeps (unhide HK1) h.fr (by omega) (fun b e => by cases e)
    have HKP := hide hkp
    clear hkp
    go_loopw [8] (fun i wr => ∃ k : Nat, k ≤ np ∧ i = .int .i64 k ∧ (∀ j q, j < k → ps[j]? = some q → q.2.2.length ≤ 200) ∧ St w.heap.size w1 (w.heap.size + 1) none (appB N0 (flat (ps.take k))) (K + 8 * (flat (ps.take k)).length) wr) (fun i _ => np - (intOf i).toNat)
    case atStart => exact ⟨0, by omega, rfl, fun j q h => by omega, by simpa [flat, appB] using unhide HS2⟩
    case round =>
      obtain ⟨k, hk, rfl, hle, hR⟩ := hrel
      have hfl := flat_len ps k 200 hle
      have HLE := hide hle
      clear hle
      by_cases hlt : k < np
      · have hkw := unhide HKP _ _ _ hR
        obtain ⟨b, o, rfl, q, hq, hc, hh, h8⟩ := ((unhide HP).keeps hkw).at_ (k := k) (by rw [unhide HN]; exact hlt)
        have hlq : q.2.2.length ≤ 9223372036854775807 := by
          have := unhide HPQ q (List.mem_of_getElem? hq)
          unfold maxLen at this; exact this
        have HFT := hide (flat_takeP ps k q hq)
        have HQ := hide hq
        have HR := hide hR
        have H8 := hide h8
        clear hq hR hh h8
        obtain ⟨qa, qc, xs⟩ := q
        simp only at hc HFT hlq H8
        generalize hM : flat (ps.take k) = done at *
        generalize hnn : K + 8 * done.length = nn at *
        have HNN := hide hnn
        have HM := hide hM
        clear hnn hM
        rcases Nat.lt_or_ge 200 xs.length with hbig | hbig
        · clear hfl
          go_wp2_with (go_at_call 9; refine (awake01_any _).mono ?_; rintro e w3 ⟨rfl, hk3⟩)
          go_ret
          exact ⟨rfl, hkw.trans hk3⟩
        · clear hlq
          have hbd : nn + 8 * xs.length ≤ 10000000 := by rw [← unhide HNN]; omega
          go_wp2
          go_loopw [9] (fun j wr' => ∃ l : Nat, l ≤ xs.length ∧ j = .int .i64 l ∧ St w.heap.size w1 (w.heap.size + 1) none (appB N0 (done ++ xs.take l)) (nn + 8 * l) wr') (fun j _ => xs.length - (intOf j).toNat)
          case atStart => exact ⟨0, by omega, rfl, by simpa using unhide HR⟩
          case round =>
            obtain ⟨l, hl, rfl, hR2⟩ := hrel
            have hkw2 := unhide HKP _ _ _ hR2
            obtain ⟨b2, o2, e2, q2, hq2, hc2, hh2, _⟩ := ((unhide HP).keeps hkw2).at_ (k := k) (by rw [unhide HN]; exact hlt)
            injection e2 with e2; injection e2 with e3 e4 _
            subst e3; subst e4
            rw [unhide HQ] at hq2
            injection hq2 with hq2
            subst hq2
            simp only at hc2 hh2
            by_cases hlt2 : l < xs.length
            · obtain ⟨b3, o3, rfl, hc3⟩ := hh2.at_ hlt2
              have hxr := unhide H8 (xs.getD l 0) (by rw [show xs.getD l 0 = xs[l] from by simp [hlt2]]; exact List.getElem_mem _)
              have htk : xs.take (l + 1) = xs.take l ++ [xs.getD l 0] := by rw [List.take_succ_eq_append_getElem hlt2]; simp [hlt2]
              have HTK := hide htk
              clear htk hh2
              generalize hy : xs.getD l 0 = y at *
              have HB := hide (bits_st y 8 8 hR2 hkw2.size hxr.1 (by omega) (by omega) (by omega))
              clear hR2
              go_wp2_with fail
              with_reducible refine (unhide HB).mono ?_
              rintro e w3 ⟨rfl, hR3⟩
              have HR3 := hide hR3
              clear hR3
              go_wp2
              refine ⟨⟨l + 1, by omega, by go_num, ?_⟩, by simp [intOf]; omega⟩
              have h3 := unhide HR3
              rw [tot_octet _ _ hxr.1 hxr.2] at h3
              rw [unhide HTK, ← List.append_assoc, appB_snoc]
              exact h3
            · obtain rfl : l = xs.length := by omega
              have HR2 := hide hR2
              clear hR2 hh2
              go_wp2
              refine ⟨⟨k + 1, by omega, by go_num, ?_, ?_⟩, by simp [intOf]; omega⟩
              · intro j q hj hjq
                rcases Nat.lt_or_ge j k with h | h
                · exact unhide HLE j q h hjq
                · obtain rfl : j = k := by omega
                  rw [unhide HQ] at hjq
                  injection hjq with hjq
                  subst hjq
                  exact hbig
              · rw [unhide HFT, List.length_append, show K + 8 * (done.length + xs.length) = nn + 8 * xs.length from by rw [← unhide HNN]; omega]
                have := unhide HR2
                rwa [List.take_length] at this
      · obtain rfl : k = np := by omega
        have hkw := unhide HKP _ _ _ hR
        have htk : ps.take k = ps := List.take_of_length_le (by rw [unhide HN]; exact Nat.le_refl _)
        rw [htk] at hR hfl
        have hfr := hR.fr
        have hgl := (unhide HW1).2.1.lt
        obtain ⟨m2, r2, A2, c2, hV, hr2, _, hmv⟩ := hR
        have hWr := (unhide HW1).fr hfr (by omega) (fun e => by cases e) (unhide HA1) (fun b e => by intro h; cases h)
        have HO := hide (octets_st P ps k c (unhide HN) (St.start hWr hr1) hkw.size (fun w' hf => (unhide HP).keeps (fr_keeps hkw hf (by omega) (fun b e => (unhide HRL b e).1))) (by omega) (by omega))
        have HV := hide hV
        have HMV := hide hmv
        have HKW := hide hkw
        have HWR := hide hWr
        have HFL := hide hfl
        clear hV hmv hkw hfr hWr htk hfl
        go_wp2_with fail
        with_reducible refine (unhide HO).mono ?_
        rintro e w3 ⟨rfl, hS3⟩
        have hf3 := hS3.fr
        have hk3 := fr_keeps (unhide HKW) hf3 (by omega) (fun b e => (unhide HRL b e).1)
        have hA2 := (unhide HV).row_ne (unhide HWR).2.1 (by decide)
        have hV3 := (unhide HV).fr hf3 (by omega) (unhide HA1) hA2 (fun b e h => by
          rcases (unhide HMV).row b e with h2 | h2
          · cases h2
          · have := (unhide HRL b h).2; omega)
        have hwsv : WS w.heap.size w3 (w.heap.size + 1) (appB N0 (flat ps)) (K + 8 * (flat ps).length) := ⟨m2, r2, A2, c2, hV3, hr2⟩
        have hwsw := hS3.ws
        have HWV := hide hwsv
        have HWW := hide hwsw
        have HK3 := hide hk3
        have hbd : K + 8 * (flat ps).length ≤ 70000000 := by have := unhide HFL; omega
        generalize K + 8 * (flat ps).length = nn at *
        generalize appB N0 (flat ps) = NN at *
        clear hwsv hwsw hk3 hV3 hA2 hf3 hS3
        go_wp2_with fail
        refine (awake01_any _).mono ?_
        rintro e w4 ⟨rfl, hk4⟩
        have HK4 := hide hk4
        clear hk4
        go_wp2_with fail
        refine (len_st ((unhide HWW).keeps (unhide HK4))).mono ?_
        rintro e w5 ⟨rfl, hw5⟩
        rw [hw5]
        clear hw5
        go_wp2_with fail
        refine (len_st ((unhide HWV).keeps (unhide HK4))).mono ?_
        rintro e w5 ⟨rfl, hw5⟩
        rw [hw5]
        clear hw5
        go_wp2_with fail
        refine (bytes_st ((unhide HWW).keeps (unhide HK4)) hbd).mono ?_
        rintro e w5 ⟨A5, c5, rfl, hc5, hf5⟩
        have HF5 := hide hf5
        clear hf5 hc5
        go_wp2_with fail
        refine (bytes_st (((unhide HWV).keeps (unhide HK4)).keeps (unhide HF5).2) hbd).mono ?_
        rintro e w6 ⟨A6, c6, rfl, hc6, hf6⟩
        have HF6 := hide hf6
        clear hf6 hc6
        go_wp2_with fail
        refine (sameBytes_any A5 A6 _ _ c5 c6 _ ((unhide HF5).holds.keeps (unhide HF6).2) (unhide HF6).holds (oct_bytes _ _) (oct_bytes _ _)).mono ?_
        rintro e w7 ⟨rfl, rfl⟩
        rw [decide_eq_true rfl]
        go_wp2
        go_ret
        exact ⟨rfl, ((((unhide HK3).trans (unhide HK4)).trans (unhide HF5).2).trans (unhide HF6).2)⟩
end Go.Proofs.Ytocnmnimlmehgaa
