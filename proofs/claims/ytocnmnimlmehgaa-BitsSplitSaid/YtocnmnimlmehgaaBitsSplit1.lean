/- The walk of BitsSplit. -/
import Derived.Test.YtocnmnimlmehgaaBitsSplitN
import Derived.Test.YtocnmnimlmehgaaBitsRdB
import Derived.Test.YtocnmnimlmehgaaBitsOct1
namespace Go.Proofs.Ytocnmnimlmehgaa
open Go.ChangeShapes Go.WideShapes Go.ChangeAt Go.RowKit

set_option maxRecDepth 100000 in
set_option maxHeartbeats 4000000 in
theorem split_any (v n at0 : Int) (w : World) (hv0 : 0 ≤ v) (hv1 : v ≤ 4294967295) :
    Calls Try.prog 8 #[.int .u32 v, .int .i64 n, .int .i64 at0] w fun e w' => e = .returned (.bool true) ∧ Keeps w w' := by
  obtain ⟨hq0, hq1⟩ := wrap_rangeB n
  obtain ⟨K, hK, hK33⟩ := cut_offB n 33 (by omega)
  rw [show ((33 : Nat) : Int) = 33 from rfl] at hK
  obtain ⟨ha0, ha1⟩ := wrap_rangeB at0
  obtain ⟨T, hT, hTK⟩ := cut_offB at0 (K + 1) (by omega)
  rw [show ((K + 1 : Nat) : Int) = (K : Int) + 1 from by omega] at hT
  have h0 : WrV w.heap.size ((w.alloc (.cells #[.slice none 0 0, .int .i64 0] 25)).alloc (.cells #[.slice none 0 0, .int .i64 0] 25)) w.heap.size 0 0 0 0 none 0 :=
    ⟨rfl, (Blk.new _ _ _).alloc _, by simpa [lo] using World.ownsRow_nil _ _ _ _⟩
  have h0v : WrV w.heap.size ((w.alloc (.cells #[.slice none 0 0, .int .i64 0] 25)).alloc (.cells #[.slice none 0 0, .int .i64 0] 25)) (w.heap.size + 1) 0 0 0 0 none 0 := by
    have := Blk.new (w.alloc (.cells #[.slice none 0 0, .int .i64 0] 25)) 25 #[.slice none 0 0, .int .i64 0]
    rw [World.size_alloc] at this
    exact ⟨rfl, this, by simpa [lo] using World.ownsRow_nil _ _ _ _⟩
  have hk0 := ((Keeps.refl w).alloc (.cells #[.slice none 0 0, .int .i64 0] 25)).alloc (.cells #[.slice none 0 0, .int .i64 0] 25)
  have HB1 := hide (bits_st v K K (St.start h0 (by omega)) hk0.size hv0 hv1 (by omega) (by omega))
  have HV0 := hide h0v
  have HK0 := hide hk0
  have HQ := hide (show 0 ≤ v / 2 ^ (K - T) ∧ v / 2 ^ (K - T) ≤ 4294967295 from ⟨Int.ediv_nonneg hv0 (Int.le_of_lt (two_pos _)), by have := Int.ediv_le_self (2 ^ (K - T)) hv0; omega⟩)
  clear h0 h0v hk0
  go_enter Try.func8, Try.ntmps8
  go_wp2_with fail
  with_reducible refine (unhide HB1).mono ?_
  rintro e w1 ⟨rfl, hS1⟩
  have hk1 := fr_keeps (unhide HK0) hS1.fr (Nat.le_refl _) (fun b e => by cases e)
  have hV1 := (unhide HV0).fr hS1.fr (by omega) (fun e => by cases e) (fun e => by cases e) (fun b e => by cases e)
  obtain ⟨m1, r1, A1, c1, hW1, hr1, _, _⟩ := hS1
  rw [Nat.zero_add] at hW1
  have HA1 := hide (hW1.row_ne hV1.2.1 (by decide))
  have HRL := hide hW1.row_lt
  have HW1 := hide hW1
  have HK1 := hide hk1
  have HB2 := hide (bits_st (v / 2 ^ (K - T)) T T (St.start hV1 (by omega)) hk1.size (unhide HQ).1 (unhide HQ).2 (by omega) (by omega))
  clear hV1 hW1 hk1
  go_wp2_with fail
  with_reducible refine (unhide HB2).mono ?_
  rintro e w2 ⟨rfl, hS2⟩
  rw [Nat.zero_add] at hS2
  have HB3 := hide (bits_st v ((K : Int) - T) (K - T) hS2 (Nat.le_trans (unhide HK1).size hS2.fr.2.2.2.1) hv0 hv1 (by omega) (by omega))
  clear hS2
  go_wp2_with fail
  with_reducible refine (unhide HB3).mono ?_
  rintro e w3 ⟨rfl, hS3⟩
  rw [tot_parts v K T (by omega), show T + (K - T) = K from by omega] at hS3
  have hN := tot_range 0 v 0 K (Int.le_refl _) (by decide)
  rw [Nat.zero_add] at hN
  have hW3 := (unhide HW1).fr hS3.fr (by omega) (fun e => by cases e) (unhide HA1) (fun b e h => by cases h)
  have hwsw : WS w.heap.size w3 w.heap.size (tot 0 v K) K := ⟨m1, r1, A1, c1, hW3, hr1⟩
  have HWV := hide hS3.ws
  have HWW := hide hwsw
  have HK3 := hide (fr_keeps (unhide HK1) hS3.fr (by omega) (fun b e => by cases e))
  clear hS3 hW3 hwsw
  generalize tot 0 v K = N at *
  have HN := hide hN
  clear hN
  go_wp2_with fail
  refine (bytes_st (unhide HWW) (by omega)).mono ?_
  rintro e w4 ⟨A4, c4, rfl, hc4, hf4⟩
  have HF4 := hide hf4
  have hol : (oct N K).length ≤ 10000000 := by rw [oct_length]; omega
  have hob : K ≤ 8 * (oct N K).length := by rw [oct_length]; omega
  have HOB := hide hob
  have HO8 := hide (oct_bytes N K)
  clear hf4 hc4 hob
  have HRD := hide (rd_oct N K 0 K (unhide HN).1 (unhide HN).2 (by omega))
  have HJ := hide (join64 (oct N K) K T (by omega) (by omega) (unhide HOB))
  have hwhole0 := rd_range (oct N K) 0 K
  have hp32 : ∀ j, j ≤ 32 → (2 : Int) ^ j ≤ 4294967296 := fun j hj => by
    have := Nat.pow_le_pow_right (show 2 > 0 by omega) hj
    have h2 : ((2 ^ j : Nat) : Int) ≤ ((2 ^ 32 : Nat) : Int) := Int.ofNat_le.2 this
    rw [Int.natCast_pow] at h2
    exact h2
  have q1 := hp32 K (by omega)
  have q2 := hp32 T (by omega)
  have q3 := hp32 (K - T) (by omega)
  have hhigh := rd_range (oct N K) 0 T
  have hlow := rd_range (oct N K) T (K - T)
  clear hp32
  generalize hxs : oct N K = xs at *
  have HXS := hide hxs
  clear hxs
  go_wp2_with fail
  refine (new_any A4 xs c4 w4 (unhide HF4).holds hol).mono ?_
  rintro e w5 ⟨g5, A5, c5, rfl, hR5, hg5, hrow5, hk5⟩
  have HR5 := hide hR5
  have hg5l := hR5.1.lt
  have HK5 := hide hk5
  have HROW5 := hide hrow5
  clear hR5 hk5 hrow5
  go_wp2_with fail
  refine (new_any A4 xs c4 w5 ((unhide HF4).holds.keeps (unhide HK5)) hol).mono ?_
  rintro e w6 ⟨g6, A6, c6, rfl, hR6, hg6, hrow6, hk6⟩
  have HR6 := hide hR6
  have HK6 := hide hk6
  have HROW6 := hide hrow6
  clear hR6 hk6 hrow6
  go_wp2_with fail
  refine (awake01_any _).mono ?_
  rintro e w7 ⟨rfl, hk7⟩
  have HK7 := hide hk7
  clear hk7
  go_wp2_with fail
  refine (bytes_st (((((unhide HWV).keeps (unhide HF4).2).keeps (unhide HK5)).keeps (unhide HK6)).keeps (unhide HK7)) (by omega)).mono ?_
  rintro e w8 ⟨A8, c8, rfl, hc8, hf8⟩
  rw [unhide HXS] at hc8 hf8 ⊢
  have HF8 := hide hf8
  clear hf8 hc8
  go_wp2_with fail
  refine (sameBytes_any A4 A8 xs xs c4 c8 _ (((((unhide HF4).holds.keeps (unhide HK5)).keeps (unhide HK6)).keeps (unhide HK7)).keeps (unhide HF8).2) (unhide HF8).holds (unhide HO8) (unhide HO8)).mono ?_
  rintro e w9 ⟨rfl, rfl⟩
  rw [decide_eq_true rfl]
  go_wp2_with fail
  refine (len_st ((((((unhide HWW).keeps (unhide HF4).2).keeps (unhide HK5)).keeps (unhide HK6)).keeps (unhide HK7)).keeps (unhide HF8).2)).mono ?_
  rintro e w9 ⟨rfl, hw9⟩
  rw [hw9]
  clear hw9
  have hR5 := (((unhide HR5).keeps (unhide HK6)).keeps (unhide HK7)).keeps (unhide HF8).2
  have hR6 := ((unhide HR6).keeps (unhide HK7)).keeps (unhide HF8).2
  have HB4 := hide (rdBits_any K K (by omega) hR5 (unhide HO8) hol (by omega))
  have HR6b := hide hR6
  clear hR5 hR6
  go_wp2_with fail
  with_reducible refine (unhide HB4).mono ?_
  rintro e w9 ⟨rfl, hR9, hf9⟩
  have hR10 := (unhide HR6b).fr hf9 (by omega) (fun e => by cases e) (fun b e => ⟨by have := (unhide HROW6 b e).1; omega, fun h => by cases h⟩)
  have HB5 := hide (rdBits_any T T (by omega) hR10 (unhide HO8) hol (by omega))
  have HF9 := hide hf9
  clear hR9 hf9 hR10
  have e1 : rdVal xs 0 0 K = rd xs 0 K := if_pos ⟨rfl, by rw [Nat.zero_add]; exact unhide HOB⟩
  have e2 : rdVal xs 0 0 T = rd xs 0 T := if_pos ⟨rfl, by have := unhide HOB; omega⟩
  have e3 : rdAt (8 * xs.length) 0 0 T = T := by
    unfold rdAt; rw [if_pos ⟨rfl, by have := unhide HOB; omega⟩, Nat.zero_add]
  have e4 : rdF (8 * xs.length) 0 0 T = 0 := by
    unfold rdF; rw [if_pos rfl, if_pos (by have := unhide HOB; omega)]
  have e5 : rdVal xs T 0 (K - T) = rd xs T (K - T) := if_pos ⟨rfl, by have := unhide HOB; omega⟩
  rw [e1]
  rw [e2, e3, e4] at HB5
  have HE5 := hide e5
  clear e1 e2 e3 e4 e5
  go_wp2_with fail
  with_reducible refine (unhide HB5).mono ?_
  rintro e w10 ⟨rfl, hR10, hf10⟩
  have HB6 := hide (rdBits_any ((K : Int) - T) (K - T) (by omega) hR10 (unhide HO8) hol (by have := unhide HOB; omega))
  rw [unhide HE5] at HB6
  have HF10 := hide hf10
  clear hR10 hf10
  go_wp2_with fail
  with_reducible refine (unhide HB6).mono ?_
  rintro e w11 ⟨rfl, _, hf11⟩
  have HF11 := hide hf11
  clear hf11
  obtain ⟨j1, j2⟩ := unhide HJ
  have HJ2 := hide j2
  generalize rd xs 0 T = hi at *
  generalize rd xs T (K - T) = low at *
  generalize rd xs 0 K = wh at *
  clear j2
  go_wp2
  go_ret
  have hk8 := (((((unhide HK3).trans (unhide HF4).2).trans (unhide HK5)).trans (unhide HK6)).trans (unhide HK7)).trans (unhide HF8).2
  have z4 := ((unhide HK3).trans (unhide HF4).2).size
  have z5 := (unhide HK5).size
  have hk9 := fr_keeps hk8 (unhide HF9) (by omega) (fun b e => by cases e)
  have hk10 := fr_keeps hk9 (unhide HF10) (by omega) (fun b e => by cases e)
  exact ⟨ret_bool (by rw [unhide HJ2]; simp), fr_keeps hk10 (unhide HF11) (by omega) (fun b e => by cases e)⟩
end Go.Proofs.Ytocnmnimlmehgaa
