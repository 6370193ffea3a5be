/- The walk of TlvSizes. -/
import Derived.Test.YtpogpjnbgdbpfaaTlvNum
namespace Go.Proofs.Ytpogpjnbgdbpfaa
open Go.ChangeShapes Go.WideShapes Go.ChangeAt Go.RowKit

/-- What the loops count: j times divided, q is left. -/
def Counts (b v : Int) (top L : Nat) (j : Nat) (q : Int) : Prop := 0 ≤ q ∧ q ≤ v ∧ ((j = 0 ∧ q = v) ∨ ∃ f, URel b top L f j q)
theorem counts_start {b v : Int} {top L : Nat} (h : 0 ≤ v) : Counts b v top L 0 v := ⟨h, Int.le_refl _, .inl ⟨rfl, rfl⟩⟩
theorem counts_next {b v : Int} {top L f0 j : Nat} {q : Int} (hb : 1 < b) (h0 : URel b top L f0 1 (v / b)) (h : Counts b v top L j q) (hq : 0 < q) : Counts b v top L (j + 1) (q / b) := by
  obtain ⟨h1, h2, h3⟩ := h
  refine ⟨Int.ediv_nonneg h1 (by omega), Int.le_trans (Int.ediv_le_self b h1) h2, .inr ?_⟩
  rcases h3 with ⟨rfl, rfl⟩ | ⟨f, h3⟩
  · exact ⟨f0, h0⟩
  · exact urel_next hb h3 (by omega)
theorem counts_last {b v : Int} {top L j : Nat} (hv : 0 < v) (h : Counts b v top L j 0) : j = L := by
  obtain ⟨h1, h2, h3⟩ := h
  rcases h3 with ⟨_, h3⟩ | ⟨f, h3⟩
  · omega
  · exact urel_last h3 rfl
theorem counts_le {b v : Int} {top L j : Nat} {q : Int} (ht : 0 < top) (h : Counts b v top L j q) : j ≤ top := by
  obtain ⟨h1, h2, h3⟩ := h
  rcases h3 with ⟨rfl, _⟩ | ⟨f, h3⟩
  · omega
  · exact urel_k h3
theorem half_lt {q b : Int} (hq : 0 < q) (hb : 1 < b) : q / b < q := Int.ediv_lt_self_of_pos_of_ne_one hq (by omega) 
theorem hOct_count (cls v l : Int) (made : Bool) : (hOct cls v made l).length = (if v < 31 then 1 else 1 + gLen v) + (if l < 128 then 1 else 1 + uLen l) := by
  unfold hOct tOct lOct
  rw [List.length_append]
  split <;> split <;> simp [gOct_length, uOct_length] <;> omega

set_option maxHeartbeats 4000000 in
theorem sizes3_small_short (cls number length : Int) (made : Bool) (hs : IntKind.u64.wrap number % 268435457 < 31) (ht : IntKind.u64.wrap length % 2147483648 < 128) (w : World) :
    Calls Try.prog 15 #[.int .i64 cls, .int .i64 number, .int .i64 length, .bool made] w fun e w' => e = .returned (.bool true) ∧ Keeps w w' := by
  have hn := wrap_range number
  have hl := wrap_range length
  obtain ⟨hn0, hn1⟩ := hn
  obtain ⟨hl0, hl1⟩ := hl
  have hv0 : 0 ≤ IntKind.u64.wrap number % 268435457 := by omega
  have hv1 : IntKind.u64.wrap number % 268435457 ≤ 268435456 := by omega
  have hk0 : 0 ≤ IntKind.u64.wrap length % 2147483648 := by omega
  have hk1 : IntKind.u64.wrap length % 2147483648 ≤ 2147483647 := by omega
  have hgl := gLen_le (IntKind.u64.wrap number % 268435457)
  have hul := uLen_le (IntKind.u64.wrap length % 2147483648)
  have HU := hide (show URel 128 10 (gLen (IntKind.u64.wrap number % 268435457)) 9 1 ((IntKind.u64.wrap number % 268435457) / 128) from ⟨by unfold gLen; omega, by omega, by omega, rfl⟩)
  have HW := hide (show URel 256 8 (uLen (IntKind.u64.wrap length % 2147483648)) 7 1 ((IntKind.u64.wrap length % 2147483648) / 256) from ⟨by unfold uLen; omega, by omega, by omega, rfl⟩)
  have hct : ((hOct cls (IntKind.u64.wrap number % 268435457) made (IntKind.u64.wrap length % 2147483648)).length : Int) = 2 := by
    rw [hOct_count, if_pos hs, if_pos ht]; simp; try omega
  have HCT := hide hct
  clear hct
  have hlen := hOct_len cls (IntKind.u64.wrap number % 268435457) (IntKind.u64.wrap length % 2147483648) made
  have hback := takeHeadF_back cls (IntKind.u64.wrap number % 268435457) (IntKind.u64.wrap length % 2147483648) made hv0 hv1 hk0 hk1 []
  rw [List.append_nil] at hback
  have HT := hide hback
  have hby := hOct_bytes cls (IntKind.u64.wrap number % 268435457) (IntKind.u64.wrap length % 2147483648) made hv0 hk0
  have HBY := hide hby
  clear hback hby
  have hH : ∀ w, Calls Try.prog 39 #[tagV cls (IntKind.u64.wrap number % 268435457), .bool made, .int .i64 (IntKind.u64.wrap length % 2147483648)] w (GivesH (hOct cls (IntKind.u64.wrap number % 268435457) made (IntKind.u64.wrap length % 2147483648)) w) := fun w => by
    have := head_any cls (IntKind.u64.wrap number % 268435457) (IntKind.u64.wrap length % 2147483648) made (by omega) (by omega) w
    rwa [show max (IntKind.u64.wrap number % 268435457) 0 = IntKind.u64.wrap number % 268435457 from by omega, show max (IntKind.u64.wrap length % 2147483648) 0 = IntKind.u64.wrap length % 2147483648 from by omega] at this
  have HH := hide hH
  clear hH
  go_enter Try.func15, Try.ntmps15
  go_wp2_with fail
  generalize IntKind.u64.wrap number % 268435457 = v at *
  generalize IntKind.u64.wrap length % 2147483648 = k at *
  clear hn0 hn1 hl0 hl1
  refine (unhide HH _).mono ?_
  rintro e w1 ⟨A, c, rfl, hc, hh, hkp⟩
  have hcall := takeHead_any A _ c (unhide HBY) (by unfold maxLen; omega) hc w1 hh
  rw [unhide HT] at hcall
  unfold headE at hcall
  have HCALL := hide hcall
  have HK1 := hide hkp
  clear hcall hkp hh
  generalize hgn : (hOct cls v made k).length = n at *
  clear hgn
  go_wp2_with fail
  refine (unhide HCALL).mono ?_
  rintro e2 w2 ⟨rfl, hkp⟩
  have HK2 := hide ((unhide HK1).trans hkp)
  clear hkp
  go_wp2_with fail
  refine (awake03_any _).mono ?_
  rintro e3 w3 ⟨rfl, hk3⟩
  have hb := (Blk.new w2 52 #[.int .i64 (cls % 4), .int .i64 v]).keeps hk3
  obtain ⟨hbc, hbf, hbl⟩ := hb.facts
  have hb0 : w3.cell? ⟨w2.heap.size, 0, none⟩ = some (.int .i64 (cls % 4)) := hbc 0
  have hb1 : w3.cell? ⟨w2.heap.size, 1, none⟩ = some (.int .i64 v) := hbc 1
  have hct := unhide HCT
  have hand := i64_and3 cls
  have HK3 := hide (((unhide HK2).alloc _).trans hk3)
  clear hk3 hb
  go_wp2
  go_ret
  exact ⟨rfl, unhide HK3⟩

set_option maxHeartbeats 4000000 in
theorem sizes3_small_long (cls number length : Int) (made : Bool) (hs : IntKind.u64.wrap number % 268435457 < 31) (ht : ¬ IntKind.u64.wrap length % 2147483648 < 128) (w : World) :
    Calls Try.prog 15 #[.int .i64 cls, .int .i64 number, .int .i64 length, .bool made] w fun e w' => e = .returned (.bool true) ∧ Keeps w w' := by
  have hn := wrap_range number
  have hl := wrap_range length
  obtain ⟨hn0, hn1⟩ := hn
  obtain ⟨hl0, hl1⟩ := hl
  have hv0 : 0 ≤ IntKind.u64.wrap number % 268435457 := by omega
  have hv1 : IntKind.u64.wrap number % 268435457 ≤ 268435456 := by omega
  have hk0 : 0 ≤ IntKind.u64.wrap length % 2147483648 := by omega
  have hk1 : IntKind.u64.wrap length % 2147483648 ≤ 2147483647 := by omega
  have hgl := gLen_le (IntKind.u64.wrap number % 268435457)
  have hul := uLen_le (IntKind.u64.wrap length % 2147483648)
  have HU := hide (show URel 128 10 (gLen (IntKind.u64.wrap number % 268435457)) 9 1 ((IntKind.u64.wrap number % 268435457) / 128) from ⟨by unfold gLen; omega, by omega, by omega, rfl⟩)
  have HW := hide (show URel 256 8 (uLen (IntKind.u64.wrap length % 2147483648)) 7 1 ((IntKind.u64.wrap length % 2147483648) / 256) from ⟨by unfold uLen; omega, by omega, by omega, rfl⟩)
  have hct : ((hOct cls (IntKind.u64.wrap number % 268435457) made (IntKind.u64.wrap length % 2147483648)).length : Int) = 2 + (uLen (IntKind.u64.wrap length % 2147483648) : Int) := by
    rw [hOct_count, if_pos hs, if_neg ht]; simp; try omega
  have HCT := hide hct
  clear hct
  have hlen := hOct_len cls (IntKind.u64.wrap number % 268435457) (IntKind.u64.wrap length % 2147483648) made
  have hback := takeHeadF_back cls (IntKind.u64.wrap number % 268435457) (IntKind.u64.wrap length % 2147483648) made hv0 hv1 hk0 hk1 []
  rw [List.append_nil] at hback
  have HT := hide hback
  have hby := hOct_bytes cls (IntKind.u64.wrap number % 268435457) (IntKind.u64.wrap length % 2147483648) made hv0 hk0
  have HBY := hide hby
  clear hback hby
  have hH : ∀ w, Calls Try.prog 39 #[tagV cls (IntKind.u64.wrap number % 268435457), .bool made, .int .i64 (IntKind.u64.wrap length % 2147483648)] w (GivesH (hOct cls (IntKind.u64.wrap number % 268435457) made (IntKind.u64.wrap length % 2147483648)) w) := fun w => by
    have := head_any cls (IntKind.u64.wrap number % 268435457) (IntKind.u64.wrap length % 2147483648) made (by omega) (by omega) w
    rwa [show max (IntKind.u64.wrap number % 268435457) 0 = IntKind.u64.wrap number % 268435457 from by omega, show max (IntKind.u64.wrap length % 2147483648) 0 = IntKind.u64.wrap length % 2147483648 from by omega] at this
  have HH := hide hH
  clear hH
  go_enter Try.func15, Try.ntmps15
  go_wp2_with fail
  generalize IntKind.u64.wrap number % 268435457 = v at *
  generalize IntKind.u64.wrap length % 2147483648 = k at *
  clear hn0 hn1 hl0 hl1
  go_loop [9, 11] (fun n x => ∃ (j : Nat) (q : Int), x = .int .i64 q ∧ n = .int .i64 (2 + (j : Nat)) ∧ Counts 256 (k) 8 (uLen k) j q) (fun _ x => (intOf x).toNat)
  case atStart => exact ⟨0, _, rfl, by simp, counts_start (by omega)⟩
  case round =>
    obtain ⟨j, q, rfl, rfl, hc⟩ := hrel
    have hj := counts_le (by omega) hc
    have hq0 := hc.1
    have hq1 := hc.2.1
    by_cases hq : 0 < q
    · have HC := hide (counts_next (by omega) (unhide HW) hc hq)
      have hlt := half_lt (b := 256) hq (by omega)
      clear hc
      go_wp2
      exact ⟨⟨j + 1, _, rfl, by go_num, unhide HC⟩, by simp [intOf]; omega⟩
    obtain rfl : q = 0 := by omega
    have hjL := counts_last (by omega) hc
    subst hjL
    clear hc hq hq0 hq1
    go_wp2_with fail
    refine (unhide HH _).mono ?_
    rintro e w1 ⟨A, c, rfl, hc, hh, hkp⟩
    have hcall := takeHead_any A _ c (unhide HBY) (by unfold maxLen; omega) hc w1 hh
    rw [unhide HT] at hcall
    unfold headE at hcall
    have HCALL := hide hcall
    have HK1 := hide hkp
    clear hcall hkp hh
    generalize hgn : (hOct cls v made k).length = n at *
    clear hgn
    go_wp2_with fail
    refine (unhide HCALL).mono ?_
    rintro e2 w2 ⟨rfl, hkp⟩
    have HK2 := hide ((unhide HK1).trans hkp)
    clear hkp
    go_wp2_with fail
    refine (awake03_any _).mono ?_
    rintro e3 w3 ⟨rfl, hk3⟩
    have hb := (Blk.new w2 52 #[.int .i64 (cls % 4), .int .i64 v]).keeps hk3
    obtain ⟨hbc, hbf, hbl⟩ := hb.facts
    have hb0 : w3.cell? ⟨w2.heap.size, 0, none⟩ = some (.int .i64 (cls % 4)) := hbc 0
    have hb1 : w3.cell? ⟨w2.heap.size, 1, none⟩ = some (.int .i64 v) := hbc 1
    have hct := unhide HCT
    have hand := i64_and3 cls
    have HK3 := hide (((unhide HK2).alloc _).trans hk3)
    clear hk3 hb
    go_wp2
    go_ret
    exact ⟨rfl, unhide HK3⟩

set_option maxHeartbeats 4000000 in
theorem sizes3_big_short (cls number length : Int) (made : Bool) (hs : ¬ IntKind.u64.wrap number % 268435457 < 31) (ht : IntKind.u64.wrap length % 2147483648 < 128) (w : World) :
    Calls Try.prog 15 #[.int .i64 cls, .int .i64 number, .int .i64 length, .bool made] w fun e w' => e = .returned (.bool true) ∧ Keeps w w' := by
  have hn := wrap_range number
  have hl := wrap_range length
  obtain ⟨hn0, hn1⟩ := hn
  obtain ⟨hl0, hl1⟩ := hl
  have hv0 : 0 ≤ IntKind.u64.wrap number % 268435457 := by omega
  have hv1 : IntKind.u64.wrap number % 268435457 ≤ 268435456 := by omega
  have hk0 : 0 ≤ IntKind.u64.wrap length % 2147483648 := by omega
  have hk1 : IntKind.u64.wrap length % 2147483648 ≤ 2147483647 := by omega
  have hgl := gLen_le (IntKind.u64.wrap number % 268435457)
  have hul := uLen_le (IntKind.u64.wrap length % 2147483648)
  have HU := hide (show URel 128 10 (gLen (IntKind.u64.wrap number % 268435457)) 9 1 ((IntKind.u64.wrap number % 268435457) / 128) from ⟨by unfold gLen; omega, by omega, by omega, rfl⟩)
  have HW := hide (show URel 256 8 (uLen (IntKind.u64.wrap length % 2147483648)) 7 1 ((IntKind.u64.wrap length % 2147483648) / 256) from ⟨by unfold uLen; omega, by omega, by omega, rfl⟩)
  have hct : ((hOct cls (IntKind.u64.wrap number % 268435457) made (IntKind.u64.wrap length % 2147483648)).length : Int) = 2 + (gLen (IntKind.u64.wrap number % 268435457) : Int) := by
    rw [hOct_count, if_neg hs, if_pos ht]; simp; try omega
  have HCT := hide hct
  clear hct
  have hlen := hOct_len cls (IntKind.u64.wrap number % 268435457) (IntKind.u64.wrap length % 2147483648) made
  have hback := takeHeadF_back cls (IntKind.u64.wrap number % 268435457) (IntKind.u64.wrap length % 2147483648) made hv0 hv1 hk0 hk1 []
  rw [List.append_nil] at hback
  have HT := hide hback
  have hby := hOct_bytes cls (IntKind.u64.wrap number % 268435457) (IntKind.u64.wrap length % 2147483648) made hv0 hk0
  have HBY := hide hby
  clear hback hby
  have hH : ∀ w, Calls Try.prog 39 #[tagV cls (IntKind.u64.wrap number % 268435457), .bool made, .int .i64 (IntKind.u64.wrap length % 2147483648)] w (GivesH (hOct cls (IntKind.u64.wrap number % 268435457) made (IntKind.u64.wrap length % 2147483648)) w) := fun w => by
    have := head_any cls (IntKind.u64.wrap number % 268435457) (IntKind.u64.wrap length % 2147483648) made (by omega) (by omega) w
    rwa [show max (IntKind.u64.wrap number % 268435457) 0 = IntKind.u64.wrap number % 268435457 from by omega, show max (IntKind.u64.wrap length % 2147483648) 0 = IntKind.u64.wrap length % 2147483648 from by omega] at this
  have HH := hide hH
  clear hH
  go_enter Try.func15, Try.ntmps15
  go_wp2_with fail
  generalize IntKind.u64.wrap number % 268435457 = v at *
  generalize IntKind.u64.wrap length % 2147483648 = k at *
  clear hn0 hn1 hl0 hl1
  go_loop [9, 10] (fun n x => ∃ (j : Nat) (q : Int), x = .int .i64 q ∧ n = .int .i64 (2 + (j : Nat)) ∧ Counts 128 (v) 10 (gLen v) j q) (fun _ x => (intOf x).toNat)
  case atStart => exact ⟨0, _, rfl, by simp, counts_start (by omega)⟩
  case round =>
    obtain ⟨j, q, rfl, rfl, hc⟩ := hrel
    have hj := counts_le (by omega) hc
    have hq0 := hc.1
    have hq1 := hc.2.1
    by_cases hq : 0 < q
    · have HC := hide (counts_next (by omega) (unhide HU) hc hq)
      have hlt := half_lt (b := 128) hq (by omega)
      clear hc
      go_wp2
      exact ⟨⟨j + 1, _, rfl, by go_num, unhide HC⟩, by simp [intOf]; omega⟩
    obtain rfl : q = 0 := by omega
    have hjL := counts_last (by omega) hc
    subst hjL
    clear hc hq hq0 hq1
    go_wp2_with fail
    refine (unhide HH _).mono ?_
    rintro e w1 ⟨A, c, rfl, hc, hh, hkp⟩
    have hcall := takeHead_any A _ c (unhide HBY) (by unfold maxLen; omega) hc w1 hh
    rw [unhide HT] at hcall
    unfold headE at hcall
    have HCALL := hide hcall
    have HK1 := hide hkp
    clear hcall hkp hh
    generalize hgn : (hOct cls v made k).length = n at *
    clear hgn
    go_wp2_with fail
    refine (unhide HCALL).mono ?_
    rintro e2 w2 ⟨rfl, hkp⟩
    have HK2 := hide ((unhide HK1).trans hkp)
    clear hkp
    go_wp2_with fail
    refine (awake03_any _).mono ?_
    rintro e3 w3 ⟨rfl, hk3⟩
    have hb := (Blk.new w2 52 #[.int .i64 (cls % 4), .int .i64 v]).keeps hk3
    obtain ⟨hbc, hbf, hbl⟩ := hb.facts
    have hb0 : w3.cell? ⟨w2.heap.size, 0, none⟩ = some (.int .i64 (cls % 4)) := hbc 0
    have hb1 : w3.cell? ⟨w2.heap.size, 1, none⟩ = some (.int .i64 v) := hbc 1
    have hct := unhide HCT
    have hand := i64_and3 cls
    have HK3 := hide (((unhide HK2).alloc _).trans hk3)
    clear hk3 hb
    go_wp2
    go_ret
    exact ⟨rfl, unhide HK3⟩

set_option maxHeartbeats 4000000 in
theorem sizes3_big_long (cls number length : Int) (made : Bool) (hs : ¬ IntKind.u64.wrap number % 268435457 < 31) (ht : ¬ IntKind.u64.wrap length % 2147483648 < 128) (w : World) :
    Calls Try.prog 15 #[.int .i64 cls, .int .i64 number, .int .i64 length, .bool made] w fun e w' => e = .returned (.bool true) ∧ Keeps w w' := by
  have hn := wrap_range number
  have hl := wrap_range length
  obtain ⟨hn0, hn1⟩ := hn
  obtain ⟨hl0, hl1⟩ := hl
  have hv0 : 0 ≤ IntKind.u64.wrap number % 268435457 := by omega
  have hv1 : IntKind.u64.wrap number % 268435457 ≤ 268435456 := by omega
  have hk0 : 0 ≤ IntKind.u64.wrap length % 2147483648 := by omega
  have hk1 : IntKind.u64.wrap length % 2147483648 ≤ 2147483647 := by omega
  have hgl := gLen_le (IntKind.u64.wrap number % 268435457)
  have hul := uLen_le (IntKind.u64.wrap length % 2147483648)
  have HU := hide (show URel 128 10 (gLen (IntKind.u64.wrap number % 268435457)) 9 1 ((IntKind.u64.wrap number % 268435457) / 128) from ⟨by unfold gLen; omega, by omega, by omega, rfl⟩)
  have HW := hide (show URel 256 8 (uLen (IntKind.u64.wrap length % 2147483648)) 7 1 ((IntKind.u64.wrap length % 2147483648) / 256) from ⟨by unfold uLen; omega, by omega, by omega, rfl⟩)
  have hct : ((hOct cls (IntKind.u64.wrap number % 268435457) made (IntKind.u64.wrap length % 2147483648)).length : Int) = 2 + (gLen (IntKind.u64.wrap number % 268435457) : Int) + (uLen (IntKind.u64.wrap length % 2147483648) : Int) := by
    rw [hOct_count, if_neg hs, if_neg ht]; simp; try omega
  have HCT := hide hct
  clear hct
  have hlen := hOct_len cls (IntKind.u64.wrap number % 268435457) (IntKind.u64.wrap length % 2147483648) made
  have hback := takeHeadF_back cls (IntKind.u64.wrap number % 268435457) (IntKind.u64.wrap length % 2147483648) made hv0 hv1 hk0 hk1 []
  rw [List.append_nil] at hback
  have HT := hide hback
  have hby := hOct_bytes cls (IntKind.u64.wrap number % 268435457) (IntKind.u64.wrap length % 2147483648) made hv0 hk0
  have HBY := hide hby
  clear hback hby
  have hH : ∀ w, Calls Try.prog 39 #[tagV cls (IntKind.u64.wrap number % 268435457), .bool made, .int .i64 (IntKind.u64.wrap length % 2147483648)] w (GivesH (hOct cls (IntKind.u64.wrap number % 268435457) made (IntKind.u64.wrap length % 2147483648)) w) := fun w => by
    have := head_any cls (IntKind.u64.wrap number % 268435457) (IntKind.u64.wrap length % 2147483648) made (by omega) (by omega) w
    rwa [show max (IntKind.u64.wrap number % 268435457) 0 = IntKind.u64.wrap number % 268435457 from by omega, show max (IntKind.u64.wrap length % 2147483648) 0 = IntKind.u64.wrap length % 2147483648 from by omega] at this
  have HH := hide hH
  clear hH
  go_enter Try.func15, Try.ntmps15
  go_wp2_with fail
  generalize IntKind.u64.wrap number % 268435457 = v at *
  generalize IntKind.u64.wrap length % 2147483648 = k at *
  clear hn0 hn1 hl0 hl1
  go_loop [9, 10] (fun n x => ∃ (j : Nat) (q : Int), x = .int .i64 q ∧ n = .int .i64 (2 + (j : Nat)) ∧ Counts 128 (v) 10 (gLen v) j q) (fun _ x => (intOf x).toNat)
  case atStart => exact ⟨0, _, rfl, by simp, counts_start (by omega)⟩
  case round =>
    obtain ⟨j, q, rfl, rfl, hc⟩ := hrel
    have hj := counts_le (by omega) hc
    have hq0 := hc.1
    have hq1 := hc.2.1
    by_cases hq : 0 < q
    · have HC := hide (counts_next (by omega) (unhide HU) hc hq)
      have hlt := half_lt (b := 128) hq (by omega)
      clear hc
      go_wp2
      exact ⟨⟨j + 1, _, rfl, by go_num, unhide HC⟩, by simp [intOf]; omega⟩
    obtain rfl : q = 0 := by omega
    have hjL := counts_last (by omega) hc
    subst hjL
    clear hc hq hq0 hq1
    go_wp2_with fail
    go_loop [9, 11] (fun n x => ∃ (j : Nat) (q : Int), x = .int .i64 q ∧ n = .int .i64 (2 + (gLen v : Nat) + (j : Nat)) ∧ Counts 256 (k) 8 (uLen k) j q) (fun _ x => (intOf x).toNat)
    case atStart => exact ⟨0, _, rfl, by simp, counts_start (by omega)⟩
    case round =>
      obtain ⟨j, q, rfl, rfl, hc⟩ := hrel
      have hj := counts_le (by omega) hc
      have hq0 := hc.1
      have hq1 := hc.2.1
      by_cases hq : 0 < q
      · have HC := hide (counts_next (by omega) (unhide HW) hc hq)
        have hlt := half_lt (b := 256) hq (by omega)
        clear hc
        go_wp2
        exact ⟨⟨j + 1, _, rfl, by go_num, unhide HC⟩, by simp [intOf]; omega⟩
      obtain rfl : q = 0 := by omega
      have hjL := counts_last (by omega) hc
      subst hjL
      clear hc hq hq0 hq1
      go_wp2_with fail
      refine (unhide HH _).mono ?_
      rintro e w1 ⟨A, c, rfl, hc, hh, hkp⟩
      have hcall := takeHead_any A _ c (unhide HBY) (by unfold maxLen; omega) hc w1 hh
      rw [unhide HT] at hcall
      unfold headE at hcall
      have HCALL := hide hcall
      have HK1 := hide hkp
      clear hcall hkp hh
      generalize hgn : (hOct cls v made k).length = n at *
      clear hgn
      go_wp2_with fail
      refine (unhide HCALL).mono ?_
      rintro e2 w2 ⟨rfl, hkp⟩
      have HK2 := hide ((unhide HK1).trans hkp)
      clear hkp
      go_wp2_with fail
      refine (awake03_any _).mono ?_
      rintro e3 w3 ⟨rfl, hk3⟩
      have hb := (Blk.new w2 52 #[.int .i64 (cls % 4), .int .i64 v]).keeps hk3
      obtain ⟨hbc, hbf, hbl⟩ := hb.facts
      have hb0 : w3.cell? ⟨w2.heap.size, 0, none⟩ = some (.int .i64 (cls % 4)) := hbc 0
      have hb1 : w3.cell? ⟨w2.heap.size, 1, none⟩ = some (.int .i64 v) := hbc 1
      have hct := unhide HCT
      have hand := i64_and3 cls
      have HK3 := hide (((unhide HK2).alloc _).trans hk3)
      clear hk3 hb
      go_wp2
      go_ret
      exact ⟨rfl, unhide HK3⟩

theorem sizes3_any (cls number length : Int) (made : Bool) (w : World) :
    Calls Try.prog 15 #[.int .i64 cls, .int .i64 number, .int .i64 length, .bool made] w fun e w' => e = .returned (.bool true) ∧ Keeps w w' := by
  by_cases hs : IntKind.u64.wrap number % 268435457 < 31 <;> by_cases ht : IntKind.u64.wrap length % 2147483648 < 128
  · exact sizes3_small_short cls number length made hs ht w
  · exact sizes3_small_long cls number length made hs ht w
  · exact sizes3_big_short cls number length made hs ht w
  · exact sizes3_big_long cls number length made hs ht w
end Go.Proofs.Ytpogpjnbgdbpfaa
