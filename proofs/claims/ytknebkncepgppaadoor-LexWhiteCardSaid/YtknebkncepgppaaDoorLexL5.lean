/- The walk of LexNames. -/
import Derived.Test.YtknebkncepgppaaDoorLexL3
import Derived.Test.YtknebkncepgppaaDoorLexN8
import Derived.Test.YtknebkncepgppaaDoorRowsI
namespace Go.Proofs.YtknebkncepgppaaDoor
open Go.ChangeShapes Go.WideShapes Go.ChangeAt Go.RowKit Go.PlainAid
set_option linter.unusedVariables false
set_option linter.unusedSimpArgs false

theorem five_cells (w : World) : ∀ k x, ([⟨#[98]⟩, ⟨#[55]⟩, ⟨#[45, 99]⟩, ⟨#[90]⟩, ⟨#[45, 57]⟩] : List ByteArray)[k]? = some x → (w.alloc (.cells #[.string ⟨#[98]⟩, .string ⟨#[55]⟩, .string ⟨#[45, 99]⟩, .string ⟨#[90]⟩, .string ⟨#[45, 57]⟩] 9)).cell? ⟨w.heap.size, k, none⟩ = some (.string x) := by
  intro k x h
  rw [Blk.cell (Blk.new w 9 _) k]
  rw [show (#[.string ⟨#[98]⟩, .string ⟨#[55]⟩, .string ⟨#[45, 99]⟩, .string ⟨#[90]⟩, .string ⟨#[45, 57]⟩] : Array Value) = (([⟨#[98]⟩, ⟨#[55]⟩, ⟨#[45, 99]⟩, ⟨#[90]⟩, ⟨#[45, 57]⟩] : List ByteArray).map Value.string).toArray from rfl, List.getElem?_toArray, List.getElem?_map, h]; rfl
def startB (m : Bool) : ByteArray := if m = true then ⟨#[65]⟩ else ⟨#[97]⟩
def startC (m : Bool) : UInt8 := if m = true then 65 else 97
theorem startC_or (m : Bool) : startC m = 65 ∨ startC m = 97 := by cases m <;> simp [startC]
theorem start_ni (m : Bool) : NI (startC m) (startB m).data.toList := by cases m <;> exact start_ok _ rfl
theorem ni_step {c0 : UInt8} {s t : ByteArray} {m : List UInt8} (h : NI c0 s.data.toList) (hm : NL m) (h0 : m[0]? ≠ some 85) (ht : t.data.toList = m) : NI c0 (s ++ t).data.toList := by
  rw [ByteArray.toList_data_append, ht]; exact h.append hm h0

set_option maxRecDepth 100000 in
set_option maxHeartbeats 8000000 in
theorem lexNames_any {W : World} (hL : LexW W) (A : Option Addr) (n c : Nat) (f : Nat → Int) (m : Bool) (d : Int) (hr : Row1 W A n (fun i => .int .i64 (f i))) (hn : n ≤ maxLen) (d0 : -9223372036854775808 ≤ d) (d1 : d ≤ 9223372036854775807) :
    Calls Tryd.prog 8 #[.slice A n c, .bool m, .int .i64 d] W fun e w' => e = .returned (.bool true) ∧ Keeps W w' := by
  unfold maxLen at hn
  have HAw := hide (fun (w1 : World) (hk : Keeps W w1) => awake04_any (hL.keeps hk))
  have HTok := hide (fun (w1 : World) (hk : Keeps W w1) (s : ByteArray) (hs : s.size ≤ 1000) => tokens_any (hL.keeps hk) s (by omega))
  have HR := hide hr
  clear hL hr
  cases m
  · have HN0 := hide (start_ok 97 rfl)
    go_enter Tryd.func8, Tryd.ntmps8
    go_wp2
    go_loopg [7, 8] n (fun k sv iv wr => ∃ (j : Nat) (s : ByteArray), iv = .int .i64 (j : Nat) ∧ sv = .string s ∧ j ≤ n ∧ k = n - j ∧ j ≤ 20 ∧ s.size ≤ 1 + 2 * j ∧ Keeps W wr ∧ NI 97 s.data.toList)
    case atStart => exact ⟨0, _, rfl, rfl, Nat.zero_le _, rfl, by omega, Nat.le_refl _, Keeps.refl _, unhide HN0⟩
    case round =>
      obtain ⟨j, s, rfl, rfl, hj, hk, hj2, hss, hkw, hni⟩ := hrel
      have HK := hide hk
      have HKW := hide hkw
      have HNI := hide hni
      clear hk hkw hni
      by_cases hgo : j < n ∧ j < 20
      · obtain ⟨g1, g2⟩ := hgo
        have g1I : (j : Int) < (n : Int) := by omega
        have g2I : (j : Int) < 20 := by omega
        obtain ⟨b, o, rfl, hb, hcell⟩ := ((unhide HR).keeps (unhide HKW)) j g1
        replace hcell : wr.cell? ⟨b, o + j, none⟩ = some (.int .i64 (f j)) := hcell
        have H5 := hide (five_cells wr)
        have hcell5 := (World.cell?_alloc_lt wr (.cells #[.string ⟨#[98]⟩, .string ⟨#[55]⟩, .string ⟨#[45, 99]⟩, .string ⟨#[90]⟩, .string ⟨#[45, 57]⟩] 9) ⟨b, o + j, none⟩ hb).trans hcell
        have HKN := hide ((unhide HKW).alloc (.cells #[.string ⟨#[98]⟩, .string ⟨#[55]⟩, .string ⟨#[45, 99]⟩, .string ⟨#[90]⟩, .string ⟨#[45, 57]⟩] 9))
        have hr0 : 0 ≤ (f j % 18446744073709551616) % 5 ∧ (f j % 18446744073709551616) % 5 < 5 := by omega
        have hrw : (IntKind.u64.wrap (f j)).tmod 5 = (f j % 18446744073709551616) % 5 := by rw [IntKind.wrap_u64, Int.tmod_eq_emod_of_nonneg (by omega)]
        have hrw2 : IntKind.u64.wrap (f j) % 5 = (f j % 18446744073709551616) % 5 := by rw [IntKind.wrap_u64]
        generalize (f j % 18446744073709551616) % 5 = r at *
        have hsz1 : ¬ (9223372036854775807 < s.size + 1) := by omega
        have hsz2 : ¬ (9223372036854775807 < s.size + 2) := by omega
        have hr5 : r = 0 ∨ r = 1 ∨ r = 2 ∨ r = 3 ∨ r = 4 := by omega
        rcases hr5 with rfl | rfl | rfl | rfl | rfl
        all_goals
          have k0 := unhide H5 0 _ rfl
          have k1 := unhide H5 1 _ rfl
          have k2 := unhide H5 2 _ rfl
          have k3 := unhide H5 3 _ rfl
          have k4 := unhide H5 4 _ rfl
          go_wp2
          go_roundg (n - (j + 1))
          case measure => have := unhide HK; omega
          case rel =>
            first
              | exact ⟨j + 1, _, rfl, rfl, by omega, rfl, by omega, by rw [ByteArray.size_append]; show s.size + 1 ≤ _; omega, unhide HKN, ni_step (unhide HNI) (part_ok 0).1 (part_ok 0).2.1 rfl⟩
              | exact ⟨j + 1, _, rfl, rfl, by omega, rfl, by omega, by rw [ByteArray.size_append]; show s.size + 1 ≤ _; omega, unhide HKN, ni_step (unhide HNI) (part_ok 1).1 (part_ok 1).2.1 rfl⟩
              | exact ⟨j + 1, _, rfl, rfl, by omega, rfl, by omega, by rw [ByteArray.size_append]; show s.size + 2 ≤ _; omega, unhide HKN, ni_step (unhide HNI) (part_ok 2).1 (part_ok 2).2.1 rfl⟩
              | exact ⟨j + 1, _, rfl, rfl, by omega, rfl, by omega, by rw [ByteArray.size_append]; show s.size + 1 ≤ _; omega, unhide HKN, ni_step (unhide HNI) (part_ok 3).1 (part_ok 3).2.1 rfl⟩
              | exact ⟨j + 1, _, rfl, rfl, by omega, rfl, by omega, by rw [ByteArray.size_append]; show s.size + 2 ≤ _; omega, unhide HKN, ni_step (unhide HNI) (part_ok 4).1 (part_ok 4).2.1 rfl⟩
      · have hstop : ¬ ((j : Int) < (n : Int)) ∨ ((j : Int) < (n : Int) ∧ ¬ ((j : Int) < 20)) := by omega
        have hss2 : s.size ≤ 41 := by omega
        rcases hstop with g1 | ⟨g1, g2⟩
        all_goals
          go_wp2
          go_loopg [7, 9] (((d % 18446744073709551616) % 70).toNat) (fun k sv iv W2 => ∃ (t : Nat) (s2 : ByteArray), iv = .int .i64 (t : Nat) ∧ sv = .string s2 ∧ k = t ∧ t ≤ 70 ∧ s2.size + t ≤ 111 ∧ wr = W2 ∧ NI 97 s2.data.toList)
          case atStart => exact ⟨_, s, by rw [IntKind.wrap_u64, Int.tmod_eq_emod_of_nonneg (by omega)]; congr 1; simp only [wrap64]; omega, rfl, rfl, by omega, by omega, rfl, unhide HNI⟩
          case round =>
            obtain ⟨t, s2, rfl, rfl, hkt, ht, hst, rfl, hni2⟩ := hrel
            have HKT := hide hkt
            have HN2 := hide hni2
            have hsz1 : ¬ (9223372036854775807 < s2.size + 1) := by omega
            clear hkt hni2
            by_cases ht0 : 0 < t
            · have ht0I : (0 : Int) < (t : Int) := by omega
              go_wp2
              go_roundg (t - 1)
              case measure => have := unhide HKT; omega
              case rel => exact ⟨t - 1, _, by congr 1; omega, rfl, rfl, by omega, by rw [ByteArray.size_append]; show s2.size + 1 + _ ≤ _; omega, rfl, ni_step (unhide HN2) x_ok.1 x_ok.2 rfl⟩
            · have ht0I : ¬ (0 : Int) < (t : Int) := by omega
              have hs3 : s2.size ≤ 111 := by omega
              have hcc1 : ¬ (9223372036854775807 < 2 + s2.size) := by omega
              have hcc2 : ¬ (9223372036854775807 < (({ data := #[66, 32] } : ByteArray) ++ s2).size + 1) := by
                rw [ByteArray.size_append]; show ¬ (9223372036854775807 < 2 + s2.size + 1); omega
              have hb3 : (bndB s2).size ≤ 1000 := by rw [Lib.size_eq, bndB_list]; have := Lib.size_eq s2; simp; omega
              have HT2 := hide (fun (w1 : World) (hk : Keeps W w1) => (show Calls Tryd.prog 10 #[.string ((({ data := #[66, 32] } : ByteArray) ++ s2) ++ { data := #[45] })] w1 (GivesToks (.error (2, 6)) w1) by rw [← toks_bnd (c0 := 97) (by decide) (unhide HN2) (by omega)]; exact unhide HTok w1 hk (bndB s2) hb3))
              clear hb3
              by_cases h60 : s2.size ≤ 60
              · have h60I : ¬ (60 : Int) < (s2.size : Int) := by omega
                have HT1 := hide (fun (w1 : World) (hk : Keeps W w1) => (show Calls Tryd.prog 10 #[.string s2] w1 (GivesToks (.ok [(2, s2, 0), (0, ⟨#[]⟩, s2.size)]) w1) by have hq : toks s2 = .ok [(2, s2, 0), (0, ⟨#[]⟩, s2.size)] := (by have hq := toks_name (c0 := 97) (by decide) (unhide HN2) h60; simpa using hq); rw [← hq]; exact unhide HTok w1 hk s2 (by omega)))
                go_wp2_with fail
                refine (unhide HT1 _ (unhide HKW)).mono ?_
                rintro e w2 ⟨A2, c2, rfl, ho, hk2⟩
                obtain ⟨b, o, rfl, hb, hc⟩ := (holdsK_of_own ho).cells (by simp)
                have HK2 := hide ((unhide HKW).trans hk2)
                have HC := hide (hc 0 _ rfl)
                clear ho hk2 hc
                simp only [List.length_cons, List.length_nil] at *
                go_wp2_with fail
                refine (unhide HT2 _ (unhide HK2)).mono ?_
                rintro e w4 ⟨rfl, hk4⟩
                have HK4 := hide ((unhide HK2).trans hk4)
                have hb4 : b < w4.heap.size := Nat.lt_of_lt_of_le hb hk4.size
                have HC4 := hide (show w4.cell? ⟨b, o, none⟩ = some (.int .i64 2) ∧ w4.cell? ⟨b, o + 1, none⟩ = some (.string s2) ∧ w4.cell? ⟨b, o + 2, none⟩ = some (.int .i64 0) from
                  have h := unhide HC
                  ⟨(Below.cell (p := ⟨b, _, none⟩) hk4 hb).trans h.1, (Below.cell (p := ⟨b, _, none⟩) hk4 hb).trans h.2.1, (Below.cell (p := ⟨b, _, none⟩) hk4 hb).trans h.2.2⟩)
                clear hk4
                go_wp2_with fail
                refine (unhide HAw _ (unhide HK4)).mono ?_
                rintro e w5 ⟨rfl, hk5⟩
                have HK5 := hide ((unhide HK4).trans hk5)
                have hC5 : w5.cell? ⟨b, o, none⟩ = some (.int .i64 2) ∧ w5.cell? ⟨b, o + 1, none⟩ = some (.string s2) ∧ w5.cell? ⟨b, o + 2, none⟩ = some (.int .i64 0) :=
                  have h := unhide HC4
                  ⟨(Below.cell (p := ⟨b, _, none⟩) hk5 hb4).trans h.1, (Below.cell (p := ⟨b, _, none⟩) hk5 hb4).trans h.2.1, (Below.cell (p := ⟨b, _, none⟩) hk5 hb4).trans h.2.2⟩
                obtain ⟨f0, f1, f2⟩ := hC5
                clear hk5
                go_wp2
                go_ret
                exact ⟨by simp, unhide HK5⟩
              · have h60I : (60 : Int) < (s2.size : Int) := by omega
                have HT1 := hide (fun (w1 : World) (hk : Keeps W w1) => (show Calls Tryd.prog 10 #[.string s2] w1 (GivesToks (.error (0, 6)) w1) by rw [← toks_long (c0 := 97) (by decide) (unhide HN2) (by omega) (by omega)]; exact unhide HTok w1 hk s2 (by omega)))
                go_wp2_with fail
                refine (unhide HT1 _ (unhide HKW)).mono ?_
                rintro e w2 ⟨rfl, hk2⟩
                have HK2 := hide ((unhide HKW).trans hk2)
                clear hk2
                go_wp2_with fail
                refine (unhide HT2 _ (unhide HK2)).mono ?_
                rintro e w4 ⟨rfl, hk4⟩
                have HK4 := hide ((unhide HK2).trans hk4)
                clear hk4
                go_wp2_with fail
                refine (unhide HAw _ (unhide HK4)).mono ?_
                rintro e w5 ⟨rfl, hk5⟩
                have HK5 := hide ((unhide HK4).trans hk5)
                clear hk5
                go_wp2
                go_ret
                exact ⟨by simp, unhide HK5⟩
  · have HN0 := hide (start_ok 65 rfl)
    go_enter Tryd.func8, Tryd.ntmps8
    go_wp2
    go_loopg [7, 8] n (fun k sv iv wr => ∃ (j : Nat) (s : ByteArray), iv = .int .i64 (j : Nat) ∧ sv = .string s ∧ j ≤ n ∧ k = n - j ∧ j ≤ 20 ∧ s.size ≤ 1 + 2 * j ∧ Keeps W wr ∧ NI 65 s.data.toList)
    case atStart => exact ⟨0, _, rfl, rfl, Nat.zero_le _, rfl, by omega, Nat.le_refl _, Keeps.refl _, unhide HN0⟩
    case round =>
      obtain ⟨j, s, rfl, rfl, hj, hk, hj2, hss, hkw, hni⟩ := hrel
      have HK := hide hk
      have HKW := hide hkw
      have HNI := hide hni
      clear hk hkw hni
      by_cases hgo : j < n ∧ j < 20
      · obtain ⟨g1, g2⟩ := hgo
        have g1I : (j : Int) < (n : Int) := by omega
        have g2I : (j : Int) < 20 := by omega
        obtain ⟨b, o, rfl, hb, hcell⟩ := ((unhide HR).keeps (unhide HKW)) j g1
        replace hcell : wr.cell? ⟨b, o + j, none⟩ = some (.int .i64 (f j)) := hcell
        have H5 := hide (five_cells wr)
        have hcell5 := (World.cell?_alloc_lt wr (.cells #[.string ⟨#[98]⟩, .string ⟨#[55]⟩, .string ⟨#[45, 99]⟩, .string ⟨#[90]⟩, .string ⟨#[45, 57]⟩] 9) ⟨b, o + j, none⟩ hb).trans hcell
        have HKN := hide ((unhide HKW).alloc (.cells #[.string ⟨#[98]⟩, .string ⟨#[55]⟩, .string ⟨#[45, 99]⟩, .string ⟨#[90]⟩, .string ⟨#[45, 57]⟩] 9))
        have hr0 : 0 ≤ (f j % 18446744073709551616) % 5 ∧ (f j % 18446744073709551616) % 5 < 5 := by omega
        have hrw : (IntKind.u64.wrap (f j)).tmod 5 = (f j % 18446744073709551616) % 5 := by rw [IntKind.wrap_u64, Int.tmod_eq_emod_of_nonneg (by omega)]
        have hrw2 : IntKind.u64.wrap (f j) % 5 = (f j % 18446744073709551616) % 5 := by rw [IntKind.wrap_u64]
        generalize (f j % 18446744073709551616) % 5 = r at *
        have hsz1 : ¬ (9223372036854775807 < s.size + 1) := by omega
        have hsz2 : ¬ (9223372036854775807 < s.size + 2) := by omega
        have hr5 : r = 0 ∨ r = 1 ∨ r = 2 ∨ r = 3 ∨ r = 4 := by omega
        rcases hr5 with rfl | rfl | rfl | rfl | rfl
        all_goals
          have k0 := unhide H5 0 _ rfl
          have k1 := unhide H5 1 _ rfl
          have k2 := unhide H5 2 _ rfl
          have k3 := unhide H5 3 _ rfl
          have k4 := unhide H5 4 _ rfl
          go_wp2
          go_roundg (n - (j + 1))
          case measure => have := unhide HK; omega
          case rel =>
            first
              | exact ⟨j + 1, _, rfl, rfl, by omega, rfl, by omega, by rw [ByteArray.size_append]; show s.size + 1 ≤ _; omega, unhide HKN, ni_step (unhide HNI) (part_ok 0).1 (part_ok 0).2.1 rfl⟩
              | exact ⟨j + 1, _, rfl, rfl, by omega, rfl, by omega, by rw [ByteArray.size_append]; show s.size + 1 ≤ _; omega, unhide HKN, ni_step (unhide HNI) (part_ok 1).1 (part_ok 1).2.1 rfl⟩
              | exact ⟨j + 1, _, rfl, rfl, by omega, rfl, by omega, by rw [ByteArray.size_append]; show s.size + 2 ≤ _; omega, unhide HKN, ni_step (unhide HNI) (part_ok 2).1 (part_ok 2).2.1 rfl⟩
              | exact ⟨j + 1, _, rfl, rfl, by omega, rfl, by omega, by rw [ByteArray.size_append]; show s.size + 1 ≤ _; omega, unhide HKN, ni_step (unhide HNI) (part_ok 3).1 (part_ok 3).2.1 rfl⟩
              | exact ⟨j + 1, _, rfl, rfl, by omega, rfl, by omega, by rw [ByteArray.size_append]; show s.size + 2 ≤ _; omega, unhide HKN, ni_step (unhide HNI) (part_ok 4).1 (part_ok 4).2.1 rfl⟩
      · have hstop : ¬ ((j : Int) < (n : Int)) ∨ ((j : Int) < (n : Int) ∧ ¬ ((j : Int) < 20)) := by omega
        have hss2 : s.size ≤ 41 := by omega
        rcases hstop with g1 | ⟨g1, g2⟩
        all_goals
          go_wp2
          go_loopg [7, 9] (((d % 18446744073709551616) % 70).toNat) (fun k sv iv W2 => ∃ (t : Nat) (s2 : ByteArray), iv = .int .i64 (t : Nat) ∧ sv = .string s2 ∧ k = t ∧ t ≤ 70 ∧ s2.size + t ≤ 111 ∧ wr = W2 ∧ NI 65 s2.data.toList)
          case atStart => exact ⟨_, s, by rw [IntKind.wrap_u64, Int.tmod_eq_emod_of_nonneg (by omega)]; congr 1; simp only [wrap64]; omega, rfl, rfl, by omega, by omega, rfl, unhide HNI⟩
          case round =>
            obtain ⟨t, s2, rfl, rfl, hkt, ht, hst, rfl, hni2⟩ := hrel
            have HKT := hide hkt
            have HN2 := hide hni2
            have hsz1 : ¬ (9223372036854775807 < s2.size + 1) := by omega
            clear hkt hni2
            by_cases ht0 : 0 < t
            · have ht0I : (0 : Int) < (t : Int) := by omega
              go_wp2
              go_roundg (t - 1)
              case measure => have := unhide HKT; omega
              case rel => exact ⟨t - 1, _, by congr 1; omega, rfl, rfl, by omega, by rw [ByteArray.size_append]; show s2.size + 1 + _ ≤ _; omega, rfl, ni_step (unhide HN2) x_ok.1 x_ok.2 rfl⟩
            · have ht0I : ¬ (0 : Int) < (t : Int) := by omega
              have hs3 : s2.size ≤ 111 := by omega
              have hcc1 : ¬ (9223372036854775807 < 2 + s2.size) := by omega
              have hcc2 : ¬ (9223372036854775807 < (({ data := #[66, 32] } : ByteArray) ++ s2).size + 1) := by
                rw [ByteArray.size_append]; show ¬ (9223372036854775807 < 2 + s2.size + 1); omega
              have hb3 : (bndB s2).size ≤ 1000 := by rw [Lib.size_eq, bndB_list]; have := Lib.size_eq s2; simp; omega
              have HT2 := hide (fun (w1 : World) (hk : Keeps W w1) => (show Calls Tryd.prog 10 #[.string ((({ data := #[66, 32] } : ByteArray) ++ s2) ++ { data := #[45] })] w1 (GivesToks (.error (2, 6)) w1) by rw [← toks_bnd (c0 := 65) (by decide) (unhide HN2) (by omega)]; exact unhide HTok w1 hk (bndB s2) hb3))
              clear hb3
              by_cases h60 : s2.size ≤ 60
              · have h60I : ¬ (60 : Int) < (s2.size : Int) := by omega
                have HT1 := hide (fun (w1 : World) (hk : Keeps W w1) => (show Calls Tryd.prog 10 #[.string s2] w1 (GivesToks (.ok [(1, s2, 0), (0, ⟨#[]⟩, s2.size)]) w1) by have hq : toks s2 = .ok [(1, s2, 0), (0, ⟨#[]⟩, s2.size)] := (by have hq := toks_name (c0 := 65) (by decide) (unhide HN2) h60; simpa using hq); rw [← hq]; exact unhide HTok w1 hk s2 (by omega)))
                go_wp2_with fail
                refine (unhide HT1 _ (unhide HKW)).mono ?_
                rintro e w2 ⟨A2, c2, rfl, ho, hk2⟩
                obtain ⟨b, o, rfl, hb, hc⟩ := (holdsK_of_own ho).cells (by simp)
                have HK2 := hide ((unhide HKW).trans hk2)
                have HC := hide (hc 0 _ rfl)
                clear ho hk2 hc
                simp only [List.length_cons, List.length_nil] at *
                go_wp2_with fail
                refine (unhide HT2 _ (unhide HK2)).mono ?_
                rintro e w4 ⟨rfl, hk4⟩
                have HK4 := hide ((unhide HK2).trans hk4)
                have hb4 : b < w4.heap.size := Nat.lt_of_lt_of_le hb hk4.size
                have HC4 := hide (show w4.cell? ⟨b, o, none⟩ = some (.int .i64 1) ∧ w4.cell? ⟨b, o + 1, none⟩ = some (.string s2) ∧ w4.cell? ⟨b, o + 2, none⟩ = some (.int .i64 0) from
                  have h := unhide HC
                  ⟨(Below.cell (p := ⟨b, _, none⟩) hk4 hb).trans h.1, (Below.cell (p := ⟨b, _, none⟩) hk4 hb).trans h.2.1, (Below.cell (p := ⟨b, _, none⟩) hk4 hb).trans h.2.2⟩)
                clear hk4
                go_wp2_with fail
                refine (unhide HAw _ (unhide HK4)).mono ?_
                rintro e w5 ⟨rfl, hk5⟩
                have HK5 := hide ((unhide HK4).trans hk5)
                have hC5 : w5.cell? ⟨b, o, none⟩ = some (.int .i64 1) ∧ w5.cell? ⟨b, o + 1, none⟩ = some (.string s2) ∧ w5.cell? ⟨b, o + 2, none⟩ = some (.int .i64 0) :=
                  have h := unhide HC4
                  ⟨(Below.cell (p := ⟨b, _, none⟩) hk5 hb4).trans h.1, (Below.cell (p := ⟨b, _, none⟩) hk5 hb4).trans h.2.1, (Below.cell (p := ⟨b, _, none⟩) hk5 hb4).trans h.2.2⟩
                obtain ⟨f0, f1, f2⟩ := hC5
                clear hk5
                go_wp2
                go_ret
                exact ⟨by simp, unhide HK5⟩
              · have h60I : (60 : Int) < (s2.size : Int) := by omega
                have HT1 := hide (fun (w1 : World) (hk : Keeps W w1) => (show Calls Tryd.prog 10 #[.string s2] w1 (GivesToks (.error (0, 6)) w1) by rw [← toks_long (c0 := 65) (by decide) (unhide HN2) (by omega) (by omega)]; exact unhide HTok w1 hk s2 (by omega)))
                go_wp2_with fail
                refine (unhide HT1 _ (unhide HKW)).mono ?_
                rintro e w2 ⟨rfl, hk2⟩
                have HK2 := hide ((unhide HKW).trans hk2)
                clear hk2
                go_wp2_with fail
                refine (unhide HT2 _ (unhide HK2)).mono ?_
                rintro e w4 ⟨rfl, hk4⟩
                have HK4 := hide ((unhide HK2).trans hk4)
                clear hk4
                go_wp2_with fail
                refine (unhide HAw _ (unhide HK4)).mono ?_
                rintro e w5 ⟨rfl, hk5⟩
                have HK5 := hide ((unhide HK4).trans hk5)
                clear hk5
                go_wp2
                go_ret
                exact ⟨by simp, unhide HK5⟩
end Go.Proofs.YtknebkncepgppaaDoor
