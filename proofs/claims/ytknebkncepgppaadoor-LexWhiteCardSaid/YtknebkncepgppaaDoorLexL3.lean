/- The walk of LexNumbers. -/
import Derived.Test.YtknebkncepgppaaDoorLexL2
import Derived.Test.YtknebkncepgppaaDoorLexDig
namespace Go.Proofs.YtknebkncepgppaaDoor
open Go.ChangeShapes Go.WideShapes Go.ChangeAt Go.RowKit Go.PlainAid
set_option linter.unusedVariables false
set_option linter.unusedSimpArgs false

theorem number_help (v : Int) (h0 : -9223372036854775808 ≤ v) (h1 : v ≤ 9223372036854775807) (w : World) : Calls Tryd.prog 16 #[.int .i64 v] w fun e w' => e = .returned (.string (numB v)) ∧ Keeps w w' := by
  have HC := hide (fun (x : Int) (n : Nat) (hx : x = (n : Nat)) (hn : n < 18446744073709551616) (w : World) => (show Calls Tryd.prog 17 #[.int .u64 x] w fun e w' => e = .returned (.string (decB n)) ∧ Keeps w w' by subst hx; exact digits_any n n (Nat.le_refl _) hn w))
  by_cases hneg : v < 0
  · have HN := hide (show numB v = (⟨#[45]⟩ : ByteArray) ++ decB v.natAbs by rw [numB, if_pos hneg])
    have hsz : ¬ (9223372036854775807 < (⟨#[45]⟩ : ByteArray).size + (decB v.natAbs).size) := by
      have h2 : (decB v.natAbs).size ≤ 20 := by rw [Lib.size_eq]; exact dec_len 19 _
      have h3 : (⟨#[45]⟩ : ByteArray).size = 1 := rfl
      omega
    have hsz2 : (decB v.natAbs).size ≤ 20 := by rw [Lib.size_eq]; exact dec_len 19 _
    go_enter Tryd.func16, Tryd.ntmps16
    go_wp2_with fail
    refine (unhide HC _ v.natAbs (by omega) (by omega) _).mono ?_
    rintro e w1 ⟨rfl, hk⟩
    have HK := hide hk
    clear hk
    go_wp2
    go_ret
    exact ⟨by rw [unhide HN]; rfl, unhide HK⟩
  · have HN := hide (show numB v = decB v.natAbs by rw [numB, if_neg hneg])
    go_enter Tryd.func16, Tryd.ntmps16
    go_wp2_with fail
    refine (unhide HC _ v.natAbs (by omega) (by omega) _).mono ?_
    rintro e w1 ⟨rfl, hk⟩
    have HK := hide hk
    clear hk
    go_wp2
    go_ret
    exact ⟨by rw [unhide HN]; rfl, unhide HK⟩
def bigB : ByteArray := ⟨#[57, 50, 50, 51, 51, 55, 50, 48, 51, 54, 56, 53, 52, 55, 55, 53, 56, 48, 55]⟩
theorem toks_big0 : toks (bigB ++ decB 0) = .error (0, 6) := by kernel_rfl
theorem toks_big1 : toks (bigB ++ decB 1) = .error (0, 6) := by kernel_rfl
theorem toks_big2 : toks (bigB ++ decB 2) = .error (0, 6) := by kernel_rfl
theorem toks_big3 : toks (bigB ++ decB 3) = .error (0, 6) := by kernel_rfl
theorem toks_big4 : toks (bigB ++ decB 4) = .error (0, 6) := by kernel_rfl
theorem toks_big5 : toks (bigB ++ decB 5) = .error (0, 6) := by kernel_rfl
theorem toks_big6 : toks (bigB ++ decB 6) = .error (0, 6) := by kernel_rfl
theorem toks_big7 : toks (bigB ++ decB 7) = .error (0, 6) := by kernel_rfl
theorem toks_big8 : toks (bigB ++ decB 8) = .error (0, 6) := by kernel_rfl
theorem toks_big9 : toks (bigB ++ decB 9) = .error (0, 6) := by kernel_rfl
theorem toks_big (d : Nat) (h : d < 10) : toks (bigB ++ decB d) = .error (0, 6) := by
  have : d = 0 ∨ d = 1 ∨ d = 2 ∨ d = 3 ∨ d = 4 ∨ d = 5 ∨ d = 6 ∨ d = 7 ∨ d = 8 ∨ d = 9 := by omega
  rcases this with rfl | rfl | rfl | rfl | rfl | rfl | rfl | rfl | rfl | rfl
  · exact toks_big0
  · exact toks_big1
  · exact toks_big2
  · exact toks_big3
  · exact toks_big4
  · exact toks_big5
  · exact toks_big6
  · exact toks_big7
  · exact toks_big8
  · exact toks_big9

set_option maxRecDepth 100000 in
set_option maxHeartbeats 8000000 in
theorem lexNumbers_any {W : World} (hL : LexW W) (v d : Int) (h0 : -9223372036854775808 ≤ v) (h1 : v ≤ 9223372036854775807) (d0 : -9223372036854775808 ≤ d) (d1 : d ≤ 9223372036854775807) :
    Calls Tryd.prog 6 #[.int .i64 v, .int .i64 d] W fun e w' => e = .returned (.bool true) ∧ Keeps W w' := by
  have HAw := hide (fun (w1 : World) (hk : Keeps W w1) => awake04_any (hL.keeps hk))
  have HNu := hide (number_help v h0 h1 W)
  have hns : (numB v).size ≤ 30 := by
    have h2 : (decL 19 v.natAbs).length ≤ 20 := dec_len 19 _
    rw [Lib.size_eq, numB_list, List.length_append]; split <;> simp <;> omega
  have HT1 := hide (fun (w1 : World) (hk : Keeps W w1) => (show Calls Tryd.prog 10 #[.string (numB v)] w1 (GivesToks (.ok [(3, numB v, 0), (0, ⟨#[]⟩, (numB v).size)]) w1) by rw [← toks_numB v h0 h1]; exact tokens_any (hL.keeps hk) (numB v) (by omega)))
  have hr : ((d % 18446744073709551616) % 10).toNat < 10 := by omega
  have HDi := hide (fun (x : Int) (hx : x = (((d % 18446744073709551616) % 10).toNat : Nat)) (w : World) => (show Calls Tryd.prog 17 #[.int .u64 x] w fun e w' => e = .returned (.string (decB ((d % 18446744073709551616) % 10).toNat)) ∧ Keeps w w' by subst hx; exact digits_any _ _ (Nat.le_refl _) (by omega) w))
  have HT2 := hide (fun (w1 : World) (hk : Keeps W w1) => (show Calls Tryd.prog 10 #[.string (bigB ++ decB ((d % 18446744073709551616) % 10).toNat)] w1 (GivesToks (.error (0, 6)) w1) by
    rw [← toks_big _ hr]
    refine tokens_any (hL.keeps hk) _ ?_
    rw [ByteArray.size_append]
    have h2 : (decB ((d % 18446744073709551616) % 10).toNat).size ≤ 20 := by rw [Lib.size_eq]; exact dec_len 19 _
    have h3 : bigB.size = 19 := rfl
    omega))
  have hsum : ¬ (9223372036854775807 < (⟨#[57, 50, 50, 51, 51, 55, 50, 48, 51, 54, 56, 53, 52, 55, 55, 53, 56, 48, 55]⟩ : ByteArray).size + (decB ((d % 18446744073709551616) % 10).toNat).size) := by
    have h2 : (decB ((d % 18446744073709551616) % 10).toNat).size ≤ 20 := by rw [Lib.size_eq]; exact dec_len 19 _
    have h3 : (⟨#[57, 50, 50, 51, 51, 55, 50, 48, 51, 54, 56, 53, 52, 55, 55, 53, 56, 48, 55]⟩ : ByteArray).size = 19 := rfl
    omega
  have hsz2 : (decB ((d % 18446744073709551616) % 10).toNat).size ≤ 20 := by rw [Lib.size_eq]; exact dec_len 19 _
  clear hL hr
  generalize hdd : decB ((d % 18446744073709551616) % 10).toNat = D at *
  clear hdd
  go_enter Tryd.func6, Tryd.ntmps6
  go_wp2_with fail
  refine (unhide HNu).mono ?_
  rintro e w1 ⟨rfl, hk1⟩
  have HK1 := hide hk1
  clear hk1
  generalize numB v = s at *
  go_wp2_with fail
  refine (unhide HT1 _ (unhide HK1)).mono ?_
  rintro e w2 ⟨A, c, rfl, ho, hk2⟩
  obtain ⟨b, o, rfl, hb, hc⟩ := (holdsK_of_own ho).cells (by simp)
  have HK2 := hide ((unhide HK1).trans hk2)
  have HC := hide (hc 0 _ rfl)
  clear ho hk2 hc
  simp only [List.length_cons, List.length_nil] at *
  go_wp2_with fail
  refine (unhide HDi _ ?_ _).mono ?_
  · rw [IntKind.wrap_u64, Int.tmod_eq_emod_of_nonneg (by omega)]; omega
  rintro e w3 ⟨rfl, hk3⟩
  have HK3 := hide ((unhide HK2).trans hk3)
  have hb3 : b < w3.heap.size := Nat.lt_of_lt_of_le hb hk3.size
  have HC3 := hide (show w3.cell? ⟨b, o, none⟩ = some (.int .i64 3) ∧ w3.cell? ⟨b, o + 1, none⟩ = some (.string s) ∧ w3.cell? ⟨b, o + 2, none⟩ = some (.int .i64 0) from
    have h := unhide HC
    ⟨(Below.cell (p := ⟨b, _, none⟩) hk3 hb).trans h.1, (Below.cell (p := ⟨b, _, none⟩) hk3 hb).trans h.2.1, (Below.cell (p := ⟨b, _, none⟩) hk3 hb).trans h.2.2⟩)
  clear hk3
  go_wp2_with fail
  refine (unhide HT2 _ (unhide HK3)).mono ?_
  rintro e w4 ⟨rfl, hk4⟩
  have HK4 := hide ((unhide HK3).trans hk4)
  have hb4 : b < w4.heap.size := Nat.lt_of_lt_of_le hb3 hk4.size
  have HC4 := hide (show w4.cell? ⟨b, o, none⟩ = some (.int .i64 3) ∧ w4.cell? ⟨b, o + 1, none⟩ = some (.string s) ∧ w4.cell? ⟨b, o + 2, none⟩ = some (.int .i64 0) from
    have h := unhide HC3
    ⟨(Below.cell (p := ⟨b, _, none⟩) hk4 hb3).trans h.1, (Below.cell (p := ⟨b, _, none⟩) hk4 hb3).trans h.2.1, (Below.cell (p := ⟨b, _, none⟩) hk4 hb3).trans h.2.2⟩)
  clear hk4
  go_wp2_with fail
  refine (unhide HAw _ (unhide HK4)).mono ?_
  rintro e w5 ⟨rfl, hk5⟩
  have HK5 := hide ((unhide HK4).trans hk5)
  have hC5 : w5.cell? ⟨b, o, none⟩ = some (.int .i64 3) ∧ w5.cell? ⟨b, o + 1, none⟩ = some (.string s) ∧ w5.cell? ⟨b, o + 2, none⟩ = some (.int .i64 0) :=
    have h := unhide HC4
    ⟨(Below.cell (p := ⟨b, _, none⟩) hk5 hb4).trans h.1, (Below.cell (p := ⟨b, _, none⟩) hk5 hb4).trans h.2.1, (Below.cell (p := ⟨b, _, none⟩) hk5 hb4).trans h.2.2⟩
  obtain ⟨f0, f1, f2⟩ := hC5
  clear hk5
  go_wp2
  go_ret
  exact ⟨by simp, unhide HK5⟩
end Go.Proofs.YtknebkncepgppaaDoor
