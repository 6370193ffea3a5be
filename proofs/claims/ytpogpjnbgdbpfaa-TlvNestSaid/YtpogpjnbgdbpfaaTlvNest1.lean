/- The walk of TlvNest. -/
import Derived.Test.YtpogpjnbgdbpfaaTlvCut1
import Derived.Test.YtpogpjnbgdbpfaaBack
import Derived.Test.YtpogpjnbgdbpfaaRowsI
namespace Go.Proofs.Ytpogpjnbgdbpfaa
open Go.ChangeShapes Go.WideShapes Go.ChangeAt Go.RowKit

def nestN (f : Nat → Int) (k : Nat) : Int := IntKind.u64.wrap (f k) % 5000
theorem nestN_range (f : Nat → Int) (k : Nat) : 0 ≤ nestN f k ∧ nestN f k < 5000 := by unfold nestN; omega
/-- What stands after k rounds. -/
def nestO (f : Nat → Int) (xs : List Int) : Nat → List Int
  | 0 => xs
  | k + 1 => eOct 2 (nestN f k) true (nestO f xs k)
theorem nestO_len (f : Nat → Int) (xs : List Int) : ∀ k, (nestO f xs k).length ≤ xs.length + 20 * k := by
  intro k
  induction k with
  | zero => simp [nestO]
  | succ k ih =>
    have := (eOct_len 2 (nestN f k) true (nestO f xs k)).2.1
    simp only [nestO]; omega
theorem nestO_bytes (f : Nat → Int) (xs : List Int) (hx : B8 xs) : ∀ k, B8 (nestO f xs k) := by
  intro k
  induction k with
  | zero => exact hx
  | succ k ih => exact eOct_bytes _ _ _ _ ih
theorem nest_take (f : Nat → Int) (xs : List Int) (k : Nat) (hk : k ≤ 12) (hl : xs.length ≤ 300) : takeF (nestO f xs (k + 1)) = ((2, nestN f k), true, nestO f xs k, ((nestO f xs (k + 1)).length : Int), 0) := by
  have h := nestN_range f k
  have hb := takeF_back 2 (nestN f k) true (nestO f xs k) [] (by omega) (by omega) (by have := nestO_len f xs k; omega)
  rw [List.append_nil] at hb
  exact hb
/-- The slice v holds what stands after k rounds. -/
def NestR (w0 : World) (f : Nat → Int) (xs : List Int) (k : Nat) (v : Value) (wr : World) : Prop :=
  ∃ B c, v = .slice B (nestO f xs k).length c ∧ (nestO f xs k).length ≤ c ∧ Holds wr B (nestO f xs k) ∧ Keeps w0 wr

set_option maxRecDepth 100000 in
set_option maxHeartbeats 2000000 in
theorem nest_any (A C : Option Addr) (n c d : Nat) (f : Nat → Int) (xs : List Int) (hx : B8 xs) (hl : xs.length ≤ maxLen) (hln : n ≤ maxLen) (w : World) (hr : Row1 w A n (fun i => .int .i64 (f i))) (hh : Holds w C xs) :
    Calls Try.prog 14 #[.slice A n c, .slice C xs.length d] w fun e w' => e = .returned (.bool true) ∧ Keeps w w' := by
  unfold maxLen at hl hln
  by_cases hbad : 12 < n ∨ 300 < xs.length
  · clear hr hh hx
    generalize xs.length = n2 at *
    rcases hbad with hb | hb
    all_goals
      go_enter Try.func14, Try.ntmps14
      go_wp2_with fail
      all_goals first
        | (exfalso; omega)
        | (refine (awake03_any _).mono ?_
           rintro e w1 ⟨rfl, hk1⟩
           have HK1 := hide hk1
           clear hk1
           go_wp2
           go_ret
           exact ⟨rfl, unhide HK1⟩)
  · have h1 : n ≤ 12 := by omega
    have h2 : xs.length ≤ 300 := by omega
    clear hbad
    have hcp := copy_any C xs d (by omega) w hh
    have HCP := hide hcp
    have HC := hide hh
    have HX := hide hx
    have HR := hide hr
    have HL := hide h2
    clear hcp hh hx hr
    generalize hlx : xs.length = n2 at *
    have HLX := hide hlx
    clear hlx
    go_enter Try.func14, Try.ntmps14
    go_wp2_with fail
    refine (unhide HCP).mono ?_
    rintro e w1 ⟨B, g, rfl, hg, hf⟩
    have hst : NestR w f xs 0 (.slice B xs.length g) w1 := ⟨B, g, rfl, hg, hf.holds, hf.2⟩
    rw [unhide HLX] at hst ⊢
    have HST := hide hst
    clear hg hf hst
    go_wp2_with fail
    go_loopw [6, 5] (fun i b wr => ∃ k : Nat, k ≤ n ∧ i = .int .i64 (k : Nat) ∧ NestR w f xs k b wr) (fun i _ _ => n - (intOf i).toNat)
    case atStart => exact ⟨0, by omega, rfl, unhide HST⟩
    case round =>
      obtain ⟨k, hk, rfl, B, c1, rfl, hc1, hB, hkw⟩ := hrel
      have hlen := nestO_len f xs k
      have hlen2 : xs.length ≤ 300 := by rw [unhide HLX]; exact unhide HL
      have HB := hide hB
      have HKW := hide hkw
      clear hB hkw
      by_cases hlt : k < n
      · obtain ⟨b0, o0, rfl, hb0, hcell⟩ := ((unhide HR).keeps (unhide HKW)) k hlt
        simp only at hcell
        obtain ⟨hw0, hw1⟩ := wrap_range (f k)
        have hnn := nestN_range f k
        unfold nestN at hnn
        obtain ⟨hn0, hn1⟩ := hnn
        generalize hm : (nestO f xs k).length = m at *
        have HM := hide hm
        clear hm
        have hes := elem_single wr B (nestO f xs k) c1 m wr.heap.size 2 (IntKind.u64.wrap (f k) % 5000) true (by omega) rfl (unhide HM) (by omega) (unhide HB) (nestO_bytes f xs (unhide HX) k)
        have HES := hide (show Calls Try.prog 41 #[tagV 2 (IntKind.u64.wrap (f k) % 5000), .bool true, .slice (some ⟨wr.heap.size, 0, none⟩) 1 1] (wr.alloc (.cells #[.slice B m c1] 24)) (GivesH (nestO f xs (k + 1)) wr) from hes)
        clear hes
        go_wp2_with fail
        with_reducible refine (unhide HES).mono ?_
        rintro e w2 ⟨D, c2, rfl, hc2, hD, hk2⟩
        have HN := hide (show NestR w f xs (k + 1) (.slice D (nestO f xs (k + 1)).length c2) w2 from ⟨D, c2, rfl, hc2, hD, (unhide HKW).trans hk2⟩)
        clear hc2 hD hk2
        generalize (nestO f xs (k + 1)).length = m2 at *
        go_wp2
        exact ⟨⟨k + 1, by omega, by go_num, unhide HN⟩, by simp [intOf]; omega⟩
      · obtain rfl : k = n := by omega
        clear hlt
        have HN0 := hide (show NestR w f xs k (.slice B (nestO f xs k).length c1) wr from ⟨B, c1, rfl, hc1, unhide HB, unhide HKW⟩)
        clear hlen hlen2 hc1
        generalize (nestO f xs k).length = m0 at *
        go_wp2_with fail
        go_loopw [7, 5] (fun i b wr => ∃ (j : Nat) (p : Int), j ≤ k ∧ i = .int .i64 p ∧ p = (j : Int) - 1 ∧ NestR w f xs j b wr) (fun i _ _ => (intOf i + 1).toNat)
        case atStart => exact ⟨k, (k : Int) - 1, by omega, rfl, rfl, unhide HN0⟩
        case round =>
          obtain ⟨j, p, hj, rfl, hp, D, c2, rfl, hc2, hD, hkw⟩ := hrel
          have hlen := nestO_len f xs j
          have hlen2 : xs.length ≤ 300 := by rw [unhide HLX]; exact unhide HL
          have HKW2 := hide hkw
          have HD := hide hD
          clear hD hkw
          cases j with
          | zero =>
            have hp1 : p < 0 := by omega
            clear hp
            have hD0 : Holds wr D xs := unhide HD
            have hD2 := hide hD0
            have hnl : (nestO f xs 0).length = n2 := unhide HLX
            rw [hnl] at hc2 ⊢
            clear hD0 hnl hlen hlen2
            go_wp2_with fail
            refine (awake03_any _).mono ?_
            rintro e w3 ⟨rfl, hk3⟩
            have HK3 := hide ((unhide HKW2).trans hk3)
            have hsb := sameBytes_any D C xs xs c2 d w3 ((unhide hD2).keeps hk3) ((unhide HC).keeps (unhide HK3)) (unhide HX) (unhide HX)
            rw [unhide HLX, decide_eq_true rfl] at hsb
            have HSB := hide hsb
            clear hsb hk3
            go_wp2_with fail
            with_reducible refine (unhide HSB).mono ?_
            rintro e w4 ⟨rfl, rfl⟩
            go_wp2
            go_ret
            exact ⟨rfl, unhide HK3⟩
          | succ j =>
            obtain rfl : p = (j : Int) := by omega
            clear hp
            have hbs := nestO_bytes f xs (unhide HX) (j + 1)
            have htk := take_any D (nestO f xs (j + 1)) c2 hbs (by unfold maxLen; omega) hc2 wr (unhide HD)
            rw [nest_take f xs j (by omega) hlen2] at htk
            have HTK : Hid (Calls Try.prog 45 #[.slice D (nestO f xs (j + 1)).length c2] wr fun e w' => ∃ G c3, e = .returned (.tuple #[.agg #[.int .i64 2, .int .i64 (IntKind.u64.wrap (f j) % 5000)], .bool true, .slice G (nestO f xs j).length c3, .int .i64 ((nestO f xs (j + 1)).length : Nat), .int .i64 0]) ∧ (nestO f xs j).length ≤ c3 ∧ Holds w' G (nestO f xs j) ∧ Keeps wr w') := by
              refine htk.mono ?_
              rintro e w' ⟨G, c3, rfl, h1, h2, _, h3⟩
              exact ⟨G, c3, rfl, h1, h2, h3⟩
            have hlen0 := nestO_len f xs j
            clear htk hbs
            generalize hm0 : (nestO f xs (j + 1)).length = m0 at *
            clear hm0
            generalize hm1 : (nestO f xs j).length = m1 at *
            have HM1 := hide hm1
            clear hm1
            obtain ⟨b0, o0, rfl, hb0, hcell⟩ := ((unhide HR).keeps (unhide HKW2)) j (by omega)
            simp only at hcell
            obtain ⟨hw0, hw1⟩ := wrap_range (f j)
            have hnn := nestN_range f j
            unfold nestN at hnn
            obtain ⟨hn0, hn1⟩ := hnn
            go_wp2_with fail
            with_reducible refine (unhide HTK).mono ?_
            rintro e w3 ⟨G, c3, rfl, hc3, hG, hk3⟩
            have HN := hide (show NestR w f xs j (.slice G (nestO f xs j).length c3) (w3.alloc (.cells #[.int .i64 2, .int .i64 (nestN f j)] 52)).drew from ⟨G, c3, rfl, by rw [unhide HM1]; exact hc3, (hG : Holds w3 G (nestO f xs j)).keeps (((Keeps.refl _).alloc _).drew), (((unhide HKW2).trans hk3).alloc _).drew⟩)
            rw [unhide HM1] at HN
            unfold nestN at HN
            have hb3 : b0 < w3.heap.size := Nat.lt_of_lt_of_le hb0 hk3.size
            have hcl3 : w3.cell? ⟨b0, o0 + j, none⟩ = some (.int .i64 (f j)) := (Below.cell (p := ⟨b0, o0 + j, none⟩) hk3 hb0).trans hcell
            have hcl4 : (w3.alloc (.cells #[.int .i64 2, .int .i64 (IntKind.u64.wrap (f j) % 5000)] 52)).cell? ⟨b0, o0 + j, none⟩ = some (.int .i64 (f j)) := (Below.cell (p := ⟨b0, o0 + j, none⟩) (show Keeps w3 _ from (Keeps.refl _).alloc _) hb3).trans hcl3
            clear hG hk3 hcell
            go_wp2
            go_region
            go_wp2
            exact ⟨⟨j, (j : Int) - 1, by omega, rfl, rfl, unhide HN⟩, by simp [intOf]⟩
end Go.Proofs.Ytpogpjnbgdbpfaa
