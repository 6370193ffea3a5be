/- The walk of LexStrings. -/
import Derived.Test.YtknebkncepgppaaDoorLexL3
import Derived.Test.YtknebkncepgppaaDoorLexN9
import Derived.Test.YtknebkncepgppaaDoorArgB
namespace Go.Proofs.YtknebkncepgppaaDoor
open Go.ChangeShapes Go.WideShapes Go.ChangeAt Go.RowKit Go.PlainAid
set_option linter.unusedVariables false
set_option linter.unusedSimpArgs false

def hexS : ByteArray := ⟨#[48, 49, 50, 51, 52, 53, 54, 55, 56, 57, 65, 66, 67, 68, 69, 70]⟩
def hexC (v : Nat) : UInt8 := hexS.data.toList.getD v 0
theorem hexC_hex (v : Nat) (h : v < 16) : isHex ((hexC v).toNat : Int) = true := by
  have : ∀ w : Fin 16, isHex ((hexC w.1).toNat : Int) = true := by decide
  exact this ⟨v, h⟩
theorem hex_cut (v : Nat) (h : v < 16) : (hexS.extract v (v + 1)).data.toList = [hexC v] := by
  have : ∀ w : Fin 16, (hexS.extract w.1 (w.1 + 1)).data.toList = [hexC w.1] := by decide
  exact this ⟨v, h⟩
/-- The digits of 16 of bytes. -/
def hexL : List Int → List UInt8
  | [] => []
  | x :: r => hexC (x / 16).toNat :: hexC (x % 16).toNat :: hexL r
theorem hexL_snoc (l : List Int) (x : Int) : hexL (l ++ [x]) = hexL l ++ [hexC (x / 16).toNat, hexC (x % 16).toNat] := by
  induction l with
  | nil => rfl
  | cons y r ih => simp [hexL, ih]
theorem hexL_len (l : List Int) : (hexL l).length = 2 * l.length := by
  induction l with
  | nil => rfl
  | cons y r ih => simp only [hexL, List.length_cons, ih]; omega
theorem hexL_all (l : List Int) (h : ∀ x ∈ l, 0 ≤ x ∧ x ≤ 255) : AllHex (hexL l) := by
  induction l with
  | nil => intro k c hk; simp [hexL] at hk
  | cons y r ih =>
    intro k c hk
    have hy := h y (by simp)
    match k with
    | 0 => simp [hexL] at hk; subst hk; exact hexC_hex _ (by omega)
    | 1 => simp [hexL] at hk; subst hk; exact hexC_hex _ (by omega)
    | k + 2 => exact ih (fun x hx => h x (by simp [hx])) k c (by simpa [hexL] using hk)

set_option maxRecDepth 100000 in
set_option maxHeartbeats 8000000 in
theorem lexStrings_any {W : World} (hL : LexW W) (s : ByteArray) (A : Option Addr) (xs : List Int) (c : Nat) (hh : Holds W A xs) (hx : Bytes8 xs) (hl : xs.length ≤ maxLen) (hz : s.size ≤ maxLen) :
    Calls Tryd.prog 7 #[.string s, .slice A xs.length c] W fun e w' => e = .returned (.bool true) ∧ Keeps W w' := by
  unfold maxLen at hl hz
  have HAw := hide (fun (w1 : World) (hk : Keeps W w1) => awake04_any (hL.keeps hk))
  have HVs := hide (Tryd.utf8_ValidString s W (by omega) hL.1)
  generalize hn : xs.length = n at *
  have HN := hide hn
  have HTok := hide (fun (w1 : World) (hk : Keeps W w1) (s : ByteArray) (hs : s.size ≤ 2000) => tokens_any (hL.keeps hk) s (by omega))
  clear hL hn
  by_cases h1 : 500 < s.size
  · have h1I : (500 : Int) < (s.size : Int) := by omega
    go_enter Tryd.func7, Tryd.ntmps7
    go_wp2_with fail
    refine (unhide HAw _ (Keeps.refl _)).mono ?_
    rintro e w1 ⟨rfl, hk⟩
    go_wp2
    go_ret
    exact ⟨rfl, hk⟩
  have h1I : ¬ (500 : Int) < (s.size : Int) := by omega
  by_cases h2 : 200 < n
  · have h2I : (200 : Int) < (n : Int) := by omega
    go_enter Tryd.func7, Tryd.ntmps7
    go_wp2_with fail
    refine (unhide HAw _ (Keeps.refl _)).mono ?_
    rintro e w1 ⟨rfl, hk⟩
    go_wp2
    go_ret
    exact ⟨rfl, hk⟩
  have h2I : ¬ (200 : Int) < (n : Int) := by omega
  cases hv : Lib.validD s.data.toList with
  | false =>
    rw [hv] at HVs
    go_enter Tryd.func7, Tryd.ntmps7
    go_wp2_with fail
    refine (unhide HVs).mono ?_
    rintro e w1 ⟨rfl, hk⟩
    have HK := hide (show Keeps W w1 from hk)
    clear hk
    go_wp2_with fail
    refine (unhide HAw _ (unhide HK)).mono ?_
    rintro e w2 ⟨rfl, hk⟩
    have HK2 := hide ((unhide HK).trans hk)
    clear hk
    go_wp2
    go_ret
    exact ⟨rfl, unhide HK2⟩
  | true =>
    rw [hv] at HVs
    have HV := hide hv
    have HH := hide hh
    have HX := hide hx
    clear hv hh hx
    have hsL : s.data.toList.length = s.size := (Lib.size_eq s).symm
    have HSL := hide hsL
    clear hsL
    go_enter Tryd.func7, Tryd.ntmps7
    go_wp2_with fail
    refine (unhide HVs).mono ?_
    rintro e w1 ⟨rfl, hk⟩
    have HK := hide (show Keeps W w1 from hk)
    clear hk
    go_wp2
    go_loopg [5, 6] s.size (fun k sv iv wr => ∃ (j : Nat) (t : ByteArray), iv = .int .i64 (j : Nat) ∧ sv = .string t ∧ j ≤ s.size ∧ k = s.size - j ∧ w1 = wr ∧ t.data.toList = 34 :: esc (s.data.toList.take j))
    case atStart => exact ⟨0, _, rfl, rfl, Nat.zero_le _, rfl, rfl, rfl⟩
    case round =>
      obtain ⟨j, t, rfl, rfl, hj, hkj, rfl, ht⟩ := hrel
      have HKJ := hide hkj
      have htz : t.size ≤ 1 + 2 * j := by
        have := esc_len (s.data.toList.take j)
        rw [List.length_take, unhide HSL] at this
        rw [Lib.size_eq, ht]; simp; omega
      have HT := hide ht
      clear hkj ht
      by_cases hlt : j < s.size
      · have hltI : (j : Int) < (s.size : Int) := by omega
        have hba := get_bt s j hlt
        obtain ⟨cb, hcb⟩ : ∃ cb, s.data.toList[j]? = some cb := ⟨_, List.getElem?_eq_getElem (by rw [unhide HSL]; exact hlt)⟩
        have hbt := dig_of_list hcb
        have htk : s.data.toList.take (j + 1) = s.data.toList.take j ++ [cb] := by rw [List.take_add_one, hcb]; rfl
        have hex : (s.extract j (j + 1)).data.toList = [cb] := by
          have := snoc_one s ⟨#[]⟩ hlt
          rw [ByteArray.toList_data_append, byteAt_of hbt] at this
          simpa using this
        have hez : (s.extract j (j + 1)).size = 1 := by rw [Lib.size_eq, hex]; rfl
        have hs1 : ¬ (9223372036854775807 < t.size + (s.extract j (j + 1)).size) := by omega
        have hs2 : ¬ (9223372036854775807 < (t ++ s.extract j (j + 1)).size + 1) := by rw [ByteArray.size_append]; omega
        have HNQ := hide (show cb ≠ 34 → (t ++ s.extract j (j + 1)).data.toList = 34 :: esc (s.data.toList.take (j + 1)) by
          intro hne
          rw [ByteArray.toList_data_append, unhide HT, hex, htk, esc_append]
          simp [esc, hne])
        have HYQ := hide (show cb = 34 → ((t ++ s.extract j (j + 1)) ++ ⟨#[34]⟩).data.toList = 34 :: esc (s.data.toList.take (j + 1)) by
          intro he
          rw [ByteArray.toList_data_append, ByteArray.toList_data_append, unhide HT, hex, htk, esc_append]
          simp [esc, he])
        clear hex htk hcb hez
        by_cases q : bt s j = 34
        · have hc34 := quo_iff.1 (hbt.symm.trans q)
          rw [q] at hba
          have HY := hide (unhide HYQ hc34)
          clear q hbt
          go_wp2
          go_roundg (s.size - (j + 1))
          case measure => have := unhide HKJ; omega
          case rel => exact ⟨j + 1, _, rfl, rfl, by omega, rfl, rfl, unhide HY⟩
        · have hc34 : cb ≠ 34 := fun e => q (hbt.trans (quo_iff.2 e))
          have q2 : (bt s j == 34) = false := beq_eq_false_iff_ne.2 q
          have HY := hide (unhide HNQ hc34)
          clear q hbt
          go_wp2
          go_roundg (s.size - (j + 1))
          case measure => have := unhide HKJ; omega
          case rel => exact ⟨j + 1, _, rfl, rfl, by omega, rfl, rfl, unhide HY⟩
      · have hltI : ¬ (j : Int) < (s.size : Int) := by omega
        obtain rfl : j = s.size := by omega
        have HTF := hide (show t.data.toList = 34 :: esc s.data.toList by have := unhide HT; rwa [List.take_of_length_le (Nat.le_of_eq (unhide HSL))] at this)
        clear HT
        go_wp2
        go_loopg [7, 8] n (fun k sv iv wr => ∃ (i : Nat) (x : ByteArray), iv = .int .i64 (i : Nat) ∧ sv = .string x ∧ i ≤ n ∧ k = n - i ∧ (∃ m, wr = w1.drewN m) ∧ x.data.toList = hexL (xs.take i))
        case atStart => exact ⟨0, _, rfl, rfl, Nat.zero_le _, rfl, ⟨0, rfl⟩, rfl⟩
        case round =>
          obtain ⟨i, x, rfl, rfl, hi, hki, ⟨m, rfl⟩, hxl⟩ := hrel
          have HKI := hide hki
          have hxz : x.size ≤ 2 * i := by
            have := hexL_len (xs.take i)
            rw [Lib.size_eq, hxl, this, List.length_take]; omega
          have HXL := hide hxl
          clear hki hxl
          by_cases hlt2 : i < n
          · have hlt2I : (i : Int) < (n : Int) := by omega
            obtain ⟨b, o, rfl, hcell⟩ := ((unhide HH).keeps (unhide HK)).at_ (k := i) (by rw [unhide HN]; exact hlt2)
            have hxi := unhide HX (xs.getD i 0) (by rw [show xs.getD i 0 = xs[i]'(by rw [unhide HN]; exact hlt2) by simp [show i < xs.length by rw [unhide HN]; exact hlt2]]; exact List.getElem_mem _)
            have htk : xs.take (i + 1) = xs.take i ++ [xs.getD i 0] := by rw [List.take_add_one, List.getElem?_eq_getElem (by rw [unhide HN]; exact hlt2)]; simp [show i < xs.length by rw [unhide HN]; exact hlt2]
            have HTK := hide htk
            clear htk
            generalize xs.getD i 0 = y at *
            obtain ⟨hy0, hy1⟩ := hxi
            have ha15 := u8_and15 (x := y) hy0 (by omega)
            go_wp2
            go_big_quiet (fail)
            go_wp2
            go_roundg (n - (i + 1))
            case measure => have := unhide HKI; omega
            case rel =>
              refine ⟨i + 1, _, rfl, rfl, by omega, rfl, ⟨_, rfl⟩, ?_⟩
              rw [ByteArray.toList_data_append, ByteArray.toList_data_append, unhide HXL, unhide HTK, hexL_snoc, show (y / 16 + 1).toNat = (y / 16).toNat + 1 by omega, show (y % 16 + 1).toNat = (y % 16).toNat + 1 by omega]
              have e1 := hex_cut (y / 16).toNat (by omega)
              have e2 := hex_cut (y % 16).toNat (by omega)
              unfold hexS at e1 e2
              rw [e1, e2]; simp
          · have hlt2I : ¬ (i : Int) < (n : Int) := by omega
            obtain rfl : i = n := by omega
            have HXF := hide (show x.data.toList = hexL xs by have := unhide HXL; rwa [List.take_of_length_le (Nat.le_of_eq (unhide HN))] at this)
            clear HXL
            have hq1 : ¬ (9223372036854775807 < t.size + 1) := by omega
            have hq2 : ¬ (9223372036854775807 < 1 + x.size) := by omega
            have hq3 : ¬ (9223372036854775807 < (({ data := #[39] } : ByteArray) ++ x).size + 2) := by rw [ByteArray.size_append]; show ¬ (9223372036854775807 < 1 + x.size + 2); omega
            have HT1 := hide (fun (w1 : World) (hk : Keeps W w1) => (show Calls Tryd.prog 10 #[.string (t ++ ({ data := #[34] } : ByteArray))] w1 (GivesToks (.ok [(7, s, 0), (0, ⟨#[]⟩, (t ++ ({ data := #[34] } : ByteArray)).size)]) w1) by
              rw [← toks_quoted (t := t ++ ({ data := #[34] } : ByteArray)) (x := s) (by rw [ByteArray.toList_data_append, unhide HTF]; rfl) (by omega) (unhide HV)]
              exact unhide HTok w1 hk _ (by rw [ByteArray.size_append]; show t.size + 1 ≤ 2000; omega)))
            have HT2 := hide (fun (w1 : World) (hk : Keeps W w1) => (show Calls Tryd.prog 10 #[.string ((({ data := #[39] } : ByteArray) ++ x) ++ { data := #[39, 72] })] w1 (GivesToks (.ok [(4, x, 0), (0, ⟨#[]⟩, ((({ data := #[39] } : ByteArray) ++ x) ++ { data := #[39, 72] }).size)]) w1) by
              rw [← toks_hexs (t := (({ data := #[39] } : ByteArray) ++ x) ++ { data := #[39, 72] }) (x := x) (by rw [ByteArray.toList_data_append, ByteArray.toList_data_append]; rfl) (by omega) (by rw [unhide HXF]; exact hexL_all _ (unhide HX)) (by rw [Lib.size_eq, unhide HXF, hexL_len]; omega)]
              exact unhide HTok w1 hk _ (by rw [ByteArray.size_append, ByteArray.size_append]; show 1 + x.size + 2 ≤ 2000; omega)))
            go_wp2_with fail
            refine (unhide HT1 _ ((unhide HK).drewN m)).mono ?_
            rintro e w2 ⟨A2, c2, rfl, ho, hk2⟩
            obtain ⟨b, o, rfl, hb, hc⟩ := (holdsK_of_own ho).cells (by simp)
            have HK2 := hide (((unhide HK).drewN m).trans hk2)
            have HC := hide (hc 0 _ rfl)
            clear ho hk2 hc
            simp only [List.length_cons, List.length_nil] at *
            go_wp2_with fail
            refine (unhide HT2 _ (unhide HK2)).mono ?_
            rintro e w4 ⟨A4, c4, rfl, ho, hk4⟩
            obtain ⟨b4, o4, rfl, hb4, hc4⟩ := (holdsK_of_own ho).cells (by simp)
            have HK4 := hide ((unhide HK2).trans hk4)
            have HD := hide (hc4 0 _ rfl)
            have hbw : b < w4.heap.size := Nat.lt_of_lt_of_le hb hk4.size
            have HC4 := hide (show w4.cell? ⟨b, o, none⟩ = some (.int .i64 7) ∧ w4.cell? ⟨b, o + 1, none⟩ = some (.string s) ∧ w4.cell? ⟨b, o + 2, none⟩ = some (.int .i64 0) from
              have h := unhide HC
              ⟨(Below.cell (p := ⟨b, _, none⟩) hk4 hb).trans h.1, (Below.cell (p := ⟨b, _, none⟩) hk4 hb).trans h.2.1, (Below.cell (p := ⟨b, _, none⟩) hk4 hb).trans h.2.2⟩)
            clear ho hk4 hc4
            simp only [List.length_cons, List.length_nil] at *
            go_wp2_with fail
            refine (unhide HAw _ (unhide HK4)).mono ?_
            rintro e w5 ⟨rfl, hk5⟩
            have HK5 := hide ((unhide HK4).trans hk5)
            have hC5 : w5.cell? ⟨b, o, none⟩ = some (.int .i64 7) ∧ w5.cell? ⟨b, o + 1, none⟩ = some (.string s) ∧ w5.cell? ⟨b, o + 2, none⟩ = some (.int .i64 0) :=
              have h := unhide HC4
              ⟨(Below.cell (p := ⟨b, _, none⟩) hk5 hbw).trans h.1, (Below.cell (p := ⟨b, _, none⟩) hk5 hbw).trans h.2.1, (Below.cell (p := ⟨b, _, none⟩) hk5 hbw).trans h.2.2⟩
            have hD5 : w5.cell? ⟨b4, o4, none⟩ = some (.int .i64 4) ∧ w5.cell? ⟨b4, o4 + 1, none⟩ = some (.string x) ∧ w5.cell? ⟨b4, o4 + 2, none⟩ = some (.int .i64 0) :=
              have h := unhide HD
              ⟨(Below.cell (p := ⟨b4, _, none⟩) hk5 hb4).trans h.1, (Below.cell (p := ⟨b4, _, none⟩) hk5 hb4).trans h.2.1, (Below.cell (p := ⟨b4, _, none⟩) hk5 hb4).trans h.2.2⟩
            obtain ⟨f0, f1, f2⟩ := hC5
            obtain ⟨d0, d1, d2⟩ := hD5
            clear hk5
            go_wp2
            go_ret
            exact ⟨by simp, unhide HK5⟩
end Go.Proofs.YtknebkncepgppaaDoor
