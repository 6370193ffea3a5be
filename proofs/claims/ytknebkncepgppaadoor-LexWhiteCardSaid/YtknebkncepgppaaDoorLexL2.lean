/- The walk of LexOrder. -/
import Derived.Test.YtknebkncepgppaaDoorLexL1
import Derived.Test.YtknebkncepgppaaDoorLexN6
namespace Go.Proofs.YtknebkncepgppaaDoor
open Go.ChangeShapes Go.WideShapes Go.ChangeAt Go.RowKit Go.PlainAid
set_option linter.unusedVariables false
set_option linter.unusedSimpArgs false

theorem tok_blk {w : World} {k a : Int} {x : ByteArray} (t : TypeId) : (w.alloc (.cells #[.int .i64 k, .string x, .int .i64 a] t)).cell? ⟨w.heap.size, 0, none⟩ = some (.int .i64 k) ∧ (w.alloc (.cells #[.int .i64 k, .string x, .int .i64 a] t)).cell? ⟨w.heap.size, 1, none⟩ = some (.string x) ∧ (w.alloc (.cells #[.int .i64 k, .string x, .int .i64 a] t)).cell? ⟨w.heap.size, 2, none⟩ = some (.int .i64 a) := by
  have := Blk.new w t #[.int .i64 k, .string x, .int .i64 a]
  exact ⟨this.cell 0, this.cell 1, this.cell 2⟩

set_option maxRecDepth 100000 in
set_option maxHeartbeats 8000000 in
theorem lexOrder_any {W : World} (hL : LexW W) (s : ByteArray) :
    Calls Tryd.prog 5 #[.string s] W fun e w' => e = .returned (.bool true) ∧ Keeps W w' := by
  have HAw := hide (fun (w1 : World) (hk : Keeps W w1) => awake04_any (hL.keeps hk))
  by_cases h1 : 9000 < s.size
  · have h1I : (9000 : Int) < (s.size : Int) := by omega
    go_enter Tryd.func5, Tryd.ntmps5
    go_wp2_with fail
    refine (unhide HAw _ (Keeps.refl _)).mono ?_
    rintro e w1 ⟨rfl, hk⟩
    go_wp2
    go_ret
    exact ⟨rfl, hk⟩
  have h1I : ¬ (9000 : Int) < (s.size : Int) := by omega
  have hsz : s.size ≤ 9000 := by omega
  clear h1
  cases ht : toks s with
  | error px =>
    obtain ⟨p, x⟩ := px
    have HT1 := hide (tokens_any hL s (by omega))
    rw [ht] at HT1
    have hpe := toks_err ht
    have hpI : (p : Int) ≤ (s.size : Int) := by omega
    have hx := hpe.2
    have hx0 : (x != 0) = true := by rw [bne_iff_ne]; exact hx
    clear hL ht hpe hx
    go_enter Tryd.func5, Tryd.ntmps5
    go_wp2_with fail
    refine (unhide HT1).mono ?_
    rintro e w1 ⟨rfl, hk⟩
    have HK := hide hk
    clear hk
    go_wp2_with fail
    refine (unhide HAw _ (unhide HK)).mono ?_
    rintro e w2 ⟨rfl, hk2⟩
    have HK2 := hide ((unhide HK).trans hk2)
    clear hk2
    go_wp2_with fail
    refine (unhide HAw _ (unhide HK2)).mono ?_
    rintro e w3 ⟨rfl, hk3⟩
    have HK3 := hide ((unhide HK2).trans hk3)
    clear hk3
    go_wp2
    go_ret
    exact ⟨rfl, unhide HK3⟩
  | ok l =>
    have HT1 := hide (tokens_any hL s (by omega))
    rw [ht] at HT1
    have hlst := toks_lst ht
    have hpos := lst_pos hlst
    have hlen : l.length ≤ 9001 := by
      have := tokR_len s
      rw [tokR, ht] at this
      exact Nat.le_trans this (by omega)
    have HLS := hide hlst
    clear hL ht hlst
    go_enter Tryd.func5, Tryd.ntmps5
    go_wp2_with fail
    refine (unhide HT1).mono ?_
    rintro e w1 ⟨A, c, rfl, ho, hk⟩
    obtain ⟨b, o, rfl, hb, hcell⟩ := (holdsK_of_own ho).cells hpos
    have HK := hide hk
    have HC := hide hcell
    clear hk ho hcell
    go_wp2_with fail
    refine (unhide HAw _ (unhide HK)).mono ?_
    rintro e w2 ⟨rfl, hk2⟩
    have HK2 := hide ((unhide HK).trans hk2)
    have HKb := hide hk2
    clear hk2
    generalize hnn : l.length = n at *
    have HN := hide hnn
    clear hnn
    have hb2 : b < w2.heap.size := Nat.lt_of_lt_of_le hb (unhide HKb).size
    go_wp2
    go_loopg [6, 7, 8] n (fun k iv (_ : Value) (_ : Value) wr => ∃ j : Nat, iv = .int .i64 (j : Nat) ∧ j ≤ n ∧ k = n - j ∧ Keeps w2 wr)
    case atStart => exact ⟨0, rfl, Nat.zero_le _, rfl, Keeps.refl _⟩
    case round =>
      obtain ⟨j, rfl, hj, hk, hkw⟩ := hrel
      have HKJ := hide hk
      have HKW := hide hkw
      have hbr : b < wr.heap.size := Nat.lt_of_lt_of_le hb2 hkw.size
      clear hk hkw
      have HCW := hide (fun k t (h : l[k]? = some t) => (show wr.cell? ⟨b, o + k * 3, none⟩ = some (.int .i64 t.1) ∧ wr.cell? ⟨b, o + k * 3 + 1, none⟩ = some (.string t.2.1) ∧ wr.cell? ⟨b, o + k * 3 + 2, none⟩ = some (.int .i64 (t.2.2 : Nat)) from
        have h3 := unhide HC k t h
        have hkk := (unhide HKb).trans (unhide HKW)
        ⟨(Below.cell (p := ⟨b, _, none⟩) hkk hb).trans h3.1, (Below.cell (p := ⟨b, _, none⟩) hkk hb).trans h3.2.1, (Below.cell (p := ⟨b, _, none⟩) hkk hb).trans h3.2.2⟩))
      by_cases hlt : j < n
      · have hltI : (j : Int) < (n : Int) := by omega
        obtain ⟨⟨kd, x, a⟩, ht⟩ : ∃ t, l[j]? = some t := ⟨_, List.getElem?_eq_getElem (show j < l.length by rw [unhide HN]; exact hlt)⟩
        have hat := lst_at (unhide HLS) j _ ht
        rw [unhide HN] at hat
        obtain ⟨d0, d1, d2⟩ := unhide HCW j _ ht
        obtain ⟨-, ha, hend, hpl, -⟩ := hat
        replace ha : a ≤ s.size := ha
        replace hend : kd = 0 ↔ j + 1 = n := hend
        have haI : ¬ ((s.size : Int) < (a : Int)) := by omega
        have HD0 := hide (show decide ((a : Int) < 0) = false from decide_eq_false (by omega))
        have HD1 := hide (show decide (s.size < a) = false from decide_eq_false (by omega))
        have hprev : 0 < j → ∃ t, l[j - 1]? = some t ∧ t.2.2 < a := by
          intro h0
          obtain ⟨u, hu⟩ : ∃ u, l[j - 1]? = some u := ⟨_, List.getElem?_eq_getElem (show j - 1 < l.length by rw [unhide HN]; omega)⟩
          exact ⟨u, hu, lst_next (unhide HLS) (j - 1) u _ hu (by rw [show j - 1 + 1 = j by omega]; exact ht)⟩
        have HP := hide hprev
        have HPL := hide hpl
        have hend2 : (kd = 0 ∧ n = j + 1) ∨ ((kd == 0) = false ∧ (((j : Int) + 1) == (n : Int)) = false) := by
          by_cases q : kd = 0
          · exact .inl ⟨q, (hend.1 q).symm⟩
          · exact .inr ⟨beq_eq_false_iff_ne.2 q, beq_eq_false_iff_ne.2 fun h => q (hend.2 (by omega))⟩
        clear hend hprev hpl ht
        by_cases hj0 : j = 0
        · subst hj0
          simp only [Nat.zero_mul, Nat.add_zero] at d0 d1 d2
          clear HP
          rcases hend2 with ⟨rfl, hen⟩ | ⟨hk0, hen⟩
          · obtain rfl : n = 1 := hen
            have HB := hide (tok_blk (w := wr) (k := 0) (a := (a : Nat)) (x := x) 29)
            have HKN := hide ((unhide HKW).alloc (.cells #[.int .i64 0, .string x, .int .i64 (a : Nat)] 29))
            go_wp2
            obtain ⟨f0, f1, f2⟩ := unhide HB
            generalize hW1 : wr.alloc (.cells #[.int .i64 0, .string x, .int .i64 (a : Nat)] 29) = W1 at *
            clear hW1
            have hd0 := unhide HD0
            have hd1 := unhide HD1
            go_big_quiet (fail)
            go_wp2
            go_big_quiet (fail)
            go_wp2
            go_roundg (1 - (0 + 1))
            case measure => have := unhide HKJ; omega
            case rel => exact ⟨0 + 1, rfl, by omega, rfl, (unhide HKN).drewN _⟩
          · by_cases k4 : kd = 4
            · subst k4
              have HB := hide (tok_blk (w := wr) (k := 4) (a := (a : Nat)) (x := x) 29)
              have HKN := hide ((unhide HKW).alloc (.cells #[.int .i64 4, .string x, .int .i64 (a : Nat)] 29))
              go_wp2
              obtain ⟨f0, f1, f2⟩ := unhide HB
              generalize hW1 : wr.alloc (.cells #[.int .i64 4, .string x, .int .i64 (a : Nat)] 29) = W1 at *
              clear hW1
              have hd0 := unhide HD0
              have hd1 := unhide HD1
              go_big_quiet (fail)
              go_wp2
              go_big_quiet (fail)
              go_wp2
              go_roundg (n - (0 + 1))
              case measure => have := unhide HKJ; omega
              case rel => exact ⟨0 + 1, rfl, by omega, rfl, (unhide HKN).drewN _⟩
            · by_cases k7 : kd = 7
              · subst k7
                have HB := hide (tok_blk (w := wr) (k := 7) (a := (a : Nat)) (x := x) 29)
                have HKN := hide ((unhide HKW).alloc (.cells #[.int .i64 7, .string x, .int .i64 (a : Nat)] 29))
                go_wp2
                obtain ⟨f0, f1, f2⟩ := unhide HB
                generalize hW1 : wr.alloc (.cells #[.int .i64 7, .string x, .int .i64 (a : Nat)] 29) = W1 at *
                clear hW1
                have hd0 := unhide HD0
                have hd1 := unhide HD1
                go_big_quiet (fail)
                go_wp2
                go_big_quiet (fail)
                go_wp2
                go_roundg (n - (0 + 1))
                case measure => have := unhide HKJ; omega
                case rel => exact ⟨0 + 1, rfl, by omega, rfl, (unhide HKN).drewN _⟩
              · have k4b : (kd != 4) = true := by rw [bne_iff_ne]; exact k4
                have k7b : (kd != 7) = true := by rw [bne_iff_ne]; exact k7
                have k0b : (kd != 0) = true := by rw [bne_iff_ne]; exact beq_eq_false_iff_ne.1 hk0
                have hpp := unhide HPL k4 k7 (beq_eq_false_iff_ne.1 hk0)
                have hp1 : a + x.size ≤ s.size := hpp.1
                have hp2 : s.extract a (a + x.size) = x := hpp.2
                have hq1 : ¬ ((s.size : Int) - (a : Int) < (x.size : Int)) := by omega
                have HD3 := hide (show decide ((s.size : Int) - (a : Int) < (x.size : Int)) = false from decide_eq_false hq1)
                have hq2 : (a : Int) + (x.size : Int) ≤ (s.size : Int) := by omega
                have hq3 : (a : Int) ≤ (a : Int) + (x.size : Int) := by omega
                have hq4 : ((a : Int) + (x.size : Int)).toNat = a + x.size := by omega
                have hq5 : (0 : Int) ≤ (a : Int) + (x.size : Int) := by omega
                clear k4 k7 hpp
                have HB := hide (tok_blk (w := wr) (k := kd) (a := (a : Nat)) (x := x) 29)
                have HKN := hide ((unhide HKW).alloc (.cells #[.int .i64 kd, .string x, .int .i64 (a : Nat)] 29))
                go_wp2
                obtain ⟨f0, f1, f2⟩ := unhide HB
                generalize hW1 : wr.alloc (.cells #[.int .i64 kd, .string x, .int .i64 (a : Nat)] 29) = W1 at *
                clear hW1
                have hd0 := unhide HD0
                have hd1 := unhide HD1
                go_big_quiet (fail)
                go_wp2
                have hd3 := unhide HD3
                go_big_quiet (fail)
                go_wp2
                go_roundg (n - (0 + 1))
                case measure => have := unhide HKJ; omega
                case rel => exact ⟨0 + 1, rfl, by omega, rfl, (unhide HKN).drewN _⟩
        · obtain ⟨⟨uk, ux, ua⟩, hu, hua⟩ := unhide HP (by omega)
          have p2 := (unhide HCW (j - 1) _ hu).2.2
          replace p2 : wr.cell? ⟨b, o + (j - 1) * 3 + 2, none⟩ = some (.int .i64 (ua : Nat)) := p2
          have hua2 : ¬ ((a : Int) ≤ (ua : Int)) := by have : ua < a := hua; omega
          have hjI : (0 : Int) < (j : Int) := by omega
          have HD4 := hide (show decide ((0 : Int) < (j : Int)) = true from decide_eq_true (by omega))
          have HD5 := hide (show decide (0 < j) = true from decide_eq_true (by omega))
          have HD2 := hide (show decide (a ≤ ua) = false from decide_eq_false (by omega))
          have hj2 : ((j : Int) - 1).toNat = j - 1 := by omega
          have hj3 : (0 : Int) ≤ (j : Int) - 1 := by omega
          have hj4 : (j : Int) - 1 < (n : Int) := by omega
          clear hu hua HP
          rcases hend2 with ⟨rfl, hen⟩ | ⟨hk0, hen⟩
          · obtain rfl : n = j + 1 := hen
            have HB := hide (tok_blk (w := wr) (k := 0) (a := (a : Nat)) (x := x) 29)
            have HKN := hide ((unhide HKW).alloc (.cells #[.int .i64 0, .string x, .int .i64 (a : Nat)] 29))
            go_wp2
            obtain ⟨f0, f1, f2⟩ := unhide HB
            have g2 := (World.cell?_alloc_lt wr (.cells #[.int .i64 0, .string x, .int .i64 (a : Nat)] 29) ⟨b, o + (j - 1) * 3 + 2, none⟩ hbr).trans p2
            generalize hW1 : wr.alloc (.cells #[.int .i64 0, .string x, .int .i64 (a : Nat)] 29) = W1 at *
            clear hW1
            have hd0 := unhide HD0
            have hd1 := unhide HD1
            have hd2 := unhide HD2
            have hd4 := unhide HD4
            have hd5 := unhide HD5
            go_big_quiet (fail)
            go_wp2
            go_big_quiet (fail)
            go_wp2
            go_roundg (j + 1 - (j + 1))
            case measure => have := unhide HKJ; omega
            case rel => exact ⟨j + 1, rfl, by omega, rfl, (unhide HKN).drewN _⟩
          · by_cases k4 : kd = 4
            · subst k4
              have HB := hide (tok_blk (w := wr) (k := 4) (a := (a : Nat)) (x := x) 29)
              have HKN := hide ((unhide HKW).alloc (.cells #[.int .i64 4, .string x, .int .i64 (a : Nat)] 29))
              go_wp2
              obtain ⟨f0, f1, f2⟩ := unhide HB
              have g2 := (World.cell?_alloc_lt wr (.cells #[.int .i64 4, .string x, .int .i64 (a : Nat)] 29) ⟨b, o + (j - 1) * 3 + 2, none⟩ hbr).trans p2
              generalize hW1 : wr.alloc (.cells #[.int .i64 4, .string x, .int .i64 (a : Nat)] 29) = W1 at *
              clear hW1
              have hd0 := unhide HD0
              have hd1 := unhide HD1
              have hd2 := unhide HD2
              have hd4 := unhide HD4
              have hd5 := unhide HD5
              go_big_quiet (fail)
              go_wp2
              go_big_quiet (fail)
              go_wp2
              go_roundg (n - (j + 1))
              case measure => have := unhide HKJ; omega
              case rel => exact ⟨j + 1, rfl, by omega, rfl, (unhide HKN).drewN _⟩
            · by_cases k7 : kd = 7
              · subst k7
                have HB := hide (tok_blk (w := wr) (k := 7) (a := (a : Nat)) (x := x) 29)
                have HKN := hide ((unhide HKW).alloc (.cells #[.int .i64 7, .string x, .int .i64 (a : Nat)] 29))
                go_wp2
                obtain ⟨f0, f1, f2⟩ := unhide HB
                have g2 := (World.cell?_alloc_lt wr (.cells #[.int .i64 7, .string x, .int .i64 (a : Nat)] 29) ⟨b, o + (j - 1) * 3 + 2, none⟩ hbr).trans p2
                generalize hW1 : wr.alloc (.cells #[.int .i64 7, .string x, .int .i64 (a : Nat)] 29) = W1 at *
                clear hW1
                have hd0 := unhide HD0
                have hd1 := unhide HD1
                have hd2 := unhide HD2
                have hd4 := unhide HD4
                have hd5 := unhide HD5
                go_big_quiet (fail)
                go_wp2
                go_big_quiet (fail)
                go_wp2
                go_roundg (n - (j + 1))
                case measure => have := unhide HKJ; omega
                case rel => exact ⟨j + 1, rfl, by omega, rfl, (unhide HKN).drewN _⟩
              · have k4b : (kd != 4) = true := by rw [bne_iff_ne]; exact k4
                have k7b : (kd != 7) = true := by rw [bne_iff_ne]; exact k7
                have k0b : (kd != 0) = true := by rw [bne_iff_ne]; exact beq_eq_false_iff_ne.1 hk0
                have hpp := unhide HPL k4 k7 (beq_eq_false_iff_ne.1 hk0)
                have hp1 : a + x.size ≤ s.size := hpp.1
                have hp2 : s.extract a (a + x.size) = x := hpp.2
                have hq1 : ¬ ((s.size : Int) - (a : Int) < (x.size : Int)) := by omega
                have HD3 := hide (show decide ((s.size : Int) - (a : Int) < (x.size : Int)) = false from decide_eq_false hq1)
                have hq2 : (a : Int) + (x.size : Int) ≤ (s.size : Int) := by omega
                have hq3 : (a : Int) ≤ (a : Int) + (x.size : Int) := by omega
                have hq4 : ((a : Int) + (x.size : Int)).toNat = a + x.size := by omega
                have hq5 : (0 : Int) ≤ (a : Int) + (x.size : Int) := by omega
                clear k4 k7 hpp
                have HB := hide (tok_blk (w := wr) (k := kd) (a := (a : Nat)) (x := x) 29)
                have HKN := hide ((unhide HKW).alloc (.cells #[.int .i64 kd, .string x, .int .i64 (a : Nat)] 29))
                go_wp2
                obtain ⟨f0, f1, f2⟩ := unhide HB
                have g2 := (World.cell?_alloc_lt wr (.cells #[.int .i64 kd, .string x, .int .i64 (a : Nat)] 29) ⟨b, o + (j - 1) * 3 + 2, none⟩ hbr).trans p2
                generalize hW1 : wr.alloc (.cells #[.int .i64 kd, .string x, .int .i64 (a : Nat)] 29) = W1 at *
                clear hW1
                have hd0 := unhide HD0
                have hd1 := unhide HD1
                have hd2 := unhide HD2
                have hd4 := unhide HD4
                have hd5 := unhide HD5
                go_big_quiet (fail)
                go_wp2
                have hd3 := unhide HD3
                go_big_quiet (fail)
                go_wp2
                go_roundg (n - (j + 1))
                case measure => have := unhide HKJ; omega
                case rel => exact ⟨j + 1, rfl, by omega, rfl, (unhide HKN).drewN _⟩
      · obtain rfl : j = n := by omega
        obtain ⟨⟨kd, x, a⟩, ht⟩ : ∃ t, l[j - 1]? = some t := ⟨_, List.getElem?_eq_getElem (show j - 1 < l.length by rw [unhide HN]; omega)⟩
        have hat := lst_at (unhide HLS) (j - 1) _ ht
        rw [unhide HN] at hat
        have hae : a = s.size := hat.2.2.2.2 (by omega)
        have p2 := (unhide HCW (j - 1) _ ht).2.2
        replace p2 : wr.cell? ⟨b, o + (j - 1) * 3 + 2, none⟩ = some (.int .i64 (s.size : Nat)) := by rw [← hae]; exact p2
        have hj5 : ((j - 1 : Nat) : Int) = (j : Int) - 1 := by omega
        have hj0I : (1 : Int) ≤ (j : Int) := by omega
        have hj2 : ((j : Int) - 1).toNat = j - 1 := by omega
        have hj3 : (0 : Int) ≤ (j : Int) - 1 := by omega
        have hj4 : (j : Int) - 1 < (j : Int) := by omega
        clear hat hae ht hj5
        go_wp2
        go_ret
        exact ⟨rfl, (unhide HK2).trans (unhide HKW)⟩
end Go.Proofs.YtknebkncepgppaaDoor
