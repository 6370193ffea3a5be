/- The walk of LexWhite. -/
import Derived.Test.YtknebkncepgppaaDoorLexL6a
import Derived.Test.YtknebkncepgppaaDoorLexL5
namespace Go.Proofs.YtknebkncepgppaaDoor
open Go.ChangeShapes Go.WideShapes Go.ChangeAt Go.RowKit Go.PlainAid
set_option linter.unusedVariables false
set_option linter.unusedSimpArgs false

theorem refTokens_big {w : World} (s : ByteArray) (hs : 8000 < s.size) (hm : s.size ≤ 9223372036854775807) :
    Calls Tryd.prog 11 #[.string s] w fun e w' => e = .returned (.tuple #[.slice none 0 0, .int .i64 0, .int .i64 5]) ∧ w' = w := by
  have hbI : (8000 : Int) < (s.size : Int) := by omega
  go_enter Tryd.func11, Tryd.ntmps11
  go_wp2
  (try simp only [Exit.inBlock, Exit.then]); refine bodyPost_ret (results_tmp3 rfl _ _ _) rfl ?_
  exact ⟨rfl, rfl⟩
def whB (k : Nat) : ByteArray := ⟨(whL k).toArray⟩
def sixA : Array Value := #[.string ⟨#[32]⟩, .string ⟨#[10]⟩, .string ⟨#[9, 13]⟩, .string ⟨#[32, 45, 45, 32, 114, 101, 109, 97, 114, 107, 10]⟩, .string ⟨#[32, 45, 45, 32, 97, 32, 45, 45, 32]⟩, .string ⟨#[32, 32]⟩]
theorem six_cells (w : World) (k : Nat) (hk : k < 6) : (w.alloc (.cells #[.string ⟨#[32]⟩, .string ⟨#[10]⟩, .string ⟨#[9, 13]⟩, .string ⟨#[32, 45, 45, 32, 114, 101, 109, 97, 114, 107, 10]⟩, .string ⟨#[32, 45, 45, 32, 97, 32, 45, 45, 32]⟩, .string ⟨#[32, 32]⟩] 9)).cell? ⟨w.heap.size, k, none⟩ = some (.string (whB k)) := by
  rw [Blk.cell (Blk.new w 9 _) k]
  have : k = 0 ∨ k = 1 ∨ k = 2 ∨ k = 3 ∨ k = 4 ∨ k = 5 := by omega
  rcases this with rfl | rfl | rfl | rfl | rfl | rfl <;> rfl
theorem whB_list (k : Nat) : (whB k).data.toList = whL k := rfl
/-- Which white space stands ahead of token i. -/
def gapN (m : Nat) (f : Nat → Int) (i : Nat) : Nat := if i < m then ((f i % 18446744073709551616) % 6).toNat else 0
theorem gapN_lt (m : Nat) (f : Nat → Int) (i : Nat) : gapN m f i < 6 := by unfold gapN; split <;> omega

theorem src_size {s : ByteArray} : ∀ {l : List Tok}, Src s l → ∀ (j : Nat) (t : Tok), l[j]? = some t → t.2.1.size ≤ s.size
  | [], h, _, _, _ => h.elim
  | [u], h, j, t, hj => by
    cases j with
    | zero =>
      simp at hj; subst hj
      rw [h.2]; exact Nat.zero_le _
    | succ j => simp at hj
  | u :: r :: q, h, j, t, hj => by
    obtain ⟨h1, _, _, _, ⟨e, h5⟩, h6⟩ := h
    cases j with
    | zero =>
      simp at hj; subst hj
      exact tok_size h1 h5
    | succ j => exact src_size h6 j t (by simpa using hj)
set_option maxRecDepth 100000 in
set_option maxHeartbeats 16000000 in
theorem lexWhite_any {W : World} (hL : LexW W) (s : ByteArray) (A : Option Addr) (m c : Nat) (f : Nat → Int) (hr : Row1 W A m (fun i => .int .i64 (f i))) (hm : m ≤ maxLen) (hz : s.size ≤ maxLen) :
    Calls Tryd.prog 4 #[.string s, .slice A m c] W fun e w' => e = .returned (.bool true) ∧ Keeps W w' := by
  unfold maxLen at hm hz
  have HAw := hide (fun (w1 : World) (hk : Keeps W w1) => awake04_any (hL.keeps hk))
  by_cases hbig : 8000 < s.size
  · have h6I : (600 : Int) < (s.size : Int) := by omega
    have HT := hide (refTokens_big (w := W) s hbig (by omega))
    clear hL hr
    go_enter Tryd.func4, Tryd.ntmps4
    go_wp2_with fail
    refine (unhide HT).mono ?_
    rintro e w1 ⟨rfl, rfl⟩
    go_wp2_with fail
    refine (unhide HAw _ (Keeps.refl _)).mono ?_
    rintro e w2 ⟨rfl, hk⟩
    go_wp2
    go_ret
    exact ⟨rfl, hk⟩
  have HT := hide (refTokens_any hL s (by omega))
  have HTok := hide (fun (w1 : World) (hk : Keeps W w1) (s : ByteArray) (hs : s.size ≤ 1000000) => tokens_any (hL.keeps hk) s (by omega))
  clear hL
  cases ht : toks s with
  | error px =>
    obtain ⟨p, x⟩ := px
    rw [ht] at HT
    have hx := (toks_err ht).2
    have hxb : (x != 0) = true := by rw [bne_iff_ne]; exact hx
    clear hr ht hx
    by_cases h6 : 600 < s.size
    · have h6I : (600 : Int) < (s.size : Int) := by omega
      go_enter Tryd.func4, Tryd.ntmps4
      go_wp2_with fail
      refine (unhide HT).mono ?_
      rintro e w1 ⟨rfl, hk1⟩
      have HK1 := hide hk1
      clear hk1
      go_wp2_with fail
      refine (unhide HAw _ (unhide HK1)).mono ?_
      rintro e w2 ⟨rfl, hk⟩
      have HK2 := hide ((unhide HK1).trans hk)
      clear hk
      go_wp2
      go_ret
      exact ⟨rfl, unhide HK2⟩
    · have h6I : ¬ (600 : Int) < (s.size : Int) := by omega
      go_enter Tryd.func4, Tryd.ntmps4
      go_wp2_with fail
      refine (unhide HT).mono ?_
      rintro e w1 ⟨rfl, hk1⟩
      have HK1 := hide hk1
      clear hk1
      go_wp2_with fail
      refine (unhide HAw _ (unhide HK1)).mono ?_
      rintro e w2 ⟨rfl, hk⟩
      have HK2 := hide ((unhide HK1).trans hk)
      clear hk
      go_wp2
      go_ret
      exact ⟨rfl, unhide HK2⟩
  | ok l =>
    rw [ht] at HT
    have HTO := hide ht
    have hlst := toks_lst ht
    have hpos := lst_pos hlst
    have HLS := hide hlst
    have hlen : l.length ≤ 8001 := by
      have := tokR_len s
      rw [tokR, ht] at this
      exact this
    have HR := hide hr
    clear ht hlst hr
    go_enter Tryd.func4, Tryd.ntmps4
    go_wp2_with fail
    refine (unhide HT).mono ?_
    rintro e w1 ⟨A1, c1, rfl, ho, hk1⟩
    obtain ⟨b, o, rfl, hb, hcell⟩ := (holdsK_of_own ho).cells hpos
    have HK1 := hide hk1
    have HC := hide hcell
    clear hk1 ho hcell
    generalize hnn : l.length = n at *
    have HN := hide hnn
    clear hnn
    by_cases h6 : 600 < s.size
    · have h6I : (600 : Int) < (s.size : Int) := by omega
      go_wp2_with fail
      refine (unhide HAw _ (unhide HK1)).mono ?_
      rintro e w2 ⟨rfl, hk⟩
      have HK2 := hide ((unhide HK1).trans hk)
      clear hk
      go_wp2
      go_ret
      exact ⟨rfl, unhide HK2⟩
    have h6I : ¬ (600 : Int) < (s.size : Int) := by omega
    by_cases h100 : 100 < n
    · have h100I : (100 : Int) < (n : Int) := by omega
      go_wp2_with fail
      refine (unhide HAw _ (unhide HK1)).mono ?_
      rintro e w2 ⟨rfl, hk⟩
      have HK2 := hide ((unhide HK1).trans hk)
      clear hk
      go_wp2
      go_ret
      exact ⟨rfl, unhide HK2⟩
    have h100I : ¬ (100 : Int) < (n : Int) := by omega
    have H6 := hide (six_cells w1)
    have HK2 := hide ((unhide HK1).alloc (.cells #[.string ⟨#[32]⟩, .string ⟨#[10]⟩, .string ⟨#[9, 13]⟩, .string ⟨#[32, 45, 45, 32, 114, 101, 109, 97, 114, 107, 10]⟩, .string ⟨#[32, 45, 45, 32, 97, 32, 45, 45, 32]⟩, .string ⟨#[32, 32]⟩] 9))
    have HK12 := hide ((Keeps.refl w1).alloc (.cells #[.string ⟨#[32]⟩, .string ⟨#[10]⟩, .string ⟨#[9, 13]⟩, .string ⟨#[32, 45, 45, 32, 114, 101, 109, 97, 114, 107, 10]⟩, .string ⟨#[32, 45, 45, 32, 97, 32, 45, 45, 32]⟩, .string ⟨#[32, 32]⟩] 9))
    have hw1lt : w1.heap.size < (w1.alloc (.cells #[.string ⟨#[32]⟩, .string ⟨#[10]⟩, .string ⟨#[9, 13]⟩, .string ⟨#[32, 45, 45, 32, 114, 101, 109, 97, 114, 107, 10]⟩, .string ⟨#[32, 45, 45, 32, 97, 32, 45, 45, 32]⟩, .string ⟨#[32, 32]⟩] 9)).heap.size := by rw [World.size_alloc]; omega
    obtain ⟨i0, hi0, hz0, hz1, hz2⟩ := info_parts tok_info
    go_wp2
    generalize hW2 : w1.alloc (.cells #[.string ⟨#[32]⟩, .string ⟨#[10]⟩, .string ⟨#[9, 13]⟩, .string ⟨#[32, 45, 45, 32, 114, 101, 109, 97, 114, 107, 10]⟩, .string ⟨#[32, 45, 45, 32, 97, 32, 45, 45, 32]⟩, .string ⟨#[32, 32]⟩] 9) = W2 at *
    clear hW2
    go_loopg [9, 10, 11, 12, 13, 14] n (fun k ov lw iv (_ : Value) (_ : Value) (_ : Value) wr => ∃ (j : Nat) (out : ByteArray) (lv : Value), lv = lw ∧ iv = .int .i64 (j : Nat) ∧ ov = .string out ∧ j ≤ n ∧ k = n - j ∧ Keeps W2 wr ∧ out.data.toList = outL (gapN m f) 0 (l.take j) ∧ out.size ≤ 1300 * j ∧ wr.ownsRow W2.heap.size 29 3 lv j (tokL (wantL (gapN m f) 0 0 (l.take j))))
    case atStart => exact ⟨0, _, _, rfl, rfl, rfl, Nat.zero_le _, rfl, Keeps.refl _, rfl, Nat.zero_le _, World.ownsRow_nil _ _ _ _⟩
    case round =>
      obtain ⟨j, out, lv, rfl, rfl, rfl, hj, hkj, hkw, hout, hoz, hown⟩ := hrel
      have HKJ := hide hkj
      have HKW := hide hkw
      have HO := hide hout
      have HOW := hide hown
      clear hkj hkw hout hown
      by_cases hlt : j < n
      · have hltI : (j : Int) < (n : Int) := by omega
        have hbr : b < wr.heap.size := Nat.lt_of_lt_of_le hb (Nat.le_trans (unhide HK12).size (unhide HKW).size)
        have hwr : w1.heap.size < wr.heap.size := Nat.lt_of_lt_of_le hw1lt (unhide HKW).size
        have HCW := hide (fun k t (h : l[k]? = some t) => (show wr.cell? ⟨b, o + k * 3, none⟩ = some (.int .i64 t.1) ∧ wr.cell? ⟨b, o + k * 3 + 1, none⟩ = some (.string t.2.1) ∧ wr.cell? ⟨b, o + k * 3 + 2, none⟩ = some (.int .i64 (t.2.2 : Nat)) from
          have h3 := unhide HC k t h
          have hkk := (unhide HK12).trans (unhide HKW)
          ⟨(Below.cell (p := ⟨b, _, none⟩) hkk hb).trans h3.1, (Below.cell (p := ⟨b, _, none⟩) hkk hb).trans h3.2.1, (Below.cell (p := ⟨b, _, none⟩) hkk hb).trans h3.2.2⟩))
        obtain ⟨⟨kd, x, a⟩, ht⟩ : ∃ t, l[j]? = some t := ⟨_, List.getElem?_eq_getElem (show j < l.length by rw [unhide HN]; exact hlt)⟩
        have hat := lst_at (unhide HLS) j _ ht
        rw [unhide HN] at hat
        have hend : kd = 0 ↔ j + 1 = n := hat.2.2.1
        obtain ⟨d0, d1, d2⟩ := unhide HCW j _ ht
        replace d0 : wr.cell? ⟨b, o + j * 3, none⟩ = some (.int .i64 kd) := d0
        replace d1 : wr.cell? ⟨b, o + j * 3 + 1, none⟩ = some (.string x) := d1
        replace d2 : wr.cell? ⟨b, o + j * 3 + 2, none⟩ = some (.int .i64 (a : Nat)) := d2
        have hxs : x.size ≤ 600 := Nat.le_trans (src_size (toks_src (unhide HTO)) j _ ht) (by omega)
        have hr6 := gapN_lt m f j
        have hcw : wr.cell? ⟨w1.heap.size, gapN m f j, none⟩ = some (.string (whB (gapN m f j))) := (Below.cell (p := ⟨w1.heap.size, _, none⟩) (unhide HKW) hw1lt).trans (unhide H6 _ hr6)
        have hws : (whB (gapN m f j)).size ≤ 11 := (whL_len _).2
        have HTK := hide (show l.take (j + 1) = l.take j ++ [(kd, x, a)] by rw [List.take_add_one, ht]; rfl)
        have HO2 := hide (show (out ++ whB (gapN m f j)).data.toList = outL (gapN m f) 0 (l.take j) ++ whL (gapN m f j) by rw [ByteArray.toList_data_append, unhide HO, whB_list])
        have hlj : (l.take j).length = j := by rw [List.length_take, unhide HN]; omega
        have HLJ := hide hlj
        have HWN := hide (show wantL (gapN m f) 0 0 (l.take (j + 1)) = wantL (gapN m f) 0 0 (l.take j) ++ [(kd, x, out.size + (whB (gapN m f j)).size)] by
          rw [unhide HTK, wantL_snoc, hlj, Nat.zero_add, Nat.zero_add, Lib.size_eq out, unhide HO, Lib.size_eq (whB _), whB_list])
        have HON := hide (show ∀ y : ByteArray, y.data.toList = wr0 (kd, x, a) → ((out ++ whB (gapN m f j)) ++ y).data.toList = outL (gapN m f) 0 (l.take (j + 1)) by
          intro y hy
          rw [ByteArray.toList_data_append, unhide HO2, hy, unhide HTK, outL_snoc, hlj, Nat.zero_add, List.append_assoc])
        have HSZ2 := hide (show (out ++ whB (gapN m f j)).size ≤ 1300 * j + 11 by rw [ByteArray.size_append]; omega)
        have hsum1 : ¬ (9223372036854775807 < out.size + (whB (gapN m f j)).size) := by omega
        have hgap : (¬ (j : Int) < (m : Int) ∧ gapN m f j = 0) ∨ (j < m ∧ (IntKind.u64.wrap (f j)).tmod 6 = (gapN m f j : Int)) := by
          by_cases q : j < m
          · refine .inr ⟨q, ?_⟩
            rw [IntKind.wrap_u64, Int.tmod_eq_emod_of_nonneg (by omega)]
            unfold gapN
            rw [if_pos q]; omega
          · refine .inl ⟨by omega, ?_⟩
            unfold gapN
            rw [if_neg q]
        have HGR := hide (fun (q : j < m) => ((unhide HR).keeps ((unhide HK2).trans (unhide HKW))) j q)
        have HRI := hide (show ((gapN m f j : Nat) : Int) < 6 by omega)
        generalize hgj : gapN m f j = r at *
        have HDA := hide (show w1.cell? ⟨b, o + j * 3 + 2, none⟩ = some (.int .i64 (a : Nat)) from (unhide HC j _ ht).2.2)
        have HGJ := hide hgj
        clear ht hat hlj hgj
        have hcase : (kd = 0 ∧ n = j + 1) ∨ (kd ≠ 0 ∧ j + 1 < n) := by
          by_cases q : kd = 0
          · exact .inl ⟨q, (hend.1 q).symm⟩
          · exact .inr ⟨q, by have : j + 1 ≠ n := fun e => q (hend.2 e)
                              omega⟩
        clear hend
        rcases hcase with hcase | hcase
        · rcases hgap with hgap | hgap
          · obtain ⟨hjmI, hr0⟩ := hgap
            subst hr0
            obtain ⟨rfl, hnj⟩ := hcase
            have hB1 := Blk.new wr 29 #[.int .i64 0, .string x, .int .i64 ((out.size : Int) + ((whB 0).size : Int))]
            have HB1 := hide (hB1.alloc (.cells #[.int .i64 0, .string x, .int .i64 ((out.size : Int) + ((whB 0).size : Int))] 29))
            clear hB1
            have hRD := one_tok (wr.alloc (.cells #[.int .i64 0, .string x, .int .i64 ((out.size : Int) + ((whB 0).size : Int))] 29)) (0, x, out.size + (whB 0).size)
            simp only [Int.natCast_add, World.size_alloc] at hRD
            have HRD := hide hRD
            clear hRD
            have HKA := hide (((unhide HKW).alloc (.cells #[.int .i64 0, .string x, .int .i64 ((out.size : Int) + ((whB 0).size : Int))] 29)).alloc (.cells #[.int .i64 0, .string x, .int .i64 ((out.size : Int) + ((whB 0).size : Int))] 29))
            have HOWA := hide (own_kept (w' := (wr.alloc (.cells #[.int .i64 0, .string x, .int .i64 ((out.size : Int) + ((whB 0).size : Int))] 29)).alloc (.cells #[.int .i64 0, .string x, .int .i64 ((out.size : Int) + ((whB 0).size : Int))] 29)) (unhide HOW) fun q hq => by
              have hq2 := (own_lt (unhide HOW) q hq).2
              rw [Below.heap_alloc _ _ q (by rw [World.size_alloc]; omega), Below.heap_alloc _ _ q hq2])
            have HSZA := hide (unhide HKA).size
            have HNE := hide (show some wr.heap.size ≠ lv.ownBlock from fun e => by have := own_lt (unhide HOW) _ e.symm; omega)
            have HGE := hide (fun q (hq : lv.ownBlock = some q) => (own_lt (unhide HOW) q hq).1)
            have HLC := hide (show wantL (gapN m f) 0 0 (l.take (j + 1)) = wantL (gapN m f) 0 0 (l.take j) ++ [(0, x, out.size + (whB 0).size)] from unhide HWN)
            clear HWN
            generalize hcs : tokL (wantL (gapN m f) 0 0 (l.take j)) = cs at *
            have HCS := hide hcs
            clear hcs
            subst hnj
            go_wp2_with (at_builtin; go_loud (refine wpList_append_any _ rfl (.tmp 84) (.tmp 86) _ rfl W2.heap.size 29 i0 _ 3 32 Tryd.underlying23 hi0 hz0 hz1 hz2 rfl (by omega) _ j _ rfl (unhide HOWA) _ _ 1 1 _ rfl (unhide HRD) (tokC_one _) (by simp only [maxLen]; omega) (by omega) (unhide HSZA) ?_; intro v' w3 hown3 hg3 hat3; have HGZ := hide hg3.size; have HK3 := hide (show Keeps W2 w3 from (unhide HKA).grown hg3 (fun q hq => unhide HGE q hq)); have hB3 := (unhide HB1).grown hg3 (unhide HNE); have HB3 := hide hB3; obtain ⟨t0, t1, t2⟩ := (show w3.cell? ⟨wr.heap.size, 0, none⟩ = some (.int .i64 0) ∧ w3.cell? ⟨wr.heap.size, 1, none⟩ = some (.string x) ∧ w3.cell? ⟨wr.heap.size, 2, none⟩ = some (.int .i64 ((out.size : Int) + ((whB 0).size : Int))) from ⟨hB3.cell 0, hB3.cell 1, hB3.cell 2⟩); have HOW3 := hide (show w3.ownsRow W2.heap.size 29 3 v' (j + 1) (tokL (wantL (gapN m f) 0 0 (l.take (j + 1)))) by rw [unhide HLC, tokL_snoc, unhide HCS]; exact hown3); clear hown3 hg3 hat3 hB3))
            have HOF := hide (show (out ++ whB 0).data.toList = outL (gapN m f) 0 (l.take (j + 1)) by
              rw [unhide HO2, unhide HTK, outL_snoc, unhide HLJ, Nat.zero_add, unhide HGJ, show wr0 (0, x, a) = [] from if_pos rfl, List.append_nil])
            go_roundg (j + 1 - (j + 1))
            case measure => have := unhide HKJ; omega
            case rel => exact ⟨j + 1, _, _, rfl, rfl, rfl, by omega, rfl, unhide HK3, unhide HOF, by have := unhide HSZ2; omega, unhide HOW3⟩
          · obtain ⟨hjm, hrw⟩ := hgap
            have hjmI : (j : Int) < (m : Int) := by omega
            obtain ⟨gb, go, rfl, hgb, hgc⟩ := unhide HGR hjm
            replace hgc : wr.cell? ⟨gb, go + j, none⟩ = some (.int .i64 (f j)) := hgc
            have hrw2 : IntKind.u64.wrap (f j) % 6 = (r : Int) := by rw [← hrw, Int.tmod_eq_emod_of_nonneg (by rw [IntKind.wrap_u64]; omega)]
            have hri := unhide HRI
            obtain ⟨rfl, hnj⟩ := hcase
            have hB1 := Blk.new wr 29 #[.int .i64 0, .string x, .int .i64 ((out.size : Int) + ((whB r).size : Int))]
            have HB1 := hide (hB1.alloc (.cells #[.int .i64 0, .string x, .int .i64 ((out.size : Int) + ((whB r).size : Int))] 29))
            clear hB1
            have hRD := one_tok (wr.alloc (.cells #[.int .i64 0, .string x, .int .i64 ((out.size : Int) + ((whB r).size : Int))] 29)) (0, x, out.size + (whB r).size)
            simp only [Int.natCast_add, World.size_alloc] at hRD
            have HRD := hide hRD
            clear hRD
            have HKA := hide (((unhide HKW).alloc (.cells #[.int .i64 0, .string x, .int .i64 ((out.size : Int) + ((whB r).size : Int))] 29)).alloc (.cells #[.int .i64 0, .string x, .int .i64 ((out.size : Int) + ((whB r).size : Int))] 29))
            have HOWA := hide (own_kept (w' := (wr.alloc (.cells #[.int .i64 0, .string x, .int .i64 ((out.size : Int) + ((whB r).size : Int))] 29)).alloc (.cells #[.int .i64 0, .string x, .int .i64 ((out.size : Int) + ((whB r).size : Int))] 29)) (unhide HOW) fun q hq => by
              have hq2 := (own_lt (unhide HOW) q hq).2
              rw [Below.heap_alloc _ _ q (by rw [World.size_alloc]; omega), Below.heap_alloc _ _ q hq2])
            have HSZA := hide (unhide HKA).size
            have HNE := hide (show some wr.heap.size ≠ lv.ownBlock from fun e => by have := own_lt (unhide HOW) _ e.symm; omega)
            have HGE := hide (fun q (hq : lv.ownBlock = some q) => (own_lt (unhide HOW) q hq).1)
            have HLC := hide (show wantL (gapN m f) 0 0 (l.take (j + 1)) = wantL (gapN m f) 0 0 (l.take j) ++ [(0, x, out.size + (whB r).size)] from unhide HWN)
            clear HWN
            generalize hcs : tokL (wantL (gapN m f) 0 0 (l.take j)) = cs at *
            have HCS := hide hcs
            clear hcs
            subst hnj
            go_wp2_with (at_builtin; go_loud (refine wpList_append_any _ rfl (.tmp 84) (.tmp 86) _ rfl W2.heap.size 29 i0 _ 3 32 Tryd.underlying23 hi0 hz0 hz1 hz2 rfl (by omega) _ j _ rfl (unhide HOWA) _ _ 1 1 _ rfl (unhide HRD) (tokC_one _) (by simp only [maxLen]; omega) (by omega) (unhide HSZA) ?_; intro v' w3 hown3 hg3 hat3; have HGZ := hide hg3.size; have HK3 := hide (show Keeps W2 w3 from (unhide HKA).grown hg3 (fun q hq => unhide HGE q hq)); have hB3 := (unhide HB1).grown hg3 (unhide HNE); have HB3 := hide hB3; obtain ⟨t0, t1, t2⟩ := (show w3.cell? ⟨wr.heap.size, 0, none⟩ = some (.int .i64 0) ∧ w3.cell? ⟨wr.heap.size, 1, none⟩ = some (.string x) ∧ w3.cell? ⟨wr.heap.size, 2, none⟩ = some (.int .i64 ((out.size : Int) + ((whB r).size : Int))) from ⟨hB3.cell 0, hB3.cell 1, hB3.cell 2⟩); have HOW3 := hide (show w3.ownsRow W2.heap.size 29 3 v' (j + 1) (tokL (wantL (gapN m f) 0 0 (l.take (j + 1)))) by rw [unhide HLC, tokL_snoc, unhide HCS]; exact hown3); clear hown3 hg3 hat3 hB3))
            have HOF := hide (show (out ++ whB r).data.toList = outL (gapN m f) 0 (l.take (j + 1)) by
              rw [unhide HO2, unhide HTK, outL_snoc, unhide HLJ, Nat.zero_add, unhide HGJ, show wr0 (0, x, a) = [] from if_pos rfl, List.append_nil])
            go_roundg (j + 1 - (j + 1))
            case measure => have := unhide HKJ; omega
            case rel => exact ⟨j + 1, _, _, rfl, rfl, rfl, by omega, rfl, unhide HK3, unhide HOF, by have := unhide HSZ2; omega, unhide HOW3⟩
        · rcases hgap with hgap | hgap
          · obtain ⟨hjmI, hr0⟩ := hgap
            subst hr0
            obtain ⟨hk0, hjn⟩ := hcase
            have hjnI : (j : Int) + 1 < (n : Int) := by omega
            obtain ⟨⟨kd2, x2, a2⟩, ht2⟩ : ∃ t, l[j + 1]? = some t := ⟨_, List.getElem?_eq_getElem (show j + 1 < l.length by rw [unhide HN]; exact hjn)⟩
            have e2 := (unhide HCW (j + 1) _ ht2).2.2
            replace e2 : wr.cell? ⟨b, o + (j + 1) * 3 + 2, none⟩ = some (.int .i64 (a2 : Nat)) := e2
            clear ht2
            have hB1 := Blk.new wr 29 #[.int .i64 kd, .string x, .int .i64 ((out.size : Int) + ((whB 0).size : Int))]
            have HB1 := hide (hB1.alloc (.cells #[.int .i64 kd, .string x, .int .i64 ((out.size : Int) + ((whB 0).size : Int))] 29))
            clear hB1
            have hRD := one_tok (wr.alloc (.cells #[.int .i64 kd, .string x, .int .i64 ((out.size : Int) + ((whB 0).size : Int))] 29)) (kd, x, out.size + (whB 0).size)
            simp only [Int.natCast_add, World.size_alloc] at hRD
            have HRD := hide hRD
            clear hRD
            have HKA := hide (((unhide HKW).alloc (.cells #[.int .i64 kd, .string x, .int .i64 ((out.size : Int) + ((whB 0).size : Int))] 29)).alloc (.cells #[.int .i64 kd, .string x, .int .i64 ((out.size : Int) + ((whB 0).size : Int))] 29))
            have HOWA := hide (own_kept (w' := (wr.alloc (.cells #[.int .i64 kd, .string x, .int .i64 ((out.size : Int) + ((whB 0).size : Int))] 29)).alloc (.cells #[.int .i64 kd, .string x, .int .i64 ((out.size : Int) + ((whB 0).size : Int))] 29)) (unhide HOW) fun q hq => by
              have hq2 := (own_lt (unhide HOW) q hq).2
              rw [Below.heap_alloc _ _ q (by rw [World.size_alloc]; omega), Below.heap_alloc _ _ q hq2])
            have HSZA := hide (unhide HKA).size
            have HNE := hide (show some wr.heap.size ≠ lv.ownBlock from fun e => by have := own_lt (unhide HOW) _ e.symm; omega)
            have HGE := hide (fun q (hq : lv.ownBlock = some q) => (own_lt (unhide HOW) q hq).1)
            have HLC := hide (show wantL (gapN m f) 0 0 (l.take (j + 1)) = wantL (gapN m f) 0 0 (l.take j) ++ [(kd, x, out.size + (whB 0).size)] from unhide HWN)
            clear HWN
            generalize hcs : tokL (wantL (gapN m f) 0 0 (l.take j)) = cs at *
            have HCS := hide hcs
            clear hcs
            go_wp2_with (at_builtin; go_loud (refine wpList_append_any _ rfl (.tmp 84) (.tmp 86) _ rfl W2.heap.size 29 i0 _ 3 32 Tryd.underlying23 hi0 hz0 hz1 hz2 rfl (by omega) _ j _ rfl (unhide HOWA) _ _ 1 1 _ rfl (unhide HRD) (tokC_one _) (by simp only [maxLen]; omega) (by omega) (unhide HSZA) ?_; intro v' w3 hown3 hg3 hat3; have HGZ := hide hg3.size; have HK3 := hide (show Keeps W2 w3 from (unhide HKA).grown hg3 (fun q hq => unhide HGE q hq)); have hB3 := (unhide HB1).grown hg3 (unhide HNE); have HB3 := hide hB3; obtain ⟨t0, t1, t2⟩ := (show w3.cell? ⟨wr.heap.size, 0, none⟩ = some (.int .i64 kd) ∧ w3.cell? ⟨wr.heap.size, 1, none⟩ = some (.string x) ∧ w3.cell? ⟨wr.heap.size, 2, none⟩ = some (.int .i64 ((out.size : Int) + ((whB 0).size : Int))) from ⟨hB3.cell 0, hB3.cell 1, hB3.cell 2⟩); have HOW3 := hide (show w3.ownsRow W2.heap.size 29 3 v' (j + 1) (tokL (wantL (gapN m f) 0 0 (l.take (j + 1)))) by rw [unhide HLC, tokL_snoc, unhide HCS]; exact hown3); clear hown3 hg3 hat3 hB3))
            have d2c : w3.cell? ⟨b, o + j * 3 + 2, none⟩ = some (.int .i64 (a : Nat)) := (Below.cell (p := ⟨b, _, none⟩) ((unhide HK12).trans (unhide HK3)) hb).trans (unhide HDA)
            have HSg := hide (fun (W9 : World) (fr en : Int) => sign_help s fr en kd ((out.size : Int) + ((whB 0).size : Int)) x (by omega) W9)
            have hk0b : (kd != 0) = true := by rw [bne_iff_ne]; exact hk0
            have hb3 : b < w3.heap.size := Nat.lt_of_lt_of_le hbr (Nat.le_trans (by rw [World.size_alloc, World.size_alloc]; omega) (unhide HGZ))
            have hT3 : wr.heap.size < w3.heap.size := Nat.lt_of_lt_of_le (by rw [World.size_alloc, World.size_alloc]; omega) (unhide HGZ)
            go_wp2
            refine wp_region_held_drew (S := fun w' => w'.cell? ⟨b, o + j * 3 + 2, none⟩ = some (.int .i64 (a : Nat)) ∧ w'.cell? ⟨wr.heap.size, 0, none⟩ = some (.int .i64 kd) ∧ w'.cell? ⟨wr.heap.size, 1, none⟩ = some (.string x) ∧ w'.cell? ⟨wr.heap.size, 2, none⟩ = some (.int .i64 ((out.size : Int) + ((whB 0).size : Int)))) (by kernel_rfl) ?_ (fun hHeld => ?_)
            · exact ⟨d2c, t0, t1, t2⟩
            refine wpAnyH_take (i := 0) (oi := { dst := some 91, op := Op.move (Operand.tmp 9), type := 9, pos := "law.go:50", after := #[], guard := none }) (v := ?_) rfl (by kernel_rfl) (by kernel_rfl) (by kernel_rfl) (fun _ _ _ h => h) (Or.inl ⟨by rfl, ?_⟩) (by assumption) ?_
            rotate_left
            · intro w hSw
              go_simp
              try with_reducible rfl
            try simp only [Act.put, List.setIfInBounds_toArray, List.set_cons_zero, List.set_cons_succ]
            refine wpAnyH_take (i := 1) (oi := { dst := some 92, op := Op.move (Operand.tmp 0), type := 9, pos := "law.go:50", after := #[], guard := none }) (v := ?_) rfl (by kernel_rfl) (by kernel_rfl) (by kernel_rfl) (fun _ _ _ h => h) (Or.inl ⟨by rfl, ?_⟩) (by assumption) ?_
            rotate_left
            · intro w hSw
              go_simp
              try with_reducible rfl
            try simp only [Act.put, List.setIfInBounds_toArray, List.set_cons_zero, List.set_cons_succ]
            refine wpAnyH_take (i := 2) (oi := { dst := some 93, op := Op.move (Operand.tmp 5), type := 23, pos := "law.go:50", after := #[], guard := none }) (v := ?_) rfl (by kernel_rfl) (by kernel_rfl) (by kernel_rfl) (fun _ _ _ h => h) (Or.inl ⟨by rfl, ?_⟩) (by assumption) ?_
            rotate_left
            · intro w hSw
              go_simp
              try with_reducible rfl
            try simp only [Act.put, List.setIfInBounds_toArray, List.set_cons_zero, List.set_cons_succ]
            refine wpAnyH_take (i := 3) (oi := { dst := some 94, op := Op.move (Operand.tmp 11), type := 3, pos := "law.go:50", after := #[], guard := none }) (v := ?_) rfl (by kernel_rfl) (by kernel_rfl) (by kernel_rfl) (fun _ _ _ h => h) (Or.inl ⟨by rfl, ?_⟩) (by assumption) ?_
            rotate_left
            · intro w hSw
              go_simp
              try with_reducible rfl
            try simp only [Act.put, List.setIfInBounds_toArray, List.set_cons_zero, List.set_cons_succ]
            refine wpAnyH_take (i := 4) (oi := { dst := some 95, op := Op.indexAddr 23 (Operand.tmp 93) (Operand.tmp 94), type := 0, pos := "law.go:50", after := #[{ on := 2, ground := Ground.data }, { on := 3, ground := Ground.data }], guard := none }) (v := ?_) rfl (by kernel_rfl) (by kernel_rfl) (by kernel_rfl) (fun _ _ _ h => h) (Or.inl ⟨by rfl, ?_⟩) (by assumption) ?_
            rotate_left
            · intro w hSw
              go_simp
              try with_reducible rfl
            try simp only [Act.put, List.setIfInBounds_toArray, List.set_cons_zero, List.set_cons_succ]
            refine wpAnyH_take (i := 5) (oi := { dst := some 96, op := Op.fieldAddr 29 (Operand.tmp 95) 2, type := 0, pos := "law.go:50", after := #[{ on := 4, ground := Ground.data }], guard := none }) (v := ?_) rfl (by kernel_rfl) (by kernel_rfl) (by kernel_rfl) (fun _ _ _ h => h) (Or.inl ⟨by rfl, ?_⟩) (by assumption) ?_
            rotate_left
            · intro w hSw
              go_simp
              try with_reducible rfl
            try simp only [Act.put, List.setIfInBounds_toArray, List.set_cons_zero, List.set_cons_succ]
            refine wpAnyH_take (i := 6) (oi := { dst := some 97, op := Op.load 3 (Operand.tmp 96), type := 3, pos := "law.go:50", after := #[{ on := 5, ground := Ground.data }], guard := none }) (v := ?_) rfl (by kernel_rfl) (by kernel_rfl) (by kernel_rfl) (fun _ _ _ h => h) (Or.inl ⟨by rfl, ?_⟩) (by assumption) ?_
            rotate_left
            · intro w hSw
              go_simp
              try with_reducible rfl
            try simp only [Act.put, List.setIfInBounds_toArray, List.set_cons_zero, List.set_cons_succ]
            refine wpAnyH_take (i := 7) (oi := { dst := some 98, op := Op.move (Operand.tmp 13), type := 3, pos := "law.go:50", after := #[], guard := none }) (v := ?_) rfl (by kernel_rfl) (by kernel_rfl) (by kernel_rfl) (fun _ _ _ h => h) (Or.inl ⟨by rfl, ?_⟩) (by assumption) ?_
            rotate_left
            · intro w hSw
              go_simp
              try with_reducible rfl
            try simp only [Act.put, List.setIfInBounds_toArray, List.set_cons_zero, List.set_cons_succ]
            refine wpAnyH_take (i := 8) (oi := { dst := some 99, op := Op.load 29 (Operand.tmp 14), type := 29, pos := "law.go:50", after := #[], guard := none }) (v := ?_) rfl (by kernel_rfl) (by kernel_rfl) (by kernel_rfl) (fun _ _ _ h => h) (Or.inl ⟨by rfl, ?_⟩) (by assumption) ?_
            rotate_left
            · intro w hSw
              go_simp
              try with_reducible rfl
            try simp only [Act.put, List.setIfInBounds_toArray, List.set_cons_zero, List.set_cons_succ]
            refine wpAnyH_ready (rs := [9]) (by kernel_rfl) (by simp) ?_
            refine AllReadyH.cons (o := { dst := some 100, op := Op.call { callee := Callee.value (Operand.func 15), args := #[Operand.tmp 92, Operand.tmp 97, Operand.tmp 98, Operand.tmp 99], argTypes := #[9, 3, 3, 29] }, type := 9, pos := "law.go:50", after := #[{ on := 1, ground := Ground.data }, { on := 6, ground := Ground.data }, { on := 7, ground := Ground.data }, { on := 8, ground := Ground.data }], guard := none }) rfl (fun K hK => ?_) AllReadyH.nil
            go_simp
            go_at_call 15
            refine (unhide HSg _ _ _).mono ?_
            rintro e w4 ⟨y, rfl, hy, hk4⟩
            have HY := hide hy
            have hS4 := hide (show w4.cell? ⟨b, o + j * 3 + 2, none⟩ = some (.int .i64 (a : Nat)) ∧ w4.cell? ⟨wr.heap.size, 0, none⟩ = some (.int .i64 kd) ∧ w4.cell? ⟨wr.heap.size, 1, none⟩ = some (.string x) ∧ w4.cell? ⟨wr.heap.size, 2, none⟩ = some (.int .i64 ((out.size : Int) + ((whB 0).size : Int))) from ⟨(Below.cell (p := ⟨b, _, none⟩) hk4 hb3).trans d2c, (Below.cell (p := ⟨wr.heap.size, _, none⟩) hk4 hT3).trans t0, (Below.cell (p := ⟨wr.heap.size, _, none⟩) hk4 hT3).trans t1, (Below.cell (p := ⟨wr.heap.size, _, none⟩) hk4 hT3).trans t2⟩)
            have HK4 := hide (((unhide HK3).drew).trans hk4)
            have HOW4 := hide (own_kept (w' := w4) (unhide HOW3) fun q hq => hk4.block q (own_lt (unhide HOW3) q hq).2)
            have hsum10 : ¬ (9223372036854775807 < out.size + (whB 0).size + y.size) := by have hys : y.size ≤ 1203 := (by have h1 := wr_len (kd, x, 0); rw [← hy, ← Lib.size_eq] at h1; exact Nat.le_trans h1 (by show 2 * x.size + 3 ≤ 1203; omega)); have := unhide HSZ2; rw [ByteArray.size_append] at this; omega
            have hys : y.size ≤ 1203 := by have h1 := wr_len (kd, x, 0); rw [← hy, ← Lib.size_eq] at h1; exact Nat.le_trans h1 (by show 2 * x.size + 3 ≤ 1203; omega)
            have hsum9 : ¬ (9223372036854775807 < (out ++ whB 0).size + y.size) := by have := unhide HSZ2; omega
            clear hk4 hy
            go_wp2_with fail
            refine hK.out _ _ ?_ (fun hHeld => ?_)
            · exact unhide hS4
            clear hK K
            try simp only [Act.put, List.setIfInBounds_toArray, List.set_cons_zero, List.set_cons_succ]
            refine wpAnyH_take (i := 10) (oi := { dst := some 101, op := Op.binOp BinOp.add 9 (Operand.tmp 91) (Operand.tmp 100) 9, type := 9, pos := "law.go:50", after := #[{ on := 0, ground := Ground.data }, { on := 9, ground := Ground.data }], guard := none }) (v := ?_) rfl (by kernel_rfl) (by kernel_rfl) (by kernel_rfl) (fun _ _ _ h => h) (Or.inl ⟨by rfl, ?_⟩) (by assumption) ?_
            rotate_left
            · intro w hSw
              go_simp
              try with_reducible rfl
            try simp only [Act.put, List.setIfInBounds_toArray, List.set_cons_zero, List.set_cons_succ]
            refine wpAnyH_take (i := 11) (oi := { dst := some 9, op := Op.assign (Operand.tmp 101), type := 9, pos := "law.go:50", after := #[{ on := 10, ground := Ground.data }, { on := 9, ground := Ground.chain }, { on := 0, ground := Ground.phase }, { on := 1, ground := Ground.phase }, { on := 2, ground := Ground.phase }, { on := 3, ground := Ground.phase }, { on := 4, ground := Ground.phase }, { on := 5, ground := Ground.phase }, { on := 6, ground := Ground.phase }, { on := 7, ground := Ground.phase }, { on := 8, ground := Ground.phase }, { on := 9, ground := Ground.phase }, { on := 10, ground := Ground.phase }], guard := none }) (v := ?_) rfl (by kernel_rfl) (by kernel_rfl) (by kernel_rfl) (fun _ _ _ h => h) (Or.inl ⟨by rfl, ?_⟩) (by assumption) ?_
            rotate_left
            · intro w hSw
              go_simp
              try with_reducible rfl
            try simp only [Act.put, List.setIfInBounds_toArray, List.set_cons_zero, List.set_cons_succ]
            refine wpAnyH_done (by kernel_rfl) ?_ _
            have HOF := hide (unhide HON y (by rw [unhide HY]; show Go.Proofs.YtknebkncepgppaaDoor.wr (kd, x, 0) = wr0 (kd, x, a); rw [wr0, if_neg (show ¬ ((kd, x, a) : Tok).1 = 0 from hk0)]; rfl))
            go_wp2
            go_roundg (n - (j + 1))
            case measure => have := unhide HKJ; omega
            case rel => exact ⟨j + 1, _, _, rfl, rfl, rfl, by omega, rfl, unhide HK4, unhide HOF, by rw [ByteArray.size_append]; have := unhide HSZ2; omega, unhide HOW4⟩
          · obtain ⟨hjm, hrw⟩ := hgap
            have hjmI : (j : Int) < (m : Int) := by omega
            obtain ⟨gb, go, rfl, hgb, hgc⟩ := unhide HGR hjm
            replace hgc : wr.cell? ⟨gb, go + j, none⟩ = some (.int .i64 (f j)) := hgc
            have hrw2 : IntKind.u64.wrap (f j) % 6 = (r : Int) := by rw [← hrw, Int.tmod_eq_emod_of_nonneg (by rw [IntKind.wrap_u64]; omega)]
            have hri := unhide HRI
            obtain ⟨hk0, hjn⟩ := hcase
            have hjnI : (j : Int) + 1 < (n : Int) := by omega
            obtain ⟨⟨kd2, x2, a2⟩, ht2⟩ : ∃ t, l[j + 1]? = some t := ⟨_, List.getElem?_eq_getElem (show j + 1 < l.length by rw [unhide HN]; exact hjn)⟩
            have e2 := (unhide HCW (j + 1) _ ht2).2.2
            replace e2 : wr.cell? ⟨b, o + (j + 1) * 3 + 2, none⟩ = some (.int .i64 (a2 : Nat)) := e2
            clear ht2
            have hB1 := Blk.new wr 29 #[.int .i64 kd, .string x, .int .i64 ((out.size : Int) + ((whB r).size : Int))]
            have HB1 := hide (hB1.alloc (.cells #[.int .i64 kd, .string x, .int .i64 ((out.size : Int) + ((whB r).size : Int))] 29))
            clear hB1
            have hRD := one_tok (wr.alloc (.cells #[.int .i64 kd, .string x, .int .i64 ((out.size : Int) + ((whB r).size : Int))] 29)) (kd, x, out.size + (whB r).size)
            simp only [Int.natCast_add, World.size_alloc] at hRD
            have HRD := hide hRD
            clear hRD
            have HKA := hide (((unhide HKW).alloc (.cells #[.int .i64 kd, .string x, .int .i64 ((out.size : Int) + ((whB r).size : Int))] 29)).alloc (.cells #[.int .i64 kd, .string x, .int .i64 ((out.size : Int) + ((whB r).size : Int))] 29))
            have HOWA := hide (own_kept (w' := (wr.alloc (.cells #[.int .i64 kd, .string x, .int .i64 ((out.size : Int) + ((whB r).size : Int))] 29)).alloc (.cells #[.int .i64 kd, .string x, .int .i64 ((out.size : Int) + ((whB r).size : Int))] 29)) (unhide HOW) fun q hq => by
              have hq2 := (own_lt (unhide HOW) q hq).2
              rw [Below.heap_alloc _ _ q (by rw [World.size_alloc]; omega), Below.heap_alloc _ _ q hq2])
            have HSZA := hide (unhide HKA).size
            have HNE := hide (show some wr.heap.size ≠ lv.ownBlock from fun e => by have := own_lt (unhide HOW) _ e.symm; omega)
            have HGE := hide (fun q (hq : lv.ownBlock = some q) => (own_lt (unhide HOW) q hq).1)
            have HLC := hide (show wantL (gapN m f) 0 0 (l.take (j + 1)) = wantL (gapN m f) 0 0 (l.take j) ++ [(kd, x, out.size + (whB r).size)] from unhide HWN)
            clear HWN
            generalize hcs : tokL (wantL (gapN m f) 0 0 (l.take j)) = cs at *
            have HCS := hide hcs
            clear hcs
            go_wp2_with (at_builtin; go_loud (refine wpList_append_any _ rfl (.tmp 84) (.tmp 86) _ rfl W2.heap.size 29 i0 _ 3 32 Tryd.underlying23 hi0 hz0 hz1 hz2 rfl (by omega) _ j _ rfl (unhide HOWA) _ _ 1 1 _ rfl (unhide HRD) (tokC_one _) (by simp only [maxLen]; omega) (by omega) (unhide HSZA) ?_; intro v' w3 hown3 hg3 hat3; have HGZ := hide hg3.size; have HK3 := hide (show Keeps W2 w3 from (unhide HKA).grown hg3 (fun q hq => unhide HGE q hq)); have hB3 := (unhide HB1).grown hg3 (unhide HNE); have HB3 := hide hB3; obtain ⟨t0, t1, t2⟩ := (show w3.cell? ⟨wr.heap.size, 0, none⟩ = some (.int .i64 kd) ∧ w3.cell? ⟨wr.heap.size, 1, none⟩ = some (.string x) ∧ w3.cell? ⟨wr.heap.size, 2, none⟩ = some (.int .i64 ((out.size : Int) + ((whB r).size : Int))) from ⟨hB3.cell 0, hB3.cell 1, hB3.cell 2⟩); have HOW3 := hide (show w3.ownsRow W2.heap.size 29 3 v' (j + 1) (tokL (wantL (gapN m f) 0 0 (l.take (j + 1)))) by rw [unhide HLC, tokL_snoc, unhide HCS]; exact hown3); clear hown3 hg3 hat3 hB3))
            have d2c : w3.cell? ⟨b, o + j * 3 + 2, none⟩ = some (.int .i64 (a : Nat)) := (Below.cell (p := ⟨b, _, none⟩) ((unhide HK12).trans (unhide HK3)) hb).trans (unhide HDA)
            have HSg := hide (fun (W9 : World) (fr en : Int) => sign_help s fr en kd ((out.size : Int) + ((whB r).size : Int)) x (by omega) W9)
            have hk0b : (kd != 0) = true := by rw [bne_iff_ne]; exact hk0
            have hb3 : b < w3.heap.size := Nat.lt_of_lt_of_le hbr (Nat.le_trans (by rw [World.size_alloc, World.size_alloc]; omega) (unhide HGZ))
            have hT3 : wr.heap.size < w3.heap.size := Nat.lt_of_lt_of_le (by rw [World.size_alloc, World.size_alloc]; omega) (unhide HGZ)
            go_wp2
            refine wp_region_held_drew (S := fun w' => w'.cell? ⟨b, o + j * 3 + 2, none⟩ = some (.int .i64 (a : Nat)) ∧ w'.cell? ⟨wr.heap.size, 0, none⟩ = some (.int .i64 kd) ∧ w'.cell? ⟨wr.heap.size, 1, none⟩ = some (.string x) ∧ w'.cell? ⟨wr.heap.size, 2, none⟩ = some (.int .i64 ((out.size : Int) + ((whB r).size : Int)))) (by kernel_rfl) ?_ (fun hHeld => ?_)
            · exact ⟨d2c, t0, t1, t2⟩
            refine wpAnyH_take (i := 0) (oi := { dst := some 91, op := Op.move (Operand.tmp 9), type := 9, pos := "law.go:50", after := #[], guard := none }) (v := ?_) rfl (by kernel_rfl) (by kernel_rfl) (by kernel_rfl) (fun _ _ _ h => h) (Or.inl ⟨by rfl, ?_⟩) (by assumption) ?_
            rotate_left
            · intro w hSw
              go_simp
              try with_reducible rfl
            try simp only [Act.put, List.setIfInBounds_toArray, List.set_cons_zero, List.set_cons_succ]
            refine wpAnyH_take (i := 1) (oi := { dst := some 92, op := Op.move (Operand.tmp 0), type := 9, pos := "law.go:50", after := #[], guard := none }) (v := ?_) rfl (by kernel_rfl) (by kernel_rfl) (by kernel_rfl) (fun _ _ _ h => h) (Or.inl ⟨by rfl, ?_⟩) (by assumption) ?_
            rotate_left
            · intro w hSw
              go_simp
              try with_reducible rfl
            try simp only [Act.put, List.setIfInBounds_toArray, List.set_cons_zero, List.set_cons_succ]
            refine wpAnyH_take (i := 2) (oi := { dst := some 93, op := Op.move (Operand.tmp 5), type := 23, pos := "law.go:50", after := #[], guard := none }) (v := ?_) rfl (by kernel_rfl) (by kernel_rfl) (by kernel_rfl) (fun _ _ _ h => h) (Or.inl ⟨by rfl, ?_⟩) (by assumption) ?_
            rotate_left
            · intro w hSw
              go_simp
              try with_reducible rfl
            try simp only [Act.put, List.setIfInBounds_toArray, List.set_cons_zero, List.set_cons_succ]
            refine wpAnyH_take (i := 3) (oi := { dst := some 94, op := Op.move (Operand.tmp 11), type := 3, pos := "law.go:50", after := #[], guard := none }) (v := ?_) rfl (by kernel_rfl) (by kernel_rfl) (by kernel_rfl) (fun _ _ _ h => h) (Or.inl ⟨by rfl, ?_⟩) (by assumption) ?_
            rotate_left
            · intro w hSw
              go_simp
              try with_reducible rfl
            try simp only [Act.put, List.setIfInBounds_toArray, List.set_cons_zero, List.set_cons_succ]
            refine wpAnyH_take (i := 4) (oi := { dst := some 95, op := Op.indexAddr 23 (Operand.tmp 93) (Operand.tmp 94), type := 0, pos := "law.go:50", after := #[{ on := 2, ground := Ground.data }, { on := 3, ground := Ground.data }], guard := none }) (v := ?_) rfl (by kernel_rfl) (by kernel_rfl) (by kernel_rfl) (fun _ _ _ h => h) (Or.inl ⟨by rfl, ?_⟩) (by assumption) ?_
            rotate_left
            · intro w hSw
              go_simp
              try with_reducible rfl
            try simp only [Act.put, List.setIfInBounds_toArray, List.set_cons_zero, List.set_cons_succ]
            refine wpAnyH_take (i := 5) (oi := { dst := some 96, op := Op.fieldAddr 29 (Operand.tmp 95) 2, type := 0, pos := "law.go:50", after := #[{ on := 4, ground := Ground.data }], guard := none }) (v := ?_) rfl (by kernel_rfl) (by kernel_rfl) (by kernel_rfl) (fun _ _ _ h => h) (Or.inl ⟨by rfl, ?_⟩) (by assumption) ?_
            rotate_left
            · intro w hSw
              go_simp
              try with_reducible rfl
            try simp only [Act.put, List.setIfInBounds_toArray, List.set_cons_zero, List.set_cons_succ]
            refine wpAnyH_take (i := 6) (oi := { dst := some 97, op := Op.load 3 (Operand.tmp 96), type := 3, pos := "law.go:50", after := #[{ on := 5, ground := Ground.data }], guard := none }) (v := ?_) rfl (by kernel_rfl) (by kernel_rfl) (by kernel_rfl) (fun _ _ _ h => h) (Or.inl ⟨by rfl, ?_⟩) (by assumption) ?_
            rotate_left
            · intro w hSw
              go_simp
              try with_reducible rfl
            try simp only [Act.put, List.setIfInBounds_toArray, List.set_cons_zero, List.set_cons_succ]
            refine wpAnyH_take (i := 7) (oi := { dst := some 98, op := Op.move (Operand.tmp 13), type := 3, pos := "law.go:50", after := #[], guard := none }) (v := ?_) rfl (by kernel_rfl) (by kernel_rfl) (by kernel_rfl) (fun _ _ _ h => h) (Or.inl ⟨by rfl, ?_⟩) (by assumption) ?_
            rotate_left
            · intro w hSw
              go_simp
              try with_reducible rfl
            try simp only [Act.put, List.setIfInBounds_toArray, List.set_cons_zero, List.set_cons_succ]
            refine wpAnyH_take (i := 8) (oi := { dst := some 99, op := Op.load 29 (Operand.tmp 14), type := 29, pos := "law.go:50", after := #[], guard := none }) (v := ?_) rfl (by kernel_rfl) (by kernel_rfl) (by kernel_rfl) (fun _ _ _ h => h) (Or.inl ⟨by rfl, ?_⟩) (by assumption) ?_
            rotate_left
            · intro w hSw
              go_simp
              try with_reducible rfl
            try simp only [Act.put, List.setIfInBounds_toArray, List.set_cons_zero, List.set_cons_succ]
            refine wpAnyH_ready (rs := [9]) (by kernel_rfl) (by simp) ?_
            refine AllReadyH.cons (o := { dst := some 100, op := Op.call { callee := Callee.value (Operand.func 15), args := #[Operand.tmp 92, Operand.tmp 97, Operand.tmp 98, Operand.tmp 99], argTypes := #[9, 3, 3, 29] }, type := 9, pos := "law.go:50", after := #[{ on := 1, ground := Ground.data }, { on := 6, ground := Ground.data }, { on := 7, ground := Ground.data }, { on := 8, ground := Ground.data }], guard := none }) rfl (fun K hK => ?_) AllReadyH.nil
            go_simp
            go_at_call 15
            refine (unhide HSg _ _ _).mono ?_
            rintro e w4 ⟨y, rfl, hy, hk4⟩
            have HY := hide hy
            have hS4 := hide (show w4.cell? ⟨b, o + j * 3 + 2, none⟩ = some (.int .i64 (a : Nat)) ∧ w4.cell? ⟨wr.heap.size, 0, none⟩ = some (.int .i64 kd) ∧ w4.cell? ⟨wr.heap.size, 1, none⟩ = some (.string x) ∧ w4.cell? ⟨wr.heap.size, 2, none⟩ = some (.int .i64 ((out.size : Int) + ((whB r).size : Int))) from ⟨(Below.cell (p := ⟨b, _, none⟩) hk4 hb3).trans d2c, (Below.cell (p := ⟨wr.heap.size, _, none⟩) hk4 hT3).trans t0, (Below.cell (p := ⟨wr.heap.size, _, none⟩) hk4 hT3).trans t1, (Below.cell (p := ⟨wr.heap.size, _, none⟩) hk4 hT3).trans t2⟩)
            have HK4 := hide (((unhide HK3).drew).trans hk4)
            have HOW4 := hide (own_kept (w' := w4) (unhide HOW3) fun q hq => hk4.block q (own_lt (unhide HOW3) q hq).2)
            have hsum10 : ¬ (9223372036854775807 < out.size + (whB r).size + y.size) := by have hys : y.size ≤ 1203 := (by have h1 := wr_len (kd, x, 0); rw [← hy, ← Lib.size_eq] at h1; exact Nat.le_trans h1 (by show 2 * x.size + 3 ≤ 1203; omega)); have := unhide HSZ2; rw [ByteArray.size_append] at this; omega
            have hys : y.size ≤ 1203 := by have h1 := wr_len (kd, x, 0); rw [← hy, ← Lib.size_eq] at h1; exact Nat.le_trans h1 (by show 2 * x.size + 3 ≤ 1203; omega)
            have hsum9 : ¬ (9223372036854775807 < (out ++ whB r).size + y.size) := by have := unhide HSZ2; omega
            clear hk4 hy
            go_wp2_with fail
            refine hK.out _ _ ?_ (fun hHeld => ?_)
            · exact unhide hS4
            clear hK K
            try simp only [Act.put, List.setIfInBounds_toArray, List.set_cons_zero, List.set_cons_succ]
            refine wpAnyH_take (i := 10) (oi := { dst := some 101, op := Op.binOp BinOp.add 9 (Operand.tmp 91) (Operand.tmp 100) 9, type := 9, pos := "law.go:50", after := #[{ on := 0, ground := Ground.data }, { on := 9, ground := Ground.data }], guard := none }) (v := ?_) rfl (by kernel_rfl) (by kernel_rfl) (by kernel_rfl) (fun _ _ _ h => h) (Or.inl ⟨by rfl, ?_⟩) (by assumption) ?_
            rotate_left
            · intro w hSw
              go_simp
              try with_reducible rfl
            try simp only [Act.put, List.setIfInBounds_toArray, List.set_cons_zero, List.set_cons_succ]
            refine wpAnyH_take (i := 11) (oi := { dst := some 9, op := Op.assign (Operand.tmp 101), type := 9, pos := "law.go:50", after := #[{ on := 10, ground := Ground.data }, { on := 9, ground := Ground.chain }, { on := 0, ground := Ground.phase }, { on := 1, ground := Ground.phase }, { on := 2, ground := Ground.phase }, { on := 3, ground := Ground.phase }, { on := 4, ground := Ground.phase }, { on := 5, ground := Ground.phase }, { on := 6, ground := Ground.phase }, { on := 7, ground := Ground.phase }, { on := 8, ground := Ground.phase }, { on := 9, ground := Ground.phase }, { on := 10, ground := Ground.phase }], guard := none }) (v := ?_) rfl (by kernel_rfl) (by kernel_rfl) (by kernel_rfl) (fun _ _ _ h => h) (Or.inl ⟨by rfl, ?_⟩) (by assumption) ?_
            rotate_left
            · intro w hSw
              go_simp
              try with_reducible rfl
            try simp only [Act.put, List.setIfInBounds_toArray, List.set_cons_zero, List.set_cons_succ]
            refine wpAnyH_done (by kernel_rfl) ?_ _
            have HOF := hide (unhide HON y (by rw [unhide HY]; show Go.Proofs.YtknebkncepgppaaDoor.wr (kd, x, 0) = wr0 (kd, x, a); rw [wr0, if_neg (show ¬ ((kd, x, a) : Tok).1 = 0 from hk0)]; rfl))
            go_wp2
            go_roundg (n - (j + 1))
            case measure => have := unhide HKJ; omega
            case rel => exact ⟨j + 1, _, _, rfl, rfl, rfl, by omega, rfl, unhide HK4, unhide HOF, by rw [ByteArray.size_append]; have := unhide HSZ2; omega, unhide HOW4⟩
      · have hltI : ¬ (j : Int) < (n : Int) := by omega
        obtain rfl : j = n := by omega
        have HOF := hide (show out.data.toList = outL (gapN m f) 0 l by have := unhide HO; rwa [List.take_of_length_le (Nat.le_of_eq (unhide HN))] at this)
        obtain ⟨A7, c7, rfl, hc7⟩ := own_form2 (unhide HOW)
        have HOWF := hide (show wr.ownsRow W2.heap.size 29 3 (.slice A7 (wantL (gapN m f) 0 0 l).length c7) (wantL (gapN m f) 0 0 l).length (tokL (wantL (gapN m f) 0 0 l)) by
          have h := unhide HOW
          rw [List.take_of_length_le (Nat.le_of_eq (unhide HN))] at h
          rwa [wantL_len, unhide HN])
        have HKF := hide ((unhide HK2).trans (unhide HKW))
        have HWL := hide (show (wantL (gapN m f) 0 0 l).length = j by rw [wantL_len]; exact unhide HN)
        clear HO HOW
        by_cases h8 : 8000 < out.size
        · have h8I : (8000 : Int) < (out.size : Int) := by omega
          have HTk := hide (unhide HTok _ (unhide HKF) out (by omega))
          rw [show toks out = .error (0, 5) by rw [toks, if_pos h8]] at HTk
          go_wp2_with fail
          refine (unhide HTk).mono ?_
          rintro e w3 ⟨rfl, hk3⟩
          have HK3 := hide ((unhide HKF).trans hk3)
          clear hk3
          go_wp2_with fail
          refine (unhide HAw _ (unhide HK3)).mono ?_
          rintro e w4 ⟨rfl, hk4⟩
          have HK4 := hide ((unhide HK3).trans hk4)
          clear hk4
          go_wp2
          go_ret
          exact ⟨rfl, unhide HK4⟩
        · have h8I : ¬ (8000 : Int) < (out.size : Int) := by omega
          have HTk := hide (unhide HTok _ (unhide HKF) out (by omega))
          rw [toks_new (gapN m f) (unhide HTO) (unhide HOF) (by omega)] at HTk
          have hl8 : (wantL (gapN m f) 0 0 l).length ≤ 1000000 := by rw [unhide HWL]; omega
          have HHW := hide (holdsK_of_own (unhide HOWF))
          generalize hwl : wantL (gapN m f) 0 0 l = wl at *
          clear hwl
          go_wp2_with fail
          refine (unhide HTk).mono ?_
          rintro e w3 ⟨A3, c3, rfl, ho3, hk3⟩
          have HK3 := hide ((unhide HKF).trans hk3)
          have HH3 := hide (holdsK_of_own ho3)
          have HHW3 := hide ((unhide HHW).keeps hk3)
          clear hk3 ho3
          rw [unhide HWL]
          go_wp2_with fail
          refine (unhide HAw _ (unhide HK3)).mono ?_
          rintro e w4 ⟨rfl, hk4⟩
          have HK4 := hide ((unhide HK3).trans hk4)
          have HP := hide (plainK_any A3 A7 wl c3 c7 w4 ((unhide HH3).keeps hk4) ((unhide HHW3).keeps hk4) hl8)
          rw [unhide HWL] at HP
          clear hk4
          go_wp2_with fail
          refine (unhide HP).mono ?_
          rintro e w5 ⟨rfl, hk5⟩
          have HK5 := hide ((unhide HK4).trans hk5)
          clear hk5
          go_wp2
          go_ret
          exact ⟨rfl, unhide HK5⟩
end Go.Proofs.YtknebkncepgppaaDoor
