/- The walk of WholeWidths. -/
import Derived.Test.YtnbcehoddjcnoaaWhS
import Derived.Test.YtnbcehoddjcnoaaBitsOct1
namespace Go.Proofs.Ytnbcehoddjcnoaa
open Go.ChangeShapes Go.WideShapes Go.ChangeAt Go.RowKit

/-- What the loop has counted: j octets are shifted out, k is left. -/
def WidR (m : Int) (k : Int) (j : Nat) : Prop := 0 ≤ k ∧ k ≤ 100000 ∧ j ≤ 8 ∧ ((k = 0 ∧ j = uLen m) ∨ (0 < k ∧ ∃ f, k / 256 < 256 ^ f ∧ j + uAux 256 f (k / 256) = uLen m))
theorem widR_next {m k : Int} {j : Nat} (h : WidR m k j) (hk : 0 < k) : WidR m (k / 256) (j + 1) := by
  obtain ⟨h0, h1, h2, h3 | ⟨_, f, h4, h5⟩⟩ := h
  · omega
  · have hl := (uLen_le m).2
    by_cases hz : k / 256 = 0
    · rw [uAux_last _ _ _ hz] at h5
      exact ⟨by omega, by omega, by omega, .inl ⟨hz, by omega⟩⟩
    · obtain ⟨g, rfl, h6, h7, h8⟩ := uAux_next 256 (by omega) f (k / 256) hz (by omega) h4
      exact ⟨by omega, by omega, by omega, .inr ⟨by omega, g, h8, by omega⟩⟩
theorem widR_last {m : Int} {j : Nat} (h : WidR m 0 j) : j = uLen m := by
  obtain ⟨h0, h1, h2, h3 | ⟨h3, _⟩⟩ := h
  · exact h3.2
  · omega
theorem widR_start (m : Int) (h0 : 0 < m) (h1 : m < 100000) : WidR m m 0 := ⟨by omega, by omega, by omega, .inr ⟨h0, 7, by omega, by unfold uLen; omega⟩⟩

set_option maxRecDepth 100000 in
set_option maxHeartbeats 4000000 in
theorem wholeWidths_any (v s n : Int) (hv0 : 0 ≤ v) (hv1 : v ≤ 18446744073709551615) (hs0 : 0 ≤ s) (hs1 : s ≤ 18446744073709551615) (w : World) :
    Calls Try.prog 6 #[.int .u64 v, .int .u64 s, .int .i64 n] w fun e w' => e = .returned (.bool true) ∧ Keeps w w' := by
  obtain ⟨m, hm, hm2⟩ := cut_offB n 100000 (by omega)
  replace hm : IntKind.u64.wrap n % 100000 = m := hm
  obtain ⟨hwa, hwb⟩ := wrap_rangeB n
  have h64 := bitLen_64 s.toNat (by omega)
  generalize hw2 : (w.alloc (.cells #[.slice none 0 0, .int .i64 0] 27)).alloc (.cells #[.slice none 0 0, .int .i64 0] 27) = w2
  have HW2 := hide hw2
  have hg7 : WrV w.heap.size w2 w.heap.size 0 0 0 0 none 0 := by rw [← hw2]; exact (wh_new w w.heap.size).alloc_ _
  have hg8 : WrV w.heap.size w2 (w.heap.size + 1) 0 0 0 0 none 0 := by
    rw [← hw2]
    have := wh_new (w.alloc (.cells #[.slice none 0 0, .int .i64 0] 27)) w.heap.size
    rwa [World.size_alloc] at this
  have hk2 : Keeps w w2 := by rw [← hw2]; exact ((Keeps.refl w).alloc _).alloc _
  have HB := hide (wBetween_st v s (St.start hg7 (by omega)) (by have := hk2.size; omega) hv0 hv1 hs0 hs1 (by omega))
  have HK2 := hide hk2
  have HG8 := hide hg8
  have HMX := hide (show max (m : Int) 0 = m by omega)
  clear hg7 hg8 hk2
  rw [Nat.zero_add] at HB
  have HRW := hide (fun w => refWidth_any s w hs0 hs1)
  generalize Lib.bitLen s.toNat = L at *
  subst hw2
  go_enter Try.func6, Try.ntmps6
  go_wp2_with fail
  refine (unhide HB).mono ?_
  rintro e w3 ⟨rfl, hS⟩
  have hk3 := fr_keeps (unhide HK2) hS.fr (Nat.le_refl _) (fun b e => by cases e)
  have hg83 := (unhide HG8).fr hS.fr (by omega) (fun e => by cases e) (fun e => by cases e) (fun b e => by cases e)
  have hx7 := hS.ws
  obtain ⟨m7, r7, A7, c7, hW7, hr7⟩ := hx7
  have HB2 := hide (wSmall_st m m (unhide HMX) (St.start hg83 (by omega)) (by have := hk3.size; omega) (by omega) (by omega))
  have HX := hide fun (w4 : World) (h : St w.heap.size w3 (w.heap.size + 1) none (smN 0 m) (0 + smL m) w4) => by
    have h1 : WS w.heap.size w4 w.heap.size _ _ := ⟨m7, r7, A7, c7, hW7.fr h.fr (by omega) (fun e => by cases e) (hW7.row_ne hg83.2.1 (by decide)) (fun b e e2 => by cases e2), hr7⟩
    exact (⟨h1, h.ws, fr_keeps hk3 h.fr (by omega) (fun b e => by cases e)⟩ : WS w.heap.size w4 w.heap.size _ _ ∧ WS w.heap.size w4 (w.heap.size + 1) _ _ ∧ Keeps w w4)
  clear hS hk3 hg83 hW7 HMX HK2 HG8
  rw [Nat.zero_add] at HX HB2
  go_wp2_with fail
  refine (unhide HB2).mono ?_
  rintro e w4 ⟨rfl, hS⟩
  have hx := unhide HX _ hS
  have HA := hide (awake17_any w4)
  have HY := hide fun (w5 : World) (h : Keeps w4 w5) => (⟨wLen_st (hx.1.keeps h), wLen_st (hx.2.1.keeps h), hx.2.2.trans h⟩ : _ ∧ _ ∧ Keeps w w5)
  clear hS hx HX
  have hsm := smL_le m
  by_cases hlt : m < 64
  · have hsl : smL m = 7 := by unfold smL; rw [if_pos (by omega)]
    rw [hsl] at HY
    clear hsl hsm
    go_wp2_with fail
    refine (unhide HA).mono ?_
    rintro e w5 ⟨rfl, hk5⟩
    obtain ⟨h1, h2, h3⟩ := unhide HY _ hk5
    have H1 := hide h1
    have H2 := hide h2
    have H3 := hide h3
    clear h1 h2 h3 hk5
    go_wp2_with fail
    refine (unhide H1).mono ?_
    rintro e w6 ⟨rfl, rfl⟩
    go_wp2_with fail
    refine (unhide HRW _).mono ?_
    rintro e w6 ⟨rfl, rfl⟩
    go_wp2_with fail
    refine (unhide H2).mono ?_
    rintro e w6 ⟨rfl, rfl⟩
    go_wp2
    go_ret
    exact ⟨rfl, unhide H3⟩
  · have hsl : smL m = 9 + 8 * uLen m := by unfold smL; rw [if_neg (by omega)]
    have hu := (uLen_le m).2
    rw [hsl] at HY
    clear hsl hsm
    have HW := hide (widR_start m (by omega) (by omega))
    go_wp2_with fail
    go_loopw [9, 10] (fun x y wr => wr = w4 ∧ ∃ (j : Nat) (k : Int), x = .int .i64 ((9 + 8 * j : Nat) : Int) ∧ y = .int .i64 k ∧ WidR m k j) (fun _ y _ => (intOf y).toNat)
    case atStart => exact ⟨rfl, 0, m, rfl, rfl, unhide HW⟩
    case round =>
      obtain ⟨rfl, j, k, rfl, rfl, hr⟩ := hrel
      have hk0 := hr.1
      have hk1 := hr.2.1
      have hj8 := hr.2.2.1
      by_cases hz : 0 < k
      · have HN := hide (widR_next hr hz)
        clear hr
        go_wp2
        exact ⟨⟨trivial, j + 1, k / 256, by go_num, rfl, unhide HN⟩, by simp [intOf]; omega⟩
      · obtain rfl : k = 0 := by omega
        obtain rfl := widR_last hr
        clear hr
        generalize uLen m = U at *
        go_wp2_with fail
        refine (unhide HA).mono ?_
        rintro e w5 ⟨rfl, hk5⟩
        obtain ⟨h1, h2, h3⟩ := unhide HY _ hk5
        have H1 := hide h1
        have H2 := hide h2
        have H3 := hide h3
        clear h1 h2 h3 hk5
        go_wp2_with fail
        refine (unhide H1).mono ?_
        rintro e w6 ⟨rfl, rfl⟩
        go_wp2_with fail
        refine (unhide HRW _).mono ?_
        rintro e w6 ⟨rfl, rfl⟩
        go_wp2_with fail
        refine (unhide H2).mono ?_
        rintro e w6 ⟨rfl, rfl⟩
        go_wp2
        go_ret
        exact ⟨rfl, unhide H3⟩
end Go.Proofs.Ytnbcehoddjcnoaa
