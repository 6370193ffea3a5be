/- The walk of TagsLayers. -/
import Derived.Test.YtknmcodpnhdghabTagPlain
import Derived.Test.YtknmcodpnhdghabRows1
namespace Go.Proofs.Ytknmcodpnhdghab
open Go.ChangeShapes Go.WideShapes Go.ChangeAt Go.RowKit

theorem own_one (w : World) (n : Int) : (w.alloc (.cells #[.int .i64 2, .int .i64 n] 26)).ownsRow w.heap.size 26 2 (.slice (some ⟨w.heap.size, 0, none⟩) 1 1) 1 (TagL [(2, n)]) := by
  have hb := Blk.new w 26 #[.int .i64 2, .int .i64 n]
  refine ⟨by simp [TagL, tagCells], .inr ⟨w.heap.size, 1, #[.int .i64 2, .int .i64 n], rfl, Nat.le_refl _, hb, Nat.le_refl _, by unfold maxLen; omega, by simp, ?_⟩⟩
  simp [TagL, tagCells]
theorem append_tags {w' : World} {base : Nat} {v' : Value} {x : Int × Int} {rest : List (Int × Int)} (h : w'.ownsRow base 26 2 v' (1 + rest.length) (TagL [x] ++ TagL rest)) :
    ∃ A c, v' = .slice A (rest.length + 1) c ∧ rest.length + 1 ≤ c ∧ HoldsT w' A (x :: rest) := by
  rw [← tagL_append, Nat.add_comm] at h
  obtain ⟨A, c, rfl, hc⟩ := own_form2 h
  exact ⟨A, c, rfl, hc, holdsT_of_own (ts := x :: rest) h⟩
theorem wrap_range1 (z : Int) : 0 ≤ IntKind.u64.wrap z ∧ IntKind.u64.wrap z ≤ 18446744073709551615 := by
  rw [IntKind.wrap_u64]; omega
/-- At the beginning of round k. -/
def LayRel (w wr : World) (k : Nat) (l want : Value) : Prop :=
  ∃ (A B : Option Addr) (t : Int × Int) (ys : List (Int × Int)) (c d : Nat), l = .slice A (ys.length + 1) c ∧ want = .slice B (ys.length + 1) d ∧ ys.length + 1 ≤ c ∧ ys.length + 1 ≤ d ∧ ys.length ≤ k ∧ HoldsT wr A (t :: ys) ∧ HoldsT wr B (t :: ys) ∧ Keeps w wr
theorem lay_start {w wr : World} {g g2 : Nat} (h1 : HoldsT wr (some ⟨g, 0, none⟩) [(0, 2)]) (h2 : HoldsT wr (some ⟨g2, 0, none⟩) [(0, 2)]) (hk : Keeps w wr) :
    LayRel w wr 0 (.slice (some ⟨g, 0, none⟩) 1 1) (.slice (some ⟨g2, 0, none⟩) 1 1) := ⟨_, _, (0, 2), [], 1, 1, rfl, rfl, Nat.le_refl _, Nat.le_refl _, Nat.le_refl _, h1, h2, hk⟩
theorem lay_next {w wr : World} {k : Nat} {A B : Option Addr} {t : Int × Int} {rest : List (Int × Int)} {c d : Nat} (h0 : rest.length ≤ k + 1) (hc : rest.length + 1 ≤ c) (hd : rest.length + 1 ≤ d) (h1 : HoldsT wr A (t :: rest)) (h2 : HoldsT wr B (t :: rest)) (hk : Keeps w wr) :
    LayRel w wr (k + 1) (.slice A (rest.length + 1) c) (.slice B (rest.length + 1) d) := ⟨A, B, t, rest, c, d, rfl, rfl, hc, hd, h0, h1, h2, hk⟩
theorem wrap_at (A : Option Addr) (t : Int × Int) (ys rest : List (Int × Int)) (c : Nat) (q mode : Int) (hl : ys.length ≤ 100) (hc : ys.length + 1 ≤ c) (he : wrapT (t :: ys) q mode = ((2, q) :: rest, 0)) (w : World) (hh : HoldsT w A (t :: ys)) :
    Calls Try.prog 7 #[.slice A (ys.length + 1) c, .int .i64 q, .int .i64 mode] w (GivesT2 ((2, q) :: rest, 0) w) := by
  rw [← he]
  exact wrap_any A (t :: ys) c q mode (by simp; omega) hc w hh

set_option maxRecDepth 100000 in
set_option maxHeartbeats 8000000 in
theorem layers_any (A0 B0 : Option Addr) (n m c0 d0 : Nat) (f : Nat → Int) (fb : Nat → Bool) (w : World) (ha : Row1 w A0 n (fun i => .int .i64 (f i))) (hb : Row1 w B0 m (fun i => .bool (fb i))) (hl : n ≤ maxLen) (hl2 : m ≤ maxLen) :
    Calls Try.prog 3 #[.slice A0 n c0, .slice B0 m d0] w fun e w' => e = .returned (.bool true) ∧ Keeps w w' := by
  obtain ⟨i0, hi0, hz0, hz1, hz2⟩ := info_parts tag_info
  have hm : n ≤ 9223372036854775807 := by unfold maxLen at hl; exact hl
  have hm2 : m ≤ 9223372036854775807 := by unfold maxLen at hl2; exact hl2
  clear hl hl2
  by_cases hb1 : 20 < n
  · clear ha hb
    go_enter Try.func3, Try.ntmps3
    go_wp2_with (go_at_call 5; refine (awake09_any _).mono ?_; rintro e w1 ⟨rfl, hk⟩)
    all_goals
      go_ret
      exact ⟨rfl, hk⟩
  · have hn : n ≤ 20 := by omega
    clear hb1 hm
    have HA := hide ha
    have HB := hide hb
    clear ha hb
    go_enter Try.func3, Try.ntmps3
    go_wp2_with fail
    refine (uni2_any _).mono ?_
    rintro e w1 ⟨rfl, hk⟩
    go_wp2
    have h1 := (tag0_held w1).keeps ((Keeps.refl _).alloc (.cells #[.int .i64 0, .int .i64 2] 26))
    have h2 := tag0_held (w1.alloc (.cells #[.int .i64 0, .int .i64 2] 26))
    have hrel0 := lay_start h1 h2 ((hk.alloc (.cells #[.int .i64 0, .int .i64 2] 26)).alloc (.cells #[.int .i64 0, .int .i64 2] 26))
    have HR := hide hrel0
    clear hrel0 h1 h2 hk
    go_loopw [5, 6, 7] (fun l want i wr => ∃ k : Nat, k ≤ n ∧ i = .int .i64 k ∧ LayRel w wr k l want) (fun _ _ i _ => n - (intOf i).toNat)
    case atStart => exact ⟨0, by omega, rfl, by simpa using unhide HR⟩
    case round =>
      obtain ⟨k, hk, rfl, A, B, t, ys, c, d, rfl, rfl, hc, hd, hys, hA, hB, hkk⟩ := hrel
      by_cases hlt : k < n
      · obtain ⟨ab, ao, rfl, hab, hac⟩ := (unhide HA).keeps hkk k hlt
        simp only at hac
        generalize f k = z at *
        obtain ⟨hq0, hq1⟩ := wrap_range1 z
        have hq2 : 0 ≤ IntKind.u64.wrap z % 268435457 := Int.emod_nonneg _ (by omega)
        have hq3 : IntKind.u64.wrap z % 268435457 < 268435457 := Int.emod_lt_of_pos _ (by omega)
        by_cases hlt2 : k < m
        · obtain ⟨mb, mo, rfl, hmb, hmc⟩ := (unhide HB).keeps hkk k hlt2
          simp only at hmc
          by_cases hfb : fb k = true
          · rw [hfb] at hmc
            by_cases hd1 : d = 1
            · have hy : ys = [] := List.eq_nil_of_length_eq_zero (by omega)
              subst hy
              subst hd1
              obtain ⟨bb, bo, rfl, hB2⟩ := hB.first
              have hB3 : HoldsT wr (some ⟨bb, bo, none⟩) [] := HoldsT.empty _ _
              clear hB2
              have HW := hide (wrap_at A t [] [] c (IntKind.u64.wrap z % 268435457) 1 (by first | omega | (simp only [List.length_cons]; omega) | (simp only [List.length_cons, List.length_nil]; omega)) hc (by unfold wrapT; rw [if_neg (by omega), if_pos rfl]))
              have HAA := hide hA
              have HBB := hide hB3
              clear hA hB hB3
              go_wp2_with (at_builtin; refine wpList_append_any _ rfl (.tmp 47) (.tmp 48) _ rfl wr.heap.size 26 i0 _ 2 16 Try.underlying28 hi0 hz0 hz1 hz2 rfl (by omega) (.slice (some ⟨wr.heap.size, 0, none⟩) 1 1) 1 _ rfl (own_one wr _) _ (some ⟨bb, bo, none⟩) 0 0 (TagL []) rfl (HoldsT.keeps (unhide HBB) ((Keeps.refl _).alloc _)) (tagL_one _) (by simp only [maxLen]; omega) (by omega) (by simp) ?_; intro v' w7 hown7 hg7 hat7)
              have hk7 : Keeps wr w7 := ((Keeps.refl wr).alloc _).grown hg7 (fun k hkk => by simp [Value.ownBlock] at hkk; omega)
              obtain ⟨A7, c7, rfl, hc7, hh7⟩ := append_tags (rest := []) hown7
              clear hown7 hg7 hat7
              have hA7 := (unhide HAA).keeps hk7
              go_wp2_with fail
              refine (unhide HW _ hA7).mono ?_
              rintro e w8 ⟨A2, c2, rfl, hc2, hown2, hk8⟩
              have h2 := holdsT_of_own hown2
              clear hown2
              replace hh7 := hh7.keeps hk8
              replace hkk := (hkk.trans hk7).trans hk8
              simp only [List.length_cons] at hc2 ⊢
              go_wp2_with fail
              refine (plainT_any A2 A7 ((2, IntKind.u64.wrap z % 268435457) :: []) c2 c7 _ h2 hh7 (by first | omega | (simp only [List.length_cons]; omega) | (simp only [List.length_cons, List.length_nil]; omega))).mono ?_
              rintro e w9 ⟨rfl, hk9⟩
              replace h2 := h2.keeps hk9
              replace hh7 := hh7.keeps hk9
              replace hkk := hkk.trans hk9
              go_wp2
              exact ⟨⟨k + 1, by omega, by go_num, lay_next (by first | omega | (simp only [List.length_cons]; omega) | (simp only [List.length_cons, List.length_nil]; omega)) hc2 hc7 h2 hh7 hkk⟩, by simp [intOf]; omega⟩
            · have hdd : 1 < d := by omega
              obtain ⟨bb, bo, rfl, hB2⟩ := hB.first
              have hB3 : HoldsT wr (some ⟨bb, bo + 2, none⟩) ys := hB2
              clear hB2
              have HW := hide (wrap_at A t ys ys c (IntKind.u64.wrap z % 268435457) 1 (by first | omega | (simp only [List.length_cons]; omega) | (simp only [List.length_cons, List.length_nil]; omega)) hc (by unfold wrapT; rw [if_neg (by omega), if_pos rfl]))
              have HAA := hide hA
              have HBB := hide hB3
              clear hA hB hB3
              go_wp2_with (at_builtin; refine wpList_append_any _ rfl (.tmp 47) (.tmp 48) _ rfl wr.heap.size 26 i0 _ 2 16 Try.underlying28 hi0 hz0 hz1 hz2 rfl (by omega) (.slice (some ⟨wr.heap.size, 0, none⟩) 1 1) 1 _ rfl (own_one wr _) _ (some ⟨bb, bo + 2, none⟩) ys.length (d - 1) (TagL ys) rfl (HoldsT.keeps (unhide HBB) ((Keeps.refl _).alloc _)) (tagL_one _) (by simp only [maxLen]; omega) (by omega) (by simp) ?_; intro v' w7 hown7 hg7 hat7)
              have hk7 : Keeps wr w7 := ((Keeps.refl wr).alloc _).grown hg7 (fun k hkk => by simp [Value.ownBlock] at hkk; omega)
              obtain ⟨A7, c7, rfl, hc7, hh7⟩ := append_tags (rest := ys) hown7
              clear hown7 hg7 hat7
              have hA7 := (unhide HAA).keeps hk7
              go_wp2_with fail
              refine (unhide HW _ hA7).mono ?_
              rintro e w8 ⟨A2, c2, rfl, hc2, hown2, hk8⟩
              have h2 := holdsT_of_own hown2
              clear hown2
              replace hh7 := hh7.keeps hk8
              replace hkk := (hkk.trans hk7).trans hk8
              simp only [List.length_cons] at hc2 ⊢
              go_wp2_with fail
              refine (plainT_any A2 A7 ((2, IntKind.u64.wrap z % 268435457) :: ys) c2 c7 _ h2 hh7 (by first | omega | (simp only [List.length_cons]; omega) | (simp only [List.length_cons, List.length_nil]; omega))).mono ?_
              rintro e w9 ⟨rfl, hk9⟩
              replace h2 := h2.keeps hk9
              replace hh7 := hh7.keeps hk9
              replace hkk := hkk.trans hk9
              go_wp2
              exact ⟨⟨k + 1, by omega, by go_num, lay_next (by first | omega | (simp only [List.length_cons]; omega) | (simp only [List.length_cons, List.length_nil]; omega)) hc2 hc7 h2 hh7 hkk⟩, by simp [intOf]; omega⟩
          · rw [Bool.not_eq_true] at hfb
            rw [hfb] at hmc
            have hB3 : HoldsT wr B (t :: ys) := hB
            have HW := hide (wrap_at A t ys (t :: ys) c (IntKind.u64.wrap z % 268435457) 0 (by first | omega | (simp only [List.length_cons]; omega) | (simp only [List.length_cons, List.length_nil]; omega)) hc (by unfold wrapT; rw [if_neg (by omega), if_neg (by omega)]))
            have HAA := hide hA
            have HBB := hide hB3
            clear hA hB hB3
            go_wp2_with (at_builtin; refine wpList_append_any _ rfl (.tmp 47) (.tmp 48) _ rfl wr.heap.size 26 i0 _ 2 16 Try.underlying28 hi0 hz0 hz1 hz2 rfl (by omega) (.slice (some ⟨wr.heap.size, 0, none⟩) 1 1) 1 _ rfl (own_one wr _) _ B (ys.length + 1) d (TagL (t :: ys)) rfl (HoldsT.keeps (unhide HBB) ((Keeps.refl _).alloc _)) (tagL_one _) (by simp only [maxLen]; omega) (by omega) (by simp) ?_; intro v' w7 hown7 hg7 hat7)
            have hk7 : Keeps wr w7 := ((Keeps.refl wr).alloc _).grown hg7 (fun k hkk => by simp [Value.ownBlock] at hkk; omega)
            obtain ⟨A7, c7, rfl, hc7, hh7⟩ := append_tags (rest := (t :: ys)) hown7
            clear hown7 hg7 hat7
            have hA7 := (unhide HAA).keeps hk7
            go_wp2_with fail
            refine (unhide HW _ hA7).mono ?_
            rintro e w8 ⟨A2, c2, rfl, hc2, hown2, hk8⟩
            have h2 := holdsT_of_own hown2
            clear hown2
            replace hh7 := hh7.keeps hk8
            replace hkk := (hkk.trans hk7).trans hk8
            simp only [List.length_cons] at hc2 ⊢
            go_wp2_with fail
            refine (plainT_any A2 A7 ((2, IntKind.u64.wrap z % 268435457) :: (t :: ys)) c2 c7 _ h2 hh7 (by first | omega | (simp only [List.length_cons]; omega) | (simp only [List.length_cons, List.length_nil]; omega))).mono ?_
            rintro e w9 ⟨rfl, hk9⟩
            replace h2 := h2.keeps hk9
            replace hh7 := hh7.keeps hk9
            replace hkk := hkk.trans hk9
            go_wp2
            exact ⟨⟨k + 1, by omega, by go_num, lay_next (by first | omega | (simp only [List.length_cons]; omega) | (simp only [List.length_cons, List.length_nil]; omega)) hc2 hc7 h2 hh7 hkk⟩, by simp [intOf]; omega⟩
        · have hmk : m ≤ k := by omega
          have hB3 : HoldsT wr B (t :: ys) := hB
          have HW := hide (wrap_at A t ys (t :: ys) c (IntKind.u64.wrap z % 268435457) 0 (by first | omega | (simp only [List.length_cons]; omega) | (simp only [List.length_cons, List.length_nil]; omega)) hc (by unfold wrapT; rw [if_neg (by omega), if_neg (by omega)]))
          have HAA := hide hA
          have HBB := hide hB3
          clear hA hB hB3
          go_wp2_with (at_builtin; refine wpList_append_any _ rfl (.tmp 47) (.tmp 48) _ rfl wr.heap.size 26 i0 _ 2 16 Try.underlying28 hi0 hz0 hz1 hz2 rfl (by omega) (.slice (some ⟨wr.heap.size, 0, none⟩) 1 1) 1 _ rfl (own_one wr _) _ B (ys.length + 1) d (TagL (t :: ys)) rfl (HoldsT.keeps (unhide HBB) ((Keeps.refl _).alloc _)) (tagL_one _) (by simp only [maxLen]; omega) (by omega) (by simp) ?_; intro v' w7 hown7 hg7 hat7)
          have hk7 : Keeps wr w7 := ((Keeps.refl wr).alloc _).grown hg7 (fun k hkk => by simp [Value.ownBlock] at hkk; omega)
          obtain ⟨A7, c7, rfl, hc7, hh7⟩ := append_tags (rest := (t :: ys)) hown7
          clear hown7 hg7 hat7
          have hA7 := (unhide HAA).keeps hk7
          go_wp2_with fail
          refine (unhide HW _ hA7).mono ?_
          rintro e w8 ⟨A2, c2, rfl, hc2, hown2, hk8⟩
          have h2 := holdsT_of_own hown2
          clear hown2
          replace hh7 := hh7.keeps hk8
          replace hkk := (hkk.trans hk7).trans hk8
          simp only [List.length_cons] at hc2 ⊢
          go_wp2_with fail
          refine (plainT_any A2 A7 ((2, IntKind.u64.wrap z % 268435457) :: (t :: ys)) c2 c7 _ h2 hh7 (by first | omega | (simp only [List.length_cons]; omega) | (simp only [List.length_cons, List.length_nil]; omega))).mono ?_
          rintro e w9 ⟨rfl, hk9⟩
          replace h2 := h2.keeps hk9
          replace hh7 := hh7.keeps hk9
          replace hkk := hkk.trans hk9
          go_wp2
          exact ⟨⟨k + 1, by omega, by go_num, lay_next (by first | omega | (simp only [List.length_cons]; omega) | (simp only [List.length_cons, List.length_nil]; omega)) hc2 hc7 h2 hh7 hkk⟩, by simp [intOf]; omega⟩
      · obtain rfl : k = n := by omega
        go_wp2_with fail
        refine (awake09_any _).mono ?_
        rintro e w4 ⟨rfl, hk4⟩
        go_wp2
        go_ret
        exact ⟨rfl, hkk.trans hk4⟩

end Go.Proofs.Ytknmcodpnhdghab
