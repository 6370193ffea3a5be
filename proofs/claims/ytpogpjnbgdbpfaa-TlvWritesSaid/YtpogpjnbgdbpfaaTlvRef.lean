/- The contract of the reference's Head. -/
import Derived.Test.YtpogpjnbgdbpfaaTlvHead
namespace Go.Proofs.Ytpogpjnbgdbpfaa
open Go.ChangeShapes Go.WideShapes Go.ChangeAt Go.RowKit

def Row (w wr : World) (v : Value) (n : Nat) (xs : List Int) : Prop := wr.ownsRow w.heap.size 5 1 v n (xs.map (Value.int .u8)) ∧ xs.length = n ∧ Keeps w wr
theorem own_keeps {w w' : World} {base : Nat} {e : TypeId} {size : Nat} {v : Value} {n : Nat} {xs : List Value} (h : w.ownsRow base e size v n xs) (hk : Keeps w w') : w'.ownsRow base e size v n xs := by
  refine ⟨h.1, ?_⟩
  rcases h.2 with hn | ⟨g, cap, cur, rfl, hb, hgg, rest⟩
  · exact .inl hn
  · exact .inr ⟨g, cap, cur, rfl, hb, (hk.block g (Array.getElem?_eq_some_iff.1 hgg).1).trans hgg, rest⟩
section
variable {w wr w' : World} {v : Value} {n : Nat} {xs : List Int}
theorem Row.keeps (h : Row w wr v n xs) (hk : Keeps wr w') : Row w w' v n xs := ⟨own_keeps h.1 hk, h.2.1, h.2.2.trans hk⟩
theorem Row.lit (hk : Keeps w wr) (x : Int) : Row w (wr.alloc (.cells #[.int .u8 x] 5)) (.slice (some ⟨wr.heap.size, 0, none⟩) 1 1) 1 [x] :=
  ⟨own_one hk.size x, rfl, hk.alloc _⟩
theorem Row.app {ys : List Int} {m : Nat} {v' : Value} (h : Row w wr v n xs) (hm : ys.length = m) (hown : w'.ownsRow w.heap.size 5 1 v' (n + m) (xs.map (Value.int .u8) ++ ys.map (Value.int .u8))) (hg : wr.grownBy w' v.ownBlock) : Row w w' v' (n + m) (xs ++ ys) := by
  refine ⟨by rw [List.map_append]; exact hown, by rw [List.length_append, h.2.1, hm], h.2.2.grown hg fun k hk => (h.1.lt k hk).1⟩
theorem Row.far {row : Option Nat} (h : Row w wr v n xs) (hg : wr.grownBy w' row) (hr : ∀ k, row = some k → k < w.heap.size) : w'.ownsRow w.heap.size 5 1 v n (xs.map (Value.int .u8)) := by
  refine h.1.kept hg ?_
  cases hv : v.ownBlock with
  | none => exact .inl rfl
  | some k =>
    refine .inr fun e => ?_
    have h1 := (h.1.lt k hv).1
    have h2 := hr k e.symm
    omega
theorem Row.form (h : Row w wr v n xs) : ∃ A c, v = .slice A n c ∧ n ≤ c := own_form h.1
theorem Row.gives {A : Option Addr} {c : Nat} (h : Row w wr (.slice A n c) n xs) : GivesBytes 5 xs w (.returned (.slice A n c)) wr := by
  obtain ⟨h1, h2, h3⟩ := h
  subst h2
  exact Fresh.gives ⟨h1, h3⟩
theorem Row.of_fresh {A : Option Addr} {c : Nat} (h : Fresh 5 w wr (.slice A n c) xs) (hn : xs.length = n) : Row w wr (.slice A n c) n xs := by
  subst hn; exact ⟨h.1, rfl, h.2⟩
end
theorem one_cells (x : Int) : ∀ u ∈ [x].map (Value.int .u8), u.oneCell' = true := ints_oneCell _ _

set_option maxHeartbeats 2000000 in
theorem refHead_true_small_short (cls num l : Int) (hn : num ≤ 9223372036854775807) (hl : l ≤ 9223372036854775807) (hs : max 0 num < 31) (ht : max 0 l < 128) (w : World) :
    Calls Try.prog 40 #[tagV cls num, .bool true, .int .i64 l] w (GivesBytes 5 (hOct cls (max 0 num) true (max 0 l)) w) := by
  obtain ⟨i0, hi0, hz0, hz1, hz2⟩ := info_parts u8_info
  have hand := i64_and3 cls
  have hq0 : 0 ≤ cls % 4 := by omega
  have hq1 : cls % 4 ≤ 3 := by omega
  have hmd := u8_or_made (cls % 4) hq0 hq1
  have hfb : fB cls true = cls % 4 * 64 + 32 := by unfold fB; simp
  have hspec : hOct cls (max 0 num) true (max 0 l) = [cls % 4 * 64 + 32 + max 0 num] ++ ([max 0 l]) := by unfold hOct tOct lOct; rw [if_pos hs, if_pos ht, hfb]
  rw [hspec]
  clear hspec hfb
  have hor := u8_or_low (cls % 4 * 64 + 32) (max 0 num) (by omega) (by omega) (by omega) (by omega) (by omega)
  have hx := Row.lit (w := w) (wr := w.alloc (.cells #[.int .i64 cls, .int .i64 num] 52)) ((Keeps.refl _).alloc _) (cls % 4 * 64 + 32 + max 0 num)
  rw [size_alloc1] at hx
  have hy := Row.lit (w := w) (wr := (w.alloc (.cells #[.int .i64 cls, .int .i64 num] 52)).alloc (.cells #[.int .u8 (cls % 4 * 64 + 32 + max 0 num)] 5)) (((Keeps.refl _).alloc _).alloc _) (max 0 l)
  rw [size_alloc1, size_alloc1] at hy
  have hxa := hx.keeps ((Keeps.refl _).alloc (.cells #[.int .u8 (max 0 l)] 5))
  have hrd := Reads.of_own hy.1
  have HX := hide hxa
  clear hx hy
  go_enter Try.func40, Try.ntmps40
  go_wp2_with (at_builtin; refine wpList_append_any _ rfl (.tmp 41) (.tmp 44) _ rfl w.heap.size 5 i0 _ 1 1 Try.underlying24 hi0 hz0 hz1 hz2 rfl (by omega) _ 1 _ rfl (unhide HX).1 _ _ 1 1 _ rfl hrd (ints_oneCell _ _) (by simp only [maxLen]; omega) (by omega) (unhide HX).2.2.size ?_; intro v' w1 hown1 hg1 _hat1)
  have hr := (unhide HX).app (ys := [max 0 l]) rfl hown1 hg1
  obtain ⟨A1, c1, rfl, _⟩ := hr.form
  have HR := hide hr
  clear hr hown1 hg1 hxa hrd
  go_wp2
  go_ret
  exact (unhide HR).gives

set_option maxHeartbeats 2000000 in
theorem refHead_true_small_long (cls num l : Int) (hn : num ≤ 9223372036854775807) (hl : l ≤ 9223372036854775807) (hs : max 0 num < 31) (ht : ¬ max 0 l < 128) (w : World) :
    Calls Try.prog 40 #[tagV cls num, .bool true, .int .i64 l] w (GivesBytes 5 (hOct cls (max 0 num) true (max 0 l)) w) := by
  obtain ⟨i0, hi0, hz0, hz1, hz2⟩ := info_parts u8_info
  have hand := i64_and3 cls
  have hq0 : 0 ≤ cls % 4 := by omega
  have hq1 : cls % 4 ≤ 3 := by omega
  have hmd := u8_or_made (cls % 4) hq0 hq1
  have hfb : fB cls true = cls % 4 * 64 + 32 := by unfold fB; simp
  have hspec : hOct cls (max 0 num) true (max 0 l) = [cls % 4 * 64 + 32 + max 0 num] ++ ((128 + (uLen (max 0 l) : Int)) :: uOct (max 0 l)) := by unfold hOct tOct lOct; rw [if_pos hs, if_neg ht, hfb]
  rw [hspec]
  clear hspec hfb
  have hor := u8_or_low (cls % 4 * 64 + 32) (max 0 num) (by omega) (by omega) (by omega) (by omega) (by omega)
  have hU : Hid (∀ w, Calls Try.prog 22 #[.int .u64 (max 0 l)] w (GivesBytes 5 (uOct (max 0 l)) w)) := refUnsigned_any (max 0 l) (by omega) (by omega)
  have hul := uLen_le (max 0 l)
  have hor2 := u8_or_len (uLen (max 0 l)) hul.2
  have hx := Row.lit (w := w) (wr := w.alloc (.cells #[.int .i64 cls, .int .i64 num] 52)) ((Keeps.refl _).alloc _) (cls % 4 * 64 + 32 + max 0 num)
  rw [size_alloc1] at hx
  have HX := hide hx
  clear hx
  go_enter Try.func40, Try.ntmps40
  go_wp2_with fail
  refine (unhide hU _).mono ?_
  rintro e w2 ⟨B, d, rfl, hd, hf⟩
  rw [uOct_length] at hd ⊢
  have HB := hide (Row.of_fresh (n := uLen (max 0 l)) (by rw [uOct_length] at hf; exact hf) (uOct_length _))
  have hx2 := (unhide HX).keeps hf.2
  clear hf
  have hwr : w2.heap.size ≤ w2.heap.size := Nat.le_refl _
  have hy := Row.lit (w := w) (wr := w2) hx2.2.2 (128 + (uLen (max 0 l) : Int))
  have hxa := hx2.keeps ((Keeps.refl _).alloc (.cells #[.int .u8 (128 + (uLen (max 0 l) : Int))] 5))
  have hrd := Reads.of_own hy.1
  have HX2 := hide hxa
  clear hx2 hy hxa
  generalize hun : uLen (max 0 l) = u at *
  have HUN := hide hun
  clear hun
  go_wp2_with (first | (at_builtin; refine wpList_append_any _ rfl (.tmp 49) (.tmp 54) _ rfl w.heap.size 5 i0 _ 1 1 Try.underlying24 hi0 hz0 hz1 hz2 rfl (by omega) _ 1 _ rfl (unhide HX2).1 _ _ 1 1 _ rfl hrd (ints_oneCell _ _) (by simp only [maxLen]; omega) (by omega) (unhide HX2).2.2.size ?_; intro v' w1 hown1 hg1 _hat1; have hr := (unhide HX2).app (ys := [128 + (u : Int)]) rfl hown1 hg1; have hb3 := ((unhide HB).keeps ((Keeps.refl _).alloc _)).far hg1 (fun k hk => by injection hk with hk; subst hk; simp); obtain ⟨A1, c1, rfl, _⟩ := hr.form; have hrd2 := Reads.of_own hb3; have HR := hide hr; clear hr hown1 hg1 hrd hb3 _hat1) | (at_builtin; refine wpList_append_any _ rfl (.tmp 56) (.tmp 57) _ rfl w.heap.size 5 i0 _ 1 1 Try.underlying24 hi0 hz0 hz1 hz2 rfl (by omega) _ (1 + 1) _ rfl (unhide HR).1 _ _ u d _ rfl hrd2 (ints_oneCell _ _) (by simp only [maxLen]; omega) (by omega) (unhide HR).2.2.size ?_; intro v' w6 hown1 hg1 _hat1))
  have hr2 := (unhide HR).app (ys := uOct (max 0 l)) (by rw [uOct_length]; exact unhide HUN) hown1 hg1
  obtain ⟨A2, c2, rfl, _⟩ := hr2.form
  have HR2 := hide hr2
  clear hr2 hown1 hg1 hrd2
  go_wp2
  go_ret
  have h := (unhide HR2).gives
  simpa using h

set_option maxHeartbeats 2000000 in
theorem refHead_true_big_short (cls num l : Int) (hn : num ≤ 9223372036854775807) (hl : l ≤ 9223372036854775807) (hs : ¬ max 0 num < 31) (ht : max 0 l < 128) (w : World) :
    Calls Try.prog 40 #[tagV cls num, .bool true, .int .i64 l] w (GivesBytes 5 (hOct cls (max 0 num) true (max 0 l)) w) := by
  obtain ⟨i0, hi0, hz0, hz1, hz2⟩ := info_parts u8_info
  have hand := i64_and3 cls
  have hq0 : 0 ≤ cls % 4 := by omega
  have hq1 : cls % 4 ≤ 3 := by omega
  have hmd := u8_or_made (cls % 4) hq0 hq1
  have hfb : fB cls true = cls % 4 * 64 + 32 := by unfold fB; simp
  have hspec : hOct cls (max 0 num) true (max 0 l) = (cls % 4 * 64 + 32 + 31) :: gOct (max 0 num) ++ ([max 0 l]) := by unfold hOct tOct lOct; rw [if_neg hs, if_pos ht, hfb]
  rw [hspec]
  clear hspec hfb
  have hor := u8_or_low (cls % 4 * 64 + 32) 31 (by omega) (by omega) (by omega) (by omega) (by omega)
  have hG : Hid (∀ w, Calls Try.prog 24 #[.int .u64 (max 0 num)] w (GivesBytes 5 (gOct (max 0 num)) w)) := refGroups_any (max 0 num) (by omega) (by omega)
  have hgl : (gOct (max 0 num)).length ≤ 10 := gOct_len _
  have hx := Row.lit (w := w) (wr := w.alloc (.cells #[.int .i64 cls, .int .i64 num] 52)) ((Keeps.refl _).alloc _) (cls % 4 * 64 + 32 + 31)
  rw [size_alloc1] at hx
  have HX := hide hx
  clear hx
  go_enter Try.func40, Try.ntmps40
  go_wp2_with fail
  refine (unhide hG _).mono ?_
  rintro e w2 ⟨G, dg, rfl, hdg, hf⟩
  have hrd := Reads.of_own hf.1
  have hx2 := (unhide HX).keeps hf.2
  have HX2 := hide hx2
  clear hf hx2
  generalize hgn : (gOct (max 0 num)).length = m at *
  have HGN := hide hgn
  clear hgn
  go_wp2_with (first | (at_builtin; refine wpList_append_any _ rfl (.tmp 32) (.tmp 35) _ rfl w.heap.size 5 i0 _ 1 1 Try.underlying24 hi0 hz0 hz1 hz2 rfl (by omega) _ 1 _ rfl (unhide HX2).1 _ _ m dg _ rfl hrd (ints_oneCell _ _) (by simp only [maxLen]; omega) (by omega) (unhide HX2).2.2.size ?_; intro v' w1 hown1 hg1 _hat1; have hr0 := (unhide HX2).app (ys := gOct (max 0 num)) (unhide HGN) hown1 hg1; obtain ⟨A0, c0, rfl, _⟩ := hr0.form; have HR0 := hide hr0; clear hr0 hown1 hg1 hrd _hat1; have hy := Row.lit (w := w) (wr := w1) (unhide HR0).2.2 (max 0 l); have hrd := Reads.of_own hy.1; have HX3 := hide ((unhide HR0).keeps ((Keeps.refl _).alloc (.cells #[.int .u8 (max 0 l)] 5))); clear hy) | (at_builtin; refine wpList_append_any _ rfl (.tmp 41) (.tmp 44) _ rfl w.heap.size 5 i0 _ 1 1 Try.underlying24 hi0 hz0 hz1 hz2 rfl (by omega) _ (1 + m) _ rfl (unhide HX3).1 _ _ 1 1 _ rfl hrd (ints_oneCell _ _) (by simp only [maxLen]; omega) (by omega) (unhide HX3).2.2.size ?_; intro v' w3 hown1 hg1 _hat1))
  have hr := (unhide HX3).app (ys := [max 0 l]) rfl hown1 hg1
  obtain ⟨A1, c1, rfl, _⟩ := hr.form
  have HR := hide hr
  clear hr hown1 hg1 hrd
  go_wp2
  go_ret
  exact (unhide HR).gives

set_option maxHeartbeats 2000000 in
theorem refHead_true_big_long (cls num l : Int) (hn : num ≤ 9223372036854775807) (hl : l ≤ 9223372036854775807) (hs : ¬ max 0 num < 31) (ht : ¬ max 0 l < 128) (w : World) :
    Calls Try.prog 40 #[tagV cls num, .bool true, .int .i64 l] w (GivesBytes 5 (hOct cls (max 0 num) true (max 0 l)) w) := by
  obtain ⟨i0, hi0, hz0, hz1, hz2⟩ := info_parts u8_info
  have hand := i64_and3 cls
  have hq0 : 0 ≤ cls % 4 := by omega
  have hq1 : cls % 4 ≤ 3 := by omega
  have hmd := u8_or_made (cls % 4) hq0 hq1
  have hfb : fB cls true = cls % 4 * 64 + 32 := by unfold fB; simp
  have hspec : hOct cls (max 0 num) true (max 0 l) = (cls % 4 * 64 + 32 + 31) :: gOct (max 0 num) ++ ((128 + (uLen (max 0 l) : Int)) :: uOct (max 0 l)) := by unfold hOct tOct lOct; rw [if_neg hs, if_neg ht, hfb]
  rw [hspec]
  clear hspec hfb
  have hor := u8_or_low (cls % 4 * 64 + 32) 31 (by omega) (by omega) (by omega) (by omega) (by omega)
  have hG : Hid (∀ w, Calls Try.prog 24 #[.int .u64 (max 0 num)] w (GivesBytes 5 (gOct (max 0 num)) w)) := refGroups_any (max 0 num) (by omega) (by omega)
  have hgl : (gOct (max 0 num)).length ≤ 10 := gOct_len _
  have hU : Hid (∀ w, Calls Try.prog 22 #[.int .u64 (max 0 l)] w (GivesBytes 5 (uOct (max 0 l)) w)) := refUnsigned_any (max 0 l) (by omega) (by omega)
  have hul := uLen_le (max 0 l)
  have hor2 := u8_or_len (uLen (max 0 l)) hul.2
  have hx := Row.lit (w := w) (wr := w.alloc (.cells #[.int .i64 cls, .int .i64 num] 52)) ((Keeps.refl _).alloc _) (cls % 4 * 64 + 32 + 31)
  rw [size_alloc1] at hx
  have HX := hide hx
  clear hx
  go_enter Try.func40, Try.ntmps40
  go_wp2_with fail
  refine (unhide hG _).mono ?_
  rintro e w2 ⟨G, dg, rfl, hdg, hf⟩
  have hrd := Reads.of_own hf.1
  have hx2 := (unhide HX).keeps hf.2
  have HX2 := hide hx2
  clear hf hx2
  generalize hgn : (gOct (max 0 num)).length = m at *
  have HGN := hide hgn
  clear hgn
  go_wp2_with (at_builtin; refine wpList_append_any _ rfl (.tmp 32) (.tmp 35) _ rfl w.heap.size 5 i0 _ 1 1 Try.underlying24 hi0 hz0 hz1 hz2 rfl (by omega) _ 1 _ rfl (unhide HX2).1 _ _ m dg _ rfl hrd (ints_oneCell _ _) (by simp only [maxLen]; omega) (by omega) (unhide HX2).2.2.size ?_; intro v' w1 hown1 hg1 _hat1)
  have hr0 := (unhide HX2).app (ys := gOct (max 0 num)) (unhide HGN) hown1 hg1
  obtain ⟨A0, c0, rfl, _⟩ := hr0.form
  have HR0 := hide hr0
  clear hr0 hown1 hg1 hrd _hat1
  go_wp2_with fail
  refine (unhide hU _).mono ?_
  rintro e w4 ⟨B, d, rfl, hd, hf⟩
  rw [uOct_length] at hd ⊢
  have HB := hide (Row.of_fresh (n := uLen (max 0 l)) (by rw [uOct_length] at hf; exact hf) (uOct_length _))
  have hx2 := (unhide HR0).keeps hf.2
  clear hf
  have hy := Row.lit (w := w) (wr := w4) hx2.2.2 (128 + (uLen (max 0 l) : Int))
  have hxa := hx2.keeps ((Keeps.refl _).alloc (.cells #[.int .u8 (128 + (uLen (max 0 l) : Int))] 5))
  have hrd := Reads.of_own hy.1
  have HX3 := hide hxa
  have HR0lt := hide ((unhide HR0).1.lt)
  clear hx2 hy hxa
  generalize hun : uLen (max 0 l) = u at *
  have HUN := hide hun
  clear hun
  go_wp2_with (first | (at_builtin; refine wpList_append_any _ rfl (.tmp 49) (.tmp 54) _ rfl w.heap.size 5 i0 _ 1 1 Try.underlying24 hi0 hz0 hz1 hz2 rfl (by omega) _ (1 + m) _ rfl (unhide HX3).1 _ _ 1 1 _ rfl hrd (ints_oneCell _ _) (by simp only [maxLen]; omega) (by omega) (unhide HX3).2.2.size ?_; intro v' w5 hown1 hg1 _hat1; have hr := (unhide HX3).app (ys := [128 + (u : Int)]) rfl hown1 hg1; have hb3 := ((unhide HB).keeps ((Keeps.refl _).alloc _)).far hg1 (fun k hk => ((unhide HR0lt) k hk).2); obtain ⟨A1, c1, rfl, _⟩ := hr.form; have hrd2 := Reads.of_own hb3; have HR := hide hr; clear hr hown1 hg1 hrd hb3 _hat1) | (at_builtin; refine wpList_append_any _ rfl (.tmp 56) (.tmp 57) _ rfl w.heap.size 5 i0 _ 1 1 Try.underlying24 hi0 hz0 hz1 hz2 rfl (by omega) _ (1 + m + 1) _ rfl (unhide HR).1 _ _ u d _ rfl hrd2 (ints_oneCell _ _) (by simp only [maxLen]; omega) (by omega) (unhide HR).2.2.size ?_; intro v' w6 hown1 hg1 _hat1))
  have hr2 := (unhide HR).app (ys := uOct (max 0 l)) (by rw [uOct_length]; exact unhide HUN) hown1 hg1
  obtain ⟨A2, c2, rfl, _⟩ := hr2.form
  have HR2 := hide hr2
  clear hr2 hown1 hg1 hrd2
  go_wp2
  go_ret
  have h := (unhide HR2).gives
  simpa using h

set_option maxHeartbeats 2000000 in
theorem refHead_false_small_short (cls num l : Int) (hn : num ≤ 9223372036854775807) (hl : l ≤ 9223372036854775807) (hs : max 0 num < 31) (ht : max 0 l < 128) (w : World) :
    Calls Try.prog 40 #[tagV cls num, .bool false, .int .i64 l] w (GivesBytes 5 (hOct cls (max 0 num) false (max 0 l)) w) := by
  obtain ⟨i0, hi0, hz0, hz1, hz2⟩ := info_parts u8_info
  have hand := i64_and3 cls
  have hq0 : 0 ≤ cls % 4 := by omega
  have hq1 : cls % 4 ≤ 3 := by omega
  have hfb : fB cls false = cls % 4 * 64 := by unfold fB; simp
  have hspec : hOct cls (max 0 num) false (max 0 l) = [cls % 4 * 64 + max 0 num] ++ ([max 0 l]) := by unfold hOct tOct lOct; rw [if_pos hs, if_pos ht, hfb]
  rw [hspec]
  clear hspec hfb
  have hor := u8_or_low (cls % 4 * 64) (max 0 num) (by omega) (by omega) (by omega) (by omega) (by omega)
  have hx := Row.lit (w := w) (wr := w.alloc (.cells #[.int .i64 cls, .int .i64 num] 52)) ((Keeps.refl _).alloc _) (cls % 4 * 64 + max 0 num)
  rw [size_alloc1] at hx
  have hy := Row.lit (w := w) (wr := (w.alloc (.cells #[.int .i64 cls, .int .i64 num] 52)).alloc (.cells #[.int .u8 (cls % 4 * 64 + max 0 num)] 5)) (((Keeps.refl _).alloc _).alloc _) (max 0 l)
  rw [size_alloc1, size_alloc1] at hy
  have hxa := hx.keeps ((Keeps.refl _).alloc (.cells #[.int .u8 (max 0 l)] 5))
  have hrd := Reads.of_own hy.1
  have HX := hide hxa
  clear hx hy
  go_enter Try.func40, Try.ntmps40
  go_wp2_with (at_builtin; refine wpList_append_any _ rfl (.tmp 41) (.tmp 44) _ rfl w.heap.size 5 i0 _ 1 1 Try.underlying24 hi0 hz0 hz1 hz2 rfl (by omega) _ 1 _ rfl (unhide HX).1 _ _ 1 1 _ rfl hrd (ints_oneCell _ _) (by simp only [maxLen]; omega) (by omega) (unhide HX).2.2.size ?_; intro v' w1 hown1 hg1 _hat1)
  have hr := (unhide HX).app (ys := [max 0 l]) rfl hown1 hg1
  obtain ⟨A1, c1, rfl, _⟩ := hr.form
  have HR := hide hr
  clear hr hown1 hg1 hxa hrd
  go_wp2
  go_ret
  exact (unhide HR).gives

set_option maxHeartbeats 2000000 in
theorem refHead_false_small_long (cls num l : Int) (hn : num ≤ 9223372036854775807) (hl : l ≤ 9223372036854775807) (hs : max 0 num < 31) (ht : ¬ max 0 l < 128) (w : World) :
    Calls Try.prog 40 #[tagV cls num, .bool false, .int .i64 l] w (GivesBytes 5 (hOct cls (max 0 num) false (max 0 l)) w) := by
  obtain ⟨i0, hi0, hz0, hz1, hz2⟩ := info_parts u8_info
  have hand := i64_and3 cls
  have hq0 : 0 ≤ cls % 4 := by omega
  have hq1 : cls % 4 ≤ 3 := by omega
  have hfb : fB cls false = cls % 4 * 64 := by unfold fB; simp
  have hspec : hOct cls (max 0 num) false (max 0 l) = [cls % 4 * 64 + max 0 num] ++ ((128 + (uLen (max 0 l) : Int)) :: uOct (max 0 l)) := by unfold hOct tOct lOct; rw [if_pos hs, if_neg ht, hfb]
  rw [hspec]
  clear hspec hfb
  have hor := u8_or_low (cls % 4 * 64) (max 0 num) (by omega) (by omega) (by omega) (by omega) (by omega)
  have hU : Hid (∀ w, Calls Try.prog 22 #[.int .u64 (max 0 l)] w (GivesBytes 5 (uOct (max 0 l)) w)) := refUnsigned_any (max 0 l) (by omega) (by omega)
  have hul := uLen_le (max 0 l)
  have hor2 := u8_or_len (uLen (max 0 l)) hul.2
  have hx := Row.lit (w := w) (wr := w.alloc (.cells #[.int .i64 cls, .int .i64 num] 52)) ((Keeps.refl _).alloc _) (cls % 4 * 64 + max 0 num)
  rw [size_alloc1] at hx
  have HX := hide hx
  clear hx
  go_enter Try.func40, Try.ntmps40
  go_wp2_with fail
  refine (unhide hU _).mono ?_
  rintro e w2 ⟨B, d, rfl, hd, hf⟩
  rw [uOct_length] at hd ⊢
  have HB := hide (Row.of_fresh (n := uLen (max 0 l)) (by rw [uOct_length] at hf; exact hf) (uOct_length _))
  have hx2 := (unhide HX).keeps hf.2
  clear hf
  have hwr : w2.heap.size ≤ w2.heap.size := Nat.le_refl _
  have hy := Row.lit (w := w) (wr := w2) hx2.2.2 (128 + (uLen (max 0 l) : Int))
  have hxa := hx2.keeps ((Keeps.refl _).alloc (.cells #[.int .u8 (128 + (uLen (max 0 l) : Int))] 5))
  have hrd := Reads.of_own hy.1
  have HX2 := hide hxa
  clear hx2 hy hxa
  generalize hun : uLen (max 0 l) = u at *
  have HUN := hide hun
  clear hun
  go_wp2_with (first | (at_builtin; refine wpList_append_any _ rfl (.tmp 49) (.tmp 54) _ rfl w.heap.size 5 i0 _ 1 1 Try.underlying24 hi0 hz0 hz1 hz2 rfl (by omega) _ 1 _ rfl (unhide HX2).1 _ _ 1 1 _ rfl hrd (ints_oneCell _ _) (by simp only [maxLen]; omega) (by omega) (unhide HX2).2.2.size ?_; intro v' w1 hown1 hg1 _hat1; have hr := (unhide HX2).app (ys := [128 + (u : Int)]) rfl hown1 hg1; have hb3 := ((unhide HB).keeps ((Keeps.refl _).alloc _)).far hg1 (fun k hk => by injection hk with hk; subst hk; simp); obtain ⟨A1, c1, rfl, _⟩ := hr.form; have hrd2 := Reads.of_own hb3; have HR := hide hr; clear hr hown1 hg1 hrd hb3 _hat1) | (at_builtin; refine wpList_append_any _ rfl (.tmp 56) (.tmp 57) _ rfl w.heap.size 5 i0 _ 1 1 Try.underlying24 hi0 hz0 hz1 hz2 rfl (by omega) _ (1 + 1) _ rfl (unhide HR).1 _ _ u d _ rfl hrd2 (ints_oneCell _ _) (by simp only [maxLen]; omega) (by omega) (unhide HR).2.2.size ?_; intro v' w6 hown1 hg1 _hat1))
  have hr2 := (unhide HR).app (ys := uOct (max 0 l)) (by rw [uOct_length]; exact unhide HUN) hown1 hg1
  obtain ⟨A2, c2, rfl, _⟩ := hr2.form
  have HR2 := hide hr2
  clear hr2 hown1 hg1 hrd2
  go_wp2
  go_ret
  have h := (unhide HR2).gives
  simpa using h

set_option maxHeartbeats 2000000 in
theorem refHead_false_big_short (cls num l : Int) (hn : num ≤ 9223372036854775807) (hl : l ≤ 9223372036854775807) (hs : ¬ max 0 num < 31) (ht : max 0 l < 128) (w : World) :
    Calls Try.prog 40 #[tagV cls num, .bool false, .int .i64 l] w (GivesBytes 5 (hOct cls (max 0 num) false (max 0 l)) w) := by
  obtain ⟨i0, hi0, hz0, hz1, hz2⟩ := info_parts u8_info
  have hand := i64_and3 cls
  have hq0 : 0 ≤ cls % 4 := by omega
  have hq1 : cls % 4 ≤ 3 := by omega
  have hfb : fB cls false = cls % 4 * 64 := by unfold fB; simp
  have hspec : hOct cls (max 0 num) false (max 0 l) = (cls % 4 * 64 + 31) :: gOct (max 0 num) ++ ([max 0 l]) := by unfold hOct tOct lOct; rw [if_neg hs, if_pos ht, hfb]
  rw [hspec]
  clear hspec hfb
  have hor := u8_or_low (cls % 4 * 64) 31 (by omega) (by omega) (by omega) (by omega) (by omega)
  have hG : Hid (∀ w, Calls Try.prog 24 #[.int .u64 (max 0 num)] w (GivesBytes 5 (gOct (max 0 num)) w)) := refGroups_any (max 0 num) (by omega) (by omega)
  have hgl : (gOct (max 0 num)).length ≤ 10 := gOct_len _
  have hx := Row.lit (w := w) (wr := w.alloc (.cells #[.int .i64 cls, .int .i64 num] 52)) ((Keeps.refl _).alloc _) (cls % 4 * 64 + 31)
  rw [size_alloc1] at hx
  have HX := hide hx
  clear hx
  go_enter Try.func40, Try.ntmps40
  go_wp2_with fail
  refine (unhide hG _).mono ?_
  rintro e w2 ⟨G, dg, rfl, hdg, hf⟩
  have hrd := Reads.of_own hf.1
  have hx2 := (unhide HX).keeps hf.2
  have HX2 := hide hx2
  clear hf hx2
  generalize hgn : (gOct (max 0 num)).length = m at *
  have HGN := hide hgn
  clear hgn
  go_wp2_with (first | (at_builtin; refine wpList_append_any _ rfl (.tmp 32) (.tmp 35) _ rfl w.heap.size 5 i0 _ 1 1 Try.underlying24 hi0 hz0 hz1 hz2 rfl (by omega) _ 1 _ rfl (unhide HX2).1 _ _ m dg _ rfl hrd (ints_oneCell _ _) (by simp only [maxLen]; omega) (by omega) (unhide HX2).2.2.size ?_; intro v' w1 hown1 hg1 _hat1; have hr0 := (unhide HX2).app (ys := gOct (max 0 num)) (unhide HGN) hown1 hg1; obtain ⟨A0, c0, rfl, _⟩ := hr0.form; have HR0 := hide hr0; clear hr0 hown1 hg1 hrd _hat1; have hy := Row.lit (w := w) (wr := w1) (unhide HR0).2.2 (max 0 l); have hrd := Reads.of_own hy.1; have HX3 := hide ((unhide HR0).keeps ((Keeps.refl _).alloc (.cells #[.int .u8 (max 0 l)] 5))); clear hy) | (at_builtin; refine wpList_append_any _ rfl (.tmp 41) (.tmp 44) _ rfl w.heap.size 5 i0 _ 1 1 Try.underlying24 hi0 hz0 hz1 hz2 rfl (by omega) _ (1 + m) _ rfl (unhide HX3).1 _ _ 1 1 _ rfl hrd (ints_oneCell _ _) (by simp only [maxLen]; omega) (by omega) (unhide HX3).2.2.size ?_; intro v' w3 hown1 hg1 _hat1))
  have hr := (unhide HX3).app (ys := [max 0 l]) rfl hown1 hg1
  obtain ⟨A1, c1, rfl, _⟩ := hr.form
  have HR := hide hr
  clear hr hown1 hg1 hrd
  go_wp2
  go_ret
  exact (unhide HR).gives

set_option maxHeartbeats 2000000 in
theorem refHead_false_big_long (cls num l : Int) (hn : num ≤ 9223372036854775807) (hl : l ≤ 9223372036854775807) (hs : ¬ max 0 num < 31) (ht : ¬ max 0 l < 128) (w : World) :
    Calls Try.prog 40 #[tagV cls num, .bool false, .int .i64 l] w (GivesBytes 5 (hOct cls (max 0 num) false (max 0 l)) w) := by
  obtain ⟨i0, hi0, hz0, hz1, hz2⟩ := info_parts u8_info
  have hand := i64_and3 cls
  have hq0 : 0 ≤ cls % 4 := by omega
  have hq1 : cls % 4 ≤ 3 := by omega
  have hfb : fB cls false = cls % 4 * 64 := by unfold fB; simp
  have hspec : hOct cls (max 0 num) false (max 0 l) = (cls % 4 * 64 + 31) :: gOct (max 0 num) ++ ((128 + (uLen (max 0 l) : Int)) :: uOct (max 0 l)) := by unfold hOct tOct lOct; rw [if_neg hs, if_neg ht, hfb]
  rw [hspec]
  clear hspec hfb
  have hor := u8_or_low (cls % 4 * 64) 31 (by omega) (by omega) (by omega) (by omega) (by omega)
  have hG : Hid (∀ w, Calls Try.prog 24 #[.int .u64 (max 0 num)] w (GivesBytes 5 (gOct (max 0 num)) w)) := refGroups_any (max 0 num) (by omega) (by omega)
  have hgl : (gOct (max 0 num)).length ≤ 10 := gOct_len _
  have hU : Hid (∀ w, Calls Try.prog 22 #[.int .u64 (max 0 l)] w (GivesBytes 5 (uOct (max 0 l)) w)) := refUnsigned_any (max 0 l) (by omega) (by omega)
  have hul := uLen_le (max 0 l)
  have hor2 := u8_or_len (uLen (max 0 l)) hul.2
  have hx := Row.lit (w := w) (wr := w.alloc (.cells #[.int .i64 cls, .int .i64 num] 52)) ((Keeps.refl _).alloc _) (cls % 4 * 64 + 31)
  rw [size_alloc1] at hx
  have HX := hide hx
  clear hx
  go_enter Try.func40, Try.ntmps40
  go_wp2_with fail
  refine (unhide hG _).mono ?_
  rintro e w2 ⟨G, dg, rfl, hdg, hf⟩
  have hrd := Reads.of_own hf.1
  have hx2 := (unhide HX).keeps hf.2
  have HX2 := hide hx2
  clear hf hx2
  generalize hgn : (gOct (max 0 num)).length = m at *
  have HGN := hide hgn
  clear hgn
  go_wp2_with (at_builtin; refine wpList_append_any _ rfl (.tmp 32) (.tmp 35) _ rfl w.heap.size 5 i0 _ 1 1 Try.underlying24 hi0 hz0 hz1 hz2 rfl (by omega) _ 1 _ rfl (unhide HX2).1 _ _ m dg _ rfl hrd (ints_oneCell _ _) (by simp only [maxLen]; omega) (by omega) (unhide HX2).2.2.size ?_; intro v' w1 hown1 hg1 _hat1)
  have hr0 := (unhide HX2).app (ys := gOct (max 0 num)) (unhide HGN) hown1 hg1
  obtain ⟨A0, c0, rfl, _⟩ := hr0.form
  have HR0 := hide hr0
  clear hr0 hown1 hg1 hrd _hat1
  go_wp2_with fail
  refine (unhide hU _).mono ?_
  rintro e w4 ⟨B, d, rfl, hd, hf⟩
  rw [uOct_length] at hd ⊢
  have HB := hide (Row.of_fresh (n := uLen (max 0 l)) (by rw [uOct_length] at hf; exact hf) (uOct_length _))
  have hx2 := (unhide HR0).keeps hf.2
  clear hf
  have hy := Row.lit (w := w) (wr := w4) hx2.2.2 (128 + (uLen (max 0 l) : Int))
  have hxa := hx2.keeps ((Keeps.refl _).alloc (.cells #[.int .u8 (128 + (uLen (max 0 l) : Int))] 5))
  have hrd := Reads.of_own hy.1
  have HX3 := hide hxa
  have HR0lt := hide ((unhide HR0).1.lt)
  clear hx2 hy hxa
  generalize hun : uLen (max 0 l) = u at *
  have HUN := hide hun
  clear hun
  go_wp2_with (first | (at_builtin; refine wpList_append_any _ rfl (.tmp 49) (.tmp 54) _ rfl w.heap.size 5 i0 _ 1 1 Try.underlying24 hi0 hz0 hz1 hz2 rfl (by omega) _ (1 + m) _ rfl (unhide HX3).1 _ _ 1 1 _ rfl hrd (ints_oneCell _ _) (by simp only [maxLen]; omega) (by omega) (unhide HX3).2.2.size ?_; intro v' w5 hown1 hg1 _hat1; have hr := (unhide HX3).app (ys := [128 + (u : Int)]) rfl hown1 hg1; have hb3 := ((unhide HB).keeps ((Keeps.refl _).alloc _)).far hg1 (fun k hk => ((unhide HR0lt) k hk).2); obtain ⟨A1, c1, rfl, _⟩ := hr.form; have hrd2 := Reads.of_own hb3; have HR := hide hr; clear hr hown1 hg1 hrd hb3 _hat1) | (at_builtin; refine wpList_append_any _ rfl (.tmp 56) (.tmp 57) _ rfl w.heap.size 5 i0 _ 1 1 Try.underlying24 hi0 hz0 hz1 hz2 rfl (by omega) _ (1 + m + 1) _ rfl (unhide HR).1 _ _ u d _ rfl hrd2 (ints_oneCell _ _) (by simp only [maxLen]; omega) (by omega) (unhide HR).2.2.size ?_; intro v' w6 hown1 hg1 _hat1))
  have hr2 := (unhide HR).app (ys := uOct (max 0 l)) (by rw [uOct_length]; exact unhide HUN) hown1 hg1
  obtain ⟨A2, c2, rfl, _⟩ := hr2.form
  have HR2 := hide hr2
  clear hr2 hown1 hg1 hrd2
  go_wp2
  go_ret
  have h := (unhide HR2).gives
  simpa using h

theorem refHead_any (cls num l : Int) (made : Bool) (hn : num ≤ 9223372036854775807) (hl : l ≤ 9223372036854775807) (w : World) :
    Calls Try.prog 40 #[tagV cls num, .bool made, .int .i64 l] w (GivesBytes 5 (hOct cls (max num 0) made (max l 0)) w) := by
  rw [Int.max_comm num 0, Int.max_comm l 0]
  by_cases hs : max 0 num < 31 <;> by_cases ht : max 0 l < 128 <;> cases made
  · exact refHead_false_small_short cls num l hn hl hs ht w
  · exact refHead_true_small_short cls num l hn hl hs ht w
  · exact refHead_false_small_long cls num l hn hl hs ht w
  · exact refHead_true_small_long cls num l hn hl hs ht w
  · exact refHead_false_big_short cls num l hn hl hs ht w
  · exact refHead_true_big_short cls num l hn hl hs ht w
  · exact refHead_false_big_long cls num l hn hl hs ht w
  · exact refHead_true_big_long cls num l hn hl hs ht w

end Go.Proofs.Ytpogpjnbgdbpfaa
