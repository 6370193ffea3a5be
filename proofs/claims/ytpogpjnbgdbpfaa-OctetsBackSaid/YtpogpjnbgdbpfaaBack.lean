/- The walk of OctetsBack: what is written is read; what is read, written again, is the same octets. -/
import Derived.Test.YtpogpjnbgdbpfaaBackNum
import Derived.Test.YtpogpjnbgdbpfaaCompare
import Derived.Deep.RegionHeld3
namespace Go.Proofs.Ytpogpjnbgdbpfaa
open Go.ChangeShapes Go.WideShapes Go.ChangeAt Go.RowKit

set_option maxHeartbeats 1000000 in
theorem copy_any (A : Option Addr) (xs : List Int) (c : Nat) (hl : xs.length ≤ 1000000) (w : World) (hh : Holds w A xs) :
    Calls Try.prog 35 #[.slice A xs.length c] w (GivesBytes 5 xs w) := by
  obtain ⟨i0, hi0, hz0, hz1, hz2⟩ := info_parts u8_info
  go_enter Try.func35, Try.ntmps35
  go_wp2_with (at_builtin; refine wpList_append_any _ rfl (.const (.slice none 0 0)) (.tmp 3) _ rfl w.heap.size 5 i0 _ 1 1 Try.underlying24 hi0 hz0 hz1 hz2 rfl (by omega) (.slice none 0 0) 0 [] rfl ⟨by simp, .inl ⟨rfl, rfl⟩⟩ w.heap.size A xs.length c _ rfl hh (ints_oneCell _ _) (by simp only [maxLen]; omega) (by omega) (Nat.le_refl _) ?_; intro v' w1 hown1 hg1 hat1)
  go_ret
  have hf : Fresh 5 w w1 v' xs := ⟨by simpa using hown1, (Keeps.refl _).grown hg1 (fun k hk => by simp [Value.ownBlock] at hk)⟩
  exact hf.gives

theorem grp_range (k : Nat) : ∀ v, ∀ x ∈ grp k v, 0 ≤ x ∧ x ≤ 255 := by
  induction k with
  | zero => intro v x hx; simp [grp] at hx
  | succ k ih =>
    intro v x hx
    simp only [grp, List.mem_append, List.mem_singleton] at hx
    rcases hx with hx | rfl
    · exact ih _ x hx
    · omega
theorem gOct_bytes (u : Int) (_h : 0 ≤ u) : Bytes8 (gOct u) := by
  intro x hx
  simp only [gOct, List.mem_append, List.mem_singleton] at hx
  rcases hx with hx | rfl
  · exact grp_range _ _ x hx
  · omega
theorem append_held {w' : World} {base : Nat} {v' : Value} {xs ys : List Int} (h : w'.ownsRow base 5 1 v' (xs.length + ys.length) (xs.map (Value.int .u8) ++ ys.map (Value.int .u8))) :
    ∃ A c, v' = .slice A (xs ++ ys).length c ∧ (xs ++ ys).length ≤ c ∧ Holds w' A (xs ++ ys) := by
  rw [← List.length_append, ← List.map_append] at h
  obtain ⟨A, c, rfl, hc⟩ := own_form h
  refine ⟨A, c, rfl, hc, ?_⟩
  rcases h.2 with ⟨e, hn⟩ | ⟨g, cap, cur, e, _, _, _, _⟩
  · injection e with e1 e2 e3
    have hz : xs ++ ys = [] := List.eq_nil_of_length_eq_zero hn
    rw [hz, e1]
    exact Holds.nil _
  · injection e with e1 e2 e3
    subst e3
    exact Reads.of_own h
theorem sb1 (A : Option Addr) (xs : List Int) (c : Nat) (l : List Int) (e : l = xs) (hx : Bytes8 xs) :
    Hid (∀ (w : World) (B : Option Addr) (d : Nat), Holds w B l → Holds w A xs → Calls Try.prog 18 #[.slice B l.length d, .slice A xs.length c] w fun e w' => e = .returned (.bool true) ∧ w = w') := by
  subst e
  intro w B d h1 h2
  have := sameBytes_any B A l l d c w h1 h2 hx hx
  rwa [decide_eq_true rfl] at this
theorem sb2 (A : Option Addr) (xs : List Int) (c : Nat) (l : List Int) (m : Nat) (hm : m ≤ xs.length) (e : l = xs.take m) (hx : Bytes8 xs) :
    Hid (∀ (w : World) (B : Option Addr) (d : Nat), Holds w B l → Holds w A xs → Calls Try.prog 18 #[.slice B l.length d, .slice A m c] w fun e w' => e = .returned (.bool true) ∧ w = w') := by
  subst e
  intro w B d h1 h2
  have := sameBytes_any B A (xs.take m) (xs.take m) d c w h1 (h2.take m hm) (hx.take m) (hx.take m)
  rw [decide_eq_true rfl] at this
  rw [List.length_take_of_le hm] at this ⊢
  exact this
theorem hold_step {w0 w w' : World} {A : Option Addr} {xs : List Int} (h : Holds w A xs ∧ Keeps w0 w) (hb : Keeps w w') : Holds w' A xs ∧ Keeps w0 w' := ⟨h.1.keeps hb, h.2.trans hb⟩
theorem hold_start {w0 w : World} {A : Option Addr} {xs : List Int} (h : Holds w A xs) (hk : Keeps w0 w) : Holds w.drew A xs ∧ Keeps w0 w.drew := ⟨h, hk.drew⟩
theorem hold_one {w0 w : World} {A : Option Addr} {xs : List Int} (h : Holds w A xs ∧ Keeps w0 w) : Holds w A xs := h.1

set_option maxRecDepth 100000 in
set_option maxHeartbeats 16000000 in
theorem back_any (v u : Int) (A B : Option Addr) (xs ys : List Int) (c d : Nat) (w : World) (h1 : -9223372036854775808 ≤ v) (h2 : v ≤ 9223372036854775807) (h3 : 0 ≤ u) (h4 : u ≤ 18446744073709551615)
    (hh : Holds w A xs) (hx : Bytes8 xs) (hl : xs.length ≤ maxLen) (hc : xs.length ≤ c) (hh2 : Holds w B ys) (hx2 : Bytes8 ys) (hl2 : ys.length ≤ maxLen) (_hc2 : ys.length ≤ d) :
    Calls Try.prog 5 #[.int .i64 v, .int .u64 u, .slice A xs.length c, .slice B ys.length d] w fun e w' => e = .returned (.bool true) ∧ Keeps w w' := by
  obtain ⟨i0, hi0, hz0, hz1, hz2⟩ := info_parts u8_info
  have hm : xs.length ≤ 9223372036854775807 := by unfold maxLen at hl; exact hl
  have hm2 : ys.length ≤ 9223372036854775807 := by unfold maxLen at hl2; exact hl2
  have HL := hide hl
  clear hl hl2
  by_cases hb1 : 300 < xs.length
  · go_enter Try.func5, Try.ntmps5
    go_wp2_with (go_at_call 16; refine (awake02_any _).mono ?_; rintro e w1 ⟨rfl, hk⟩)
    all_goals
      go_ret
      exact ⟨rfl, hk⟩
  · by_cases hb2 : 300 < ys.length
    · go_enter Try.func5, Try.ntmps5
      go_wp2_with (go_at_call 16; refine (awake02_any _).mono ?_; rintro e w1 ⟨rfl, hk⟩)
      all_goals
        go_ret
        exact ⟨rfl, hk⟩
    · have hn1 : xs.length ≤ 300 := by omega
      have hn2 : ys.length ≤ 300 := by omega
      clear hb1 hb2 hm hm2
      have hS := takeS_back v h1 h2
      have hU := takeU_back u h3 h4
      have hG := takeG_back u h3 h4 ys
      have HS := hide hS
      have HU := hide hU
      have HG := hide hG
      clear hS hU hG
      go_enter Try.func5, Try.ntmps5
      go_wp2_with fail
      refine (signed_any v h1 h2 _).mono ?_
      rintro e w1 ⟨A1, c1, rfl, hc1, hf1⟩
      go_wp2_with fail
      refine (takeSigned_any A1 (sOct v) c1 (lo_range _ _) (by rw [sOct_length]; have := sLen_le v; simp only [maxLen]; omega) hc1 _ hf1.holds).mono ?_
      rintro e w2 ⟨rfl, hk2⟩
      rw [unhide HS]
      have hk := hf1.2.trans hk2
      clear hf1 hk2
      go_wp2_with fail
      refine (unsigned_any u h3 h4 _).mono ?_
      rintro e w3 ⟨A3, c3, rfl, hc3, hf3⟩
      go_wp2_with fail
      refine (takeUnsigned_any A3 (uOct u) c3 (lo_range _ _) (by rw [uOct_length]; have := uLen_le u; simp only [maxLen]; omega) _ hf3.holds).mono ?_
      rintro e w4 ⟨rfl, hk4⟩
      rw [unhide HU]
      replace hk := (hk.trans hf3.2).trans hk4
      clear hf3 hk4
      go_wp2_with fail
      refine (groups_any u h3 h4 _).mono ?_
      rintro e w5 ⟨A5, c5, rfl, hc5, hf5⟩
      replace hk := hk.trans hf5.2
      have hg8 : (gOct u).length ≤ 10 := by rw [gOct_length]; exact (gLen_le u).2
      go_wp2_with fail
      refine (copy_any A5 (gOct u) c5 (by omega) _ hf5.holds).mono ?_
      rintro e w6 ⟨A6, c6, rfl, hc6, hf6⟩
      have hs5 := hk.size
      replace hk := hk.trans hf6.2
      have HH := hide hh
      replace hh2 := hh2.keeps hk
      clear hh
      have hsz := hf5.2.size
      have hsz6 := hf6.2.size
      go_wp2_with (at_builtin; refine wpList_append_any _ rfl (.tmp 49) (.tmp 50) _ rfl w5.heap.size 5 i0 _ 1 1 Try.underlying24 hi0 hz0 hz1 hz2 rfl (by omega) (.slice A6 (gOct u).length c6) (gOct u).length _ rfl hf6.1 w6.heap.size B ys.length d _ rfl hh2 (ints_oneCell _ _) (by simp only [maxLen]; omega) (by omega) hsz6 ?_; intro v' w7 hown7 hg7 hat7)
      have hk7 : Keeps w w7 := hk.grown hg7 (fun k hkk => by have := (hf6.1.lt k hkk).1; omega)
      obtain ⟨A7, c7, rfl, hc7, hh7⟩ := append_held hown7
      clear hown7 hg7 hat7 hf6 hf5 hk hh2 hsz hsz6 hs5
      have hb7 : Bytes8 (gOct u ++ ys) := by
        intro x m
        rcases List.mem_append.1 m with m | m
        · exact gOct_bytes u h3 x m
        · exact hx2 x m
      refine (takeGroups_any A7 (gOct u ++ ys) c7 hb7 (by rw [List.length_append]; simp only [maxLen]; omega) _ hh7).mono ?_
      rintro e w8 ⟨rfl, rfl⟩
      rw [unhide HG]
      have hGL := gOct_length u
      have HGL := hide hGL
      clear hGL hh7 hb7
      rw [unhide HGL] at hg8 ⊢
      go_wp2_with fail
      refine (awake02_any _).mono ?_
      rintro e w8 ⟨rfl, hk8⟩
      have hk := hk7.trans hk8
      clear hk7 hk8
      have FS : Hid ((takeS xs).2 = 0 → sOct (takeS xs).1 = xs ∧ -9223372036854775808 ≤ (takeS xs).1 ∧ (takeS xs).1 ≤ 9223372036854775807) := fun e => takeS_is hx e
      have FU : Hid ((takeU xs).2 = 0 → uOct (takeU xs).1 = xs ∧ 0 ≤ (takeU xs).1 ∧ (takeU xs).1 ≤ 18446744073709551615) := fun e => takeU_is hx e
      have FG : Hid ((takeG 0 0 xs).2.2 = 0 → ∃ m : Nat, (takeG 0 0 xs).2.1 = (m : Int) ∧ 1 ≤ m ∧ m ≤ xs.length ∧ gOct (takeG 0 0 xs).1 = xs.take m ∧ 0 ≤ (takeG 0 0 xs).1 ∧ (takeG 0 0 xs).1 ≤ 18446744073709551615) := fun e => takeG_is hx e
      go_wp2_with fail
      refine (takeSigned_any A xs c hx (unhide HL) hc _ ((unhide HH).keeps hk)).mono ?_
      rintro e w9 ⟨rfl, hk9⟩
      replace hk := hk.trans hk9
      clear hk9
      generalize takeS xs = tS at *
      obtain ⟨p, eS⟩ := tS
      simp only at FS ⊢
      go_wp2_with fail
      refine (takeUnsigned_any A xs c hx (unhide HL) _ ((unhide HH).keeps hk)).mono ?_
      rintro e w9 ⟨rfl, hk9⟩
      replace hk := hk.trans hk9
      clear hk9
      generalize takeU xs = tU at *
      obtain ⟨q, eU⟩ := tU
      simp only at FU ⊢
      go_wp2_with fail
      refine (takeGroups_any A xs c hx (unhide HL) _ ((unhide HH).keeps hk)).mono ?_
      rintro e w9 ⟨rfl, rfl⟩
      generalize takeG 0 0 xs = tG at *
      obtain ⟨r, mI, eG⟩ := tG
      simp only at FG ⊢
      have hh := (unhide HH).keeps hk
      go_wp2_with fail
      have HX := hide hx
      clear hx hx2 HH HS HU HG
      by_cases a : eS = 0
      · by_cases b : eU = 0
        · by_cases g : eG = 0
          · have e1 : (eS != 0) = false := by rw [bne_eq_false_iff_eq]; exact a
            have e2 : (eU != 0) = false := by rw [bne_eq_false_iff_eq]; exact b
            have e3 : (eG != 0) = false := by rw [bne_eq_false_iff_eq]; exact g
            obtain ⟨f1, f2, f3⟩ := unhide FS a
            have HB1 := sb1 A xs c _ f1 (unhide HX)
            clear f1
            obtain ⟨f4, f5, f6⟩ := unhide FU b
            have HB2 := sb1 A xs c _ f4 (unhide HX)
            clear f4
            obtain ⟨m, rfl, m1, m2, f7, f8, f9⟩ := unhide FG g
            have HB3 := sb2 A xs c _ m m2 f7 (unhide HX)
            have m3 : (1 : Int) ≤ (m : Int) := Int.ofNat_le.2 m1
            have m4 : (m : Int) ≤ (xs.length : Int) := Int.ofNat_le.2 m2
            have m5 : m ≤ c := Nat.le_trans m2 hc
            clear f7
            clear a b g FS FU FG
            go_region_held3 (fun w' => Holds w' A xs ∧ Keeps w w') (first | exact hold_step (by assumption) hb | assumption | exact hold_start hh hk)
              (first
                | (go_at_call 19; refine (signed_any _ f2 f3 _).mono ?_; rintro e wn ⟨A8, c8, rfl, hc8, hf8⟩; have hb := hf8.2; have hq1 := hf8.holds)
                | (go_at_call 18; ((with_reducible refine ((unhide HB1) _ _ _ hq1 (hold_one (by assumption))).mono ?_); rintro e wn ⟨rfl, rfl⟩))
                | (go_at_call 21; refine (unsigned_any _ f5 f6 _).mono ?_; rintro e wn ⟨A8, c8, rfl, hc8, hf8⟩; have hb := hf8.2; have hq2 := hf8.holds)
                | (go_at_call 18; ((with_reducible refine ((unhide HB2) _ _ _ hq2 (hold_one (by assumption))).mono ?_); rintro e wn ⟨rfl, rfl⟩))
                | (go_at_call 23; refine (groups_any _ f8 f9 _).mono ?_; rintro e wn ⟨A8, c8, rfl, hc8, hf8⟩; have hb := hf8.2; have hq3 := hf8.holds)
                | (go_at_call 18; ((with_reducible refine ((unhide HB3) _ _ _ hq3 (hold_one (by assumption))).mono ?_); rintro e wn ⟨rfl, rfl⟩)))
            all_goals
              go_wp2
              go_ret
              exact ⟨rfl, (by assumption : Holds _ A xs ∧ Keeps w _).2⟩
          · have e1 : (eS != 0) = false := by rw [bne_eq_false_iff_eq]; exact a
            have e2 : (eU != 0) = false := by rw [bne_eq_false_iff_eq]; exact b
            have e3 : (eG != 0) = true := by rw [bne_iff_ne]; exact g
            obtain ⟨f1, f2, f3⟩ := unhide FS a
            have HB1 := sb1 A xs c _ f1 (unhide HX)
            clear f1
            obtain ⟨f4, f5, f6⟩ := unhide FU b
            have HB2 := sb1 A xs c _ f4 (unhide HX)
            clear f4
            clear a b g FS FU FG
            go_region_held3 (fun w' => Holds w' A xs ∧ Keeps w w') (first | exact hold_step (by assumption) hb | assumption | exact hold_start hh hk)
              (first
                | (go_at_call 19; refine (signed_any _ f2 f3 _).mono ?_; rintro e wn ⟨A8, c8, rfl, hc8, hf8⟩; have hb := hf8.2; have hq1 := hf8.holds)
                | (go_at_call 18; ((with_reducible refine ((unhide HB1) _ _ _ hq1 (hold_one (by assumption))).mono ?_); rintro e wn ⟨rfl, rfl⟩))
                | (go_at_call 21; refine (unsigned_any _ f5 f6 _).mono ?_; rintro e wn ⟨A8, c8, rfl, hc8, hf8⟩; have hb := hf8.2; have hq2 := hf8.holds)
                | (go_at_call 18; ((with_reducible refine ((unhide HB2) _ _ _ hq2 (hold_one (by assumption))).mono ?_); rintro e wn ⟨rfl, rfl⟩)))
            all_goals
              go_wp2
              go_ret
              exact ⟨rfl, (by assumption : Holds _ A xs ∧ Keeps w _).2⟩
        · by_cases g : eG = 0
          · have e1 : (eS != 0) = false := by rw [bne_eq_false_iff_eq]; exact a
            have e2 : (eU != 0) = true := by rw [bne_iff_ne]; exact b
            have e3 : (eG != 0) = false := by rw [bne_eq_false_iff_eq]; exact g
            obtain ⟨f1, f2, f3⟩ := unhide FS a
            have HB1 := sb1 A xs c _ f1 (unhide HX)
            clear f1
            obtain ⟨m, rfl, m1, m2, f7, f8, f9⟩ := unhide FG g
            have HB3 := sb2 A xs c _ m m2 f7 (unhide HX)
            have m3 : (1 : Int) ≤ (m : Int) := Int.ofNat_le.2 m1
            have m4 : (m : Int) ≤ (xs.length : Int) := Int.ofNat_le.2 m2
            have m5 : m ≤ c := Nat.le_trans m2 hc
            clear f7
            clear a b g FS FU FG
            go_region_held3 (fun w' => Holds w' A xs ∧ Keeps w w') (first | exact hold_step (by assumption) hb | assumption | exact hold_start hh hk)
              (first
                | (go_at_call 19; refine (signed_any _ f2 f3 _).mono ?_; rintro e wn ⟨A8, c8, rfl, hc8, hf8⟩; have hb := hf8.2; have hq1 := hf8.holds)
                | (go_at_call 18; ((with_reducible refine ((unhide HB1) _ _ _ hq1 (hold_one (by assumption))).mono ?_); rintro e wn ⟨rfl, rfl⟩))
                | (go_at_call 23; refine (groups_any _ f8 f9 _).mono ?_; rintro e wn ⟨A8, c8, rfl, hc8, hf8⟩; have hb := hf8.2; have hq3 := hf8.holds)
                | (go_at_call 18; ((with_reducible refine ((unhide HB3) _ _ _ hq3 (hold_one (by assumption))).mono ?_); rintro e wn ⟨rfl, rfl⟩)))
            all_goals
              go_wp2
              go_ret
              exact ⟨rfl, (by assumption : Holds _ A xs ∧ Keeps w _).2⟩
          · have e1 : (eS != 0) = false := by rw [bne_eq_false_iff_eq]; exact a
            have e2 : (eU != 0) = true := by rw [bne_iff_ne]; exact b
            have e3 : (eG != 0) = true := by rw [bne_iff_ne]; exact g
            obtain ⟨f1, f2, f3⟩ := unhide FS a
            have HB1 := sb1 A xs c _ f1 (unhide HX)
            clear f1
            clear a b g FS FU FG
            go_region_held3 (fun w' => Holds w' A xs ∧ Keeps w w') (first | exact hold_step (by assumption) hb | assumption | exact hold_start hh hk)
              (first
                | (go_at_call 19; refine (signed_any _ f2 f3 _).mono ?_; rintro e wn ⟨A8, c8, rfl, hc8, hf8⟩; have hb := hf8.2; have hq1 := hf8.holds)
                | (go_at_call 18; ((with_reducible refine ((unhide HB1) _ _ _ hq1 (hold_one (by assumption))).mono ?_); rintro e wn ⟨rfl, rfl⟩)))
            all_goals
              go_wp2
              go_ret
              exact ⟨rfl, (by assumption : Holds _ A xs ∧ Keeps w _).2⟩
      · by_cases b : eU = 0
        · by_cases g : eG = 0
          · have e1 : (eS != 0) = true := by rw [bne_iff_ne]; exact a
            have e2 : (eU != 0) = false := by rw [bne_eq_false_iff_eq]; exact b
            have e3 : (eG != 0) = false := by rw [bne_eq_false_iff_eq]; exact g
            obtain ⟨f4, f5, f6⟩ := unhide FU b
            have HB2 := sb1 A xs c _ f4 (unhide HX)
            clear f4
            obtain ⟨m, rfl, m1, m2, f7, f8, f9⟩ := unhide FG g
            have HB3 := sb2 A xs c _ m m2 f7 (unhide HX)
            have m3 : (1 : Int) ≤ (m : Int) := Int.ofNat_le.2 m1
            have m4 : (m : Int) ≤ (xs.length : Int) := Int.ofNat_le.2 m2
            have m5 : m ≤ c := Nat.le_trans m2 hc
            clear f7
            clear a b g FS FU FG
            go_region_held3 (fun w' => Holds w' A xs ∧ Keeps w w') (first | exact hold_step (by assumption) hb | assumption | exact hold_start hh hk)
              (first
                | (go_at_call 21; refine (unsigned_any _ f5 f6 _).mono ?_; rintro e wn ⟨A8, c8, rfl, hc8, hf8⟩; have hb := hf8.2; have hq2 := hf8.holds)
                | (go_at_call 18; ((with_reducible refine ((unhide HB2) _ _ _ hq2 (hold_one (by assumption))).mono ?_); rintro e wn ⟨rfl, rfl⟩))
                | (go_at_call 23; refine (groups_any _ f8 f9 _).mono ?_; rintro e wn ⟨A8, c8, rfl, hc8, hf8⟩; have hb := hf8.2; have hq3 := hf8.holds)
                | (go_at_call 18; ((with_reducible refine ((unhide HB3) _ _ _ hq3 (hold_one (by assumption))).mono ?_); rintro e wn ⟨rfl, rfl⟩)))
            all_goals
              go_wp2
              go_ret
              exact ⟨rfl, (by assumption : Holds _ A xs ∧ Keeps w _).2⟩
          · have e1 : (eS != 0) = true := by rw [bne_iff_ne]; exact a
            have e2 : (eU != 0) = false := by rw [bne_eq_false_iff_eq]; exact b
            have e3 : (eG != 0) = true := by rw [bne_iff_ne]; exact g
            obtain ⟨f4, f5, f6⟩ := unhide FU b
            have HB2 := sb1 A xs c _ f4 (unhide HX)
            clear f4
            clear a b g FS FU FG
            go_region_held3 (fun w' => Holds w' A xs ∧ Keeps w w') (first | exact hold_step (by assumption) hb | assumption | exact hold_start hh hk)
              (first
                | (go_at_call 21; refine (unsigned_any _ f5 f6 _).mono ?_; rintro e wn ⟨A8, c8, rfl, hc8, hf8⟩; have hb := hf8.2; have hq2 := hf8.holds)
                | (go_at_call 18; ((with_reducible refine ((unhide HB2) _ _ _ hq2 (hold_one (by assumption))).mono ?_); rintro e wn ⟨rfl, rfl⟩)))
            all_goals
              go_wp2
              go_ret
              exact ⟨rfl, (by assumption : Holds _ A xs ∧ Keeps w _).2⟩
        · by_cases g : eG = 0
          · have e1 : (eS != 0) = true := by rw [bne_iff_ne]; exact a
            have e2 : (eU != 0) = true := by rw [bne_iff_ne]; exact b
            have e3 : (eG != 0) = false := by rw [bne_eq_false_iff_eq]; exact g
            obtain ⟨m, rfl, m1, m2, f7, f8, f9⟩ := unhide FG g
            have HB3 := sb2 A xs c _ m m2 f7 (unhide HX)
            have m3 : (1 : Int) ≤ (m : Int) := Int.ofNat_le.2 m1
            have m4 : (m : Int) ≤ (xs.length : Int) := Int.ofNat_le.2 m2
            have m5 : m ≤ c := Nat.le_trans m2 hc
            clear f7
            clear a b g FS FU FG
            go_region_held3 (fun w' => Holds w' A xs ∧ Keeps w w') (first | exact hold_step (by assumption) hb | assumption | exact hold_start hh hk)
              (first
                | (go_at_call 23; refine (groups_any _ f8 f9 _).mono ?_; rintro e wn ⟨A8, c8, rfl, hc8, hf8⟩; have hb := hf8.2; have hq3 := hf8.holds)
                | (go_at_call 18; ((with_reducible refine ((unhide HB3) _ _ _ hq3 (hold_one (by assumption))).mono ?_); rintro e wn ⟨rfl, rfl⟩)))
            all_goals
              go_wp2
              go_ret
              exact ⟨rfl, (by assumption : Holds _ A xs ∧ Keeps w _).2⟩
          · have e1 : (eS != 0) = true := by rw [bne_iff_ne]; exact a
            have e2 : (eU != 0) = true := by rw [bne_iff_ne]; exact b
            have e3 : (eG != 0) = true := by rw [bne_iff_ne]; exact g
            clear a b g FS FU FG
            go_region_held3 (fun w' => Holds w' A xs ∧ Keeps w w') (first | assumption | exact hold_start hh hk)
              (fail)
            all_goals
              go_wp2
              go_ret
              exact ⟨rfl, (by assumption : Holds _ A xs ∧ Keeps w _).2⟩

end Go.Proofs.Ytpogpjnbgdbpfaa
