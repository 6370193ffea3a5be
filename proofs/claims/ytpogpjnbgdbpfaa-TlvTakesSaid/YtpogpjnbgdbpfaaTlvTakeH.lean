/- The contract of tlv.TakeHead. -/
import Derived.Test.YtpogpjnbgdbpfaaTlvTakeL
namespace Go.Proofs.Ytpogpjnbgdbpfaa
open Go.ChangeShapes Go.WideShapes Go.ChangeAt Go.RowKit

def takeHeadF (xs : List Int) : (Int × Int) × Bool × Int × Int × Int :=
  if (takeTagF xs).2.2 ≠ 0 then ((0, 0), false, 0, 0, (takeTagF xs).2.2)
  else if (takeLenF (xs.drop (takeTagF xs).2.1.toNat)).2.2 ≠ 0 then ((0, 0), false, 0, 0, (takeLenF (xs.drop (takeTagF xs).2.1.toNat)).2.2)
  else ((takeTagF xs).1, (xs.getD 0 0 / 32 % 2 * 32 != 0), (takeLenF (xs.drop (takeTagF xs).2.1.toNat)).1, (takeTagF xs).2.1 + (takeLenF (xs.drop (takeTagF xs).2.1.toNat)).2.1, 0)
def headE (r : (Int × Int) × Bool × Int × Int × Int) : Ending := .returned (.tuple #[tagV r.1.1 r.1.2, .bool r.2.1, .int .i64 r.2.2.1, .int .i64 r.2.2.2.1, .int .i64 r.2.2.2.2])
theorem u8_and32 (x : Int) (h : 0 ≤ x) (h2 : x ≤ 255) : bits .and .u8 x 32 = x / 32 % 2 * 32 := by
  obtain ⟨a, rfl⟩ := Int.eq_ofNat_of_zero_le h
  have := u8_and_nat a 32 (by omega) (by omega)
  have h3 : a < 256 := by omega
  rw [show a &&& 32 = a / 32 % 2 * 32 from by
    have hh : ∀ x : Fin 256, x.val &&& 32 = x.val / 32 % 2 * 32 := by decide +kernel
    exact hh ⟨a, h3⟩] at this
  simpa using this
theorem results_tag5 {fn : Func} {c t u v x : Tmp} {tmps : Array Value} {w : World} {g : Nat} {ty : TypeId} {cls num : Int} (h : fn.results = #[.cell c 52, .tmp t, .tmp u, .tmp v, .tmp x]) (hp : tmps.getD c undef = .pointer (some ⟨g, 0, none⟩)) (hb : Blk w g ty #[.int .i64 cls, .int .i64 num]) :
    (results fn tmps).run Try.prog w = .ok (.tuple #[tagV cls num, tmps.getD t undef, tmps.getD u undef, tmps.getD v undef, tmps.getD x undef]) w := by
  have hp2 : tmps[c]?.getD undef = .pointer (some ⟨g, 0, none⟩) := by simpa using hp
  simp only [results, h]
  simp [hp2, asAddr, tag_load hb]
theorem takeTagF_n {xs : List Int} (hx : Bytes8 xs) (h : (takeTagF xs).2.2 = 0) : ∃ m : Nat, (takeTagF xs).2.1 = m ∧ 1 ≤ m ∧ m ≤ xs.length ∧ 0 < xs.length := by
  by_cases h0 : xs.length = 0
  · unfold takeTagF at h
    rw [if_pos h0] at h
    simp at h
  · rw [takeTagF_pos h0] at h ⊢
    split at h
    · rename_i h1
      rw [if_pos h1]
      exact ⟨1, rfl, by omega, by omega, by omega⟩
    · rename_i h1
      rw [if_neg h1]
      split at h
      · rename_i h2
        exact absurd h h2
      · rename_i h2
        rw [if_neg h2]
        split at h
        · simp at h
        · rename_i h3
          rw [if_neg h3]
          obtain ⟨m, hm, hm1, hm2, _⟩ := takeG_is (fun x m => hx x (List.mem_of_mem_drop m)) (Decidable.not_not.1 h2)
          rw [List.length_drop] at hm2
          refine ⟨1 + m, ?_, by omega, by omega, by omega⟩
          show 1 + (takeG 0 0 (xs.drop 1)).2.1 = _
          rw [hm]; simp
theorem takeLenF_n {xs : List Int} (hx : Bytes8 xs) (h : (takeLenF xs).2.2 = 0) : ∃ m : Nat, (takeLenF xs).2.1 = m ∧ 1 ≤ m ∧ m ≤ xs.length ∧ 0 ≤ (takeLenF xs).1 ∧ (takeLenF xs).1 ≤ 2147483647 := by
  by_cases h0 : xs.length = 0
  · unfold takeLenF at h
    rw [if_pos h0] at h
    simp at h
  · have hq := bytes8_getD hx 0
    rw [takeLenF_pos h0] at h ⊢
    split at h
    · rename_i h1
      rw [if_pos h1]
      exact ⟨1, rfl, by omega, by omega, hq.1, by show xs.getD 0 0 ≤ _; omega⟩
    · rename_i h1
      rw [if_neg h1]
      split at h
      · simp at h
      · rename_i h2
        rw [if_neg h2]
        split at h
        · simp at h
        · rename_i h3
          rw [if_neg h3]
          split at h
          · simp at h
          · rename_i h4
            rw [if_neg h4]
            refine ⟨1 + (xs.getD 0 0 - 128).toNat, ?_, by omega, by omega, ?_, ?_⟩
            · show 1 + (xs.getD 0 0 - 128) = _
              omega
            · show 0 ≤ (takeU ((xs.drop 1).take (xs.getD 0 0 - 128).toNat)).1
              omega
            · show (takeU ((xs.drop 1).take (xs.getD 0 0 - 128).toNat)).1 ≤ _
              omega

theorem Holds.lt_ {w : World} {b o : Nat} {xs : List Int} (h : Holds w (some ⟨b, o, none⟩) xs) (h0 : 0 < xs.length) : b < w.heap.size := by
  obtain ⟨ad, e, hb, _⟩ := h.2 h0
  injection e with e
  subst e
  exact hb
theorem Blk.set2 {w : World} {g : Nat} {t : TypeId} {a b : Value} (h : Blk w g t #[a, b]) (x y : Value) : Blk ((w.setCell ⟨g, 0, none⟩ x).setCell ⟨g, 1, none⟩ y) g t #[x, y] := by
  have := (h.set_ 0 x).set_ 1 y
  simpa using this
theorem Keeps.set2 {a w : World} {g : Nat} (h : Keeps a w) (hg : a.heap.size ≤ g) (x y : Value) : Keeps a ((w.setCell ⟨g, 0, none⟩ x).setCell ⟨g, 1, none⟩ y) := (h.setCell (p := ⟨g, 0, none⟩) hg x).setCell (p := ⟨g, 1, none⟩) hg y
theorem add_at_ (b o i : Nat) : (⟨b, o, none⟩ : Addr).add i = ⟨b, o + i, none⟩ := by unfold Addr.add; split <;> simp_all

set_option maxHeartbeats 4000000 in
theorem takeHead_any (A : Option Addr) (xs : List Int) (c : Nat) (hx : Bytes8 xs) (hl : xs.length ≤ maxLen) (hcap : xs.length ≤ c) (w : World) (hh : Holds w A xs) :
    Calls Try.prog 43 #[.slice A xs.length c] w fun e w' => e = headE (takeHeadF xs) ∧ Keeps w w' := by
  have HT : Hid (∀ w', Keeps w w' → Calls Try.prog 52 #[.slice A xs.length c] w' fun e w'' => e = tagE (takeTagF xs) ∧ Keeps w' w'') := fun w' hk => takeTag_any A xs c hx hl hcap w' (hh.keeps hk)
  by_cases he : (takeTagF xs).2.2 = 0
  · obtain ⟨m, hm, hm1, hm2, hm4⟩ := takeTagF_n hx he
    have hz : takeHeadF xs = if (takeLenF (xs.drop m)).2.2 ≠ 0 then ((0, 0), false, 0, 0, (takeLenF (xs.drop m)).2.2) else ((takeTagF xs).1, (xs.getD 0 0 / 32 % 2 * 32 != 0), (takeLenF (xs.drop m)).1, (m : Int) + (takeLenF (xs.drop m)).2.1, 0) := by
      unfold takeHeadF
      rw [if_neg (by simp [he]), hm, Int.toNat_natCast]
    have hxd : Bytes8 (xs.drop m) := fun x h => hx x (List.mem_of_mem_drop h)
    have hds : (xs.drop m).length = xs.length - m := List.length_drop
    have HL : ∀ w', Keeps w w' → Calls Try.prog 53 #[.slice (if c = m then A else A.map (·.add m)) (xs.length - m) (c - m)] w' fun e w'' => e = lenE (takeLenF (xs.drop m)) ∧ Keeps w' w'' := fun w' hk => by
      have := takeLength_any _ (xs.drop m) (c - m) hxd (by rw [hds]; omega) (by rw [hds]; omega) w' ((hh.from_ (m := m) (c := c) hm2 hcap).keeps hk)
      rwa [hds] at this
    have hln := fun h => takeLenF_n hxd h
    rw [hds] at hln
    obtain ⟨b, o, rfl, -⟩ := hh.cells hm4
    have HH := hide hh
    obtain ⟨hx1, hx2⟩ := bytes8_getD hx 0
    have hand := u8_and32 _ hx1 hx2
    clear hh
    unfold maxLen at hl
    generalize takeTagF xs = r at *
    obtain ⟨⟨cl, nu⟩, k, e⟩ := r
    simp only at he hm hz HT
    subst he
    subst hm
    unfold tagE at HT
    generalize takeLenF (xs.drop m) = r2 at *
    obtain ⟨ll, k2, e2'⟩ := r2
    simp only at hz HL hln
    unfold lenE at HL
    generalize hq : xs.getD 0 0 = q at *
    generalize hn : xs.length = n at *
    clear hx hxd hds
    by_cases he2 : e2' = 0
    · subst he2
      obtain ⟨m2, rfl, hn1, hn2, hn4, hn5⟩ := hln rfl
      rw [if_neg (by simp)] at hz
      have HZ := hide hz
      clear hz hln
      by_cases hcm : c = m
      · subst hcm
        omega
      · rw [if_neg hcm] at HL
        simp only [Option.map_some, add_at_] at HL
        have HL := hide HL
        go_enter Try.func43, Try.ntmps43
        go_wp2_with fail
        refine (unhide HT _ ((Keeps.refl w).alloc _)).mono ?_
        rintro e2 w1 ⟨rfl, hk⟩
        have hb := (Blk.new w 52 #[.int .i64 0, .int .i64 0]).keeps hk
        obtain ⟨hbc, hbf, hbl⟩ := hb.facts
        have HB := hide hb
        have HK := hide (((Keeps.refl w).alloc _).trans hk)
        clear hk hb
        go_wp2_with fail
        refine (unhide HL _ ((unhide HK).alloc _)).mono ?_
        rintro e4 w2 ⟨rfl, hk2⟩
        have hb := (((unhide HB).alloc _).keeps hk2)
        have ht := (Blk.new w1 52 #[.int .i64 cl, .int .i64 nu]).keeps hk2
        obtain ⟨hbc2, hbf2, hbl2⟩ := hb.facts
        obtain ⟨htc2, htf2, htl2⟩ := ht.facts
        have kq := ((unhide HH).keeps (((unhide HK).alloc _).trans hk2)).cell_in (k := 0) (by omega)
        rw [hq, Nat.add_zero] at kq
        have HB2 := hide hb
        have HK2 := hide (((unhide HK).alloc _).trans hk2)
        clear hb ht hk2 hbc hbf hbl
        go_wp2
        have hb0 : w2.cell? ⟨w.heap.size, 0, none⟩ = some (.int .i64 0) := hbc2 0
        have hb1 : w2.cell? ⟨w.heap.size, 1, none⟩ = some (.int .i64 0) := hbc2 1
        have hb2 := hbf2 0
        have hb3 := hbf2 1
        have ht0 : w2.cell? ⟨w1.heap.size, 0, none⟩ = some (.int .i64 cl) := htc2 0
        have ht1 : w2.cell? ⟨w1.heap.size, 1, none⟩ = some (.int .i64 nu) := htc2 1
        have hblt := (unhide HH).lt_ (by omega)
        have hbn : b ≠ w.heap.size := by omega
        have hbn2 : w.heap.size ≠ b := by omega
        have kq2 := ((unhide HH).keeps ((unhide HK2).set2 (Nat.le_refl _) (.int .i64 cl) (.int .i64 nu))).cell_in (k := 0) (by omega)
        rw [hq, Nat.add_zero] at kq2
        go_region
        go_wp2
        rw [unhide HZ]
        refine bodyPost_ret (results_tag5 rfl rfl ((unhide HB2).set2 _ _).drew) rfl ?_
        exact ⟨rfl, ((unhide HK2).set2 (Nat.le_refl _) _ _).drew⟩
    · rw [if_pos he2] at hz
      have HZ := hide hz
      have e1 : (e2' != 0) = true := by rw [bne_iff_ne]; exact he2
      clear hz hln he2
      by_cases hcm : c = m
      · subst hcm
        rw [if_pos rfl] at HL
        obtain rfl : n = c := by omega
        simp only [Nat.sub_self] at HL
        have HL := hide HL
        go_enter Try.func43, Try.ntmps43
        go_wp2_with fail
        refine (unhide HT _ ((Keeps.refl w).alloc _)).mono ?_
        rintro e2 w1 ⟨rfl, hk⟩
        have hb := (Blk.new w 52 #[.int .i64 0, .int .i64 0]).keeps hk
        obtain ⟨hbc, hbf, hbl⟩ := hb.facts
        have HB := hide hb
        have HK := hide (((Keeps.refl w).alloc _).trans hk)
        clear hk hb
        go_wp2_with fail
        refine (unhide HL _ ((unhide HK).alloc _)).mono ?_
        rintro e4 w2 ⟨rfl, hk2⟩
        have hb := ((unhide HB).alloc _).keeps hk2
        obtain ⟨hbc2, hbf2, hbl2⟩ := hb.facts
        have HB2 := hide hb
        have HK2 := hide (((unhide HK).alloc _).trans hk2)
        clear hb hk2 hbc hbf hbl
        go_wp2
        rw [unhide HZ]
        refine bodyPost_ret (results_tag5 rfl rfl ((unhide HB2).set2 _ _)) rfl ?_
        exact ⟨rfl, (unhide HK2).set2 (Nat.le_refl _) _ _⟩
      · rw [if_neg hcm] at HL
        simp only [Option.map_some, add_at_] at HL
        have HL := hide HL
        go_enter Try.func43, Try.ntmps43
        go_wp2_with fail
        refine (unhide HT _ ((Keeps.refl w).alloc _)).mono ?_
        rintro e2 w1 ⟨rfl, hk⟩
        have hb := (Blk.new w 52 #[.int .i64 0, .int .i64 0]).keeps hk
        obtain ⟨hbc, hbf, hbl⟩ := hb.facts
        have HB := hide hb
        have HK := hide (((Keeps.refl w).alloc _).trans hk)
        clear hk hb
        go_wp2_with fail
        refine (unhide HL _ ((unhide HK).alloc _)).mono ?_
        rintro e4 w2 ⟨rfl, hk2⟩
        have hb := ((unhide HB).alloc _).keeps hk2
        obtain ⟨hbc2, hbf2, hbl2⟩ := hb.facts
        have HB2 := hide hb
        have HK2 := hide (((unhide HK).alloc _).trans hk2)
        clear hb hk2 hbc hbf hbl
        go_wp2
        rw [unhide HZ]
        refine bodyPost_ret (results_tag5 rfl rfl ((unhide HB2).set2 _ _)) rfl ?_
        exact ⟨rfl, (unhide HK2).set2 (Nat.le_refl _) _ _⟩
  · have hz : takeHeadF xs = ((0, 0), false, 0, 0, (takeTagF xs).2.2) := by unfold takeHeadF; rw [if_pos he]
    have HZ := hide hz
    generalize takeTagF xs = r at *
    obtain ⟨⟨cl, nu⟩, k, e⟩ := r
    simp only at he HZ HT
    unfold tagE at HT
    have e1 : (e != 0) = true := by rw [bne_iff_ne]; exact he
    clear hz he hh
    unfold maxLen at hl
    generalize hn : xs.length = n at *
    go_enter Try.func43, Try.ntmps43
    go_wp2_with fail
    refine (unhide HT _ ((Keeps.refl w).alloc _)).mono ?_
    rintro e2 w1 ⟨rfl, hk⟩
    have hb := (Blk.new w 52 #[.int .i64 0, .int .i64 0]).keeps hk
    obtain ⟨hbc, hbf, hbl⟩ := hb.facts
    have HB := hide hb
    have HK := hide (((Keeps.refl w).alloc _).trans hk)
    clear hk hb
    go_wp2
    rw [unhide HZ]
    refine bodyPost_ret (results_tag5 rfl rfl (((unhide HB).set2 _ _).alloc _)) rfl ?_
    exact ⟨rfl, ((unhide HK).set2 (Nat.le_refl _) _ _).alloc _⟩
end Go.Proofs.Ytpogpjnbgdbpfaa
