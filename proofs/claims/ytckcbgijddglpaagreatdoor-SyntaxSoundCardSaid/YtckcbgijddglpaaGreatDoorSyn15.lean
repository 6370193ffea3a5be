/- The parser: an item. -/
import Derived.Test.YtckcbgijddglpaaGreatDoorSyn14
namespace Go.Proofs.YtckcbgijddglpaaGreatDoor
open Go.ChangeShapes Go.WideShapes Go.ChangeAt Go.RowKit Go.PlainAid
set_option linter.unusedVariables false
set_option linter.unusedSimpArgs false
section
variable {w : World} {g : Nat} {A : Option Addr} {c : Nat} {l : List Tok} {i : Nat} {m0 m1 m2 m3 m4 : Value}
set_option maxRecDepth 100000 in
set_option maxHeartbeats 16000000 in
theorem item_q (h : PQ w g A c l i m0 m1 m2 m3 m4) (hN : NumsL l) {n : Nat} {nd : NodeV} {vi vf : Value} {ok : Nat → Prop} (hB : NB w n nd vi vf) (hI : ItemsH w ok vi nd.items) (hok : ∀ b, w.heap.size ≤ b → ok b) (hn : g < n) (hgi : ∀ b, vi.ownBlock = some b → g < b) (hlen : nd.items.length ≤ 10000) :
    Calls Tryz.prog 121 #[.pointer (some ⟨g, 0, none⟩), .pointer (some ⟨n, 0, none⟩)] w
      (PostT (itemT l i) g (SI g n vi) w (fun r e w' => Yes e ∧ PQ w' g A c l r.2 m0 m1 m2 m3 m4 ∧ GivesItem n ok w vi vf nd r.1 w') No) := by
  have HT := hide (token_q h 2)
  obtain ⟨i0, z0, hi0, hz0, hz1, hz2, hz3⟩ := info_three item_info
  have hlow := fun b hb => (own_lt hI.1 b hb).2
  have hnlt := Blk.lt hB
  rcases hr : tokT l i 2 with ⟨p, x⟩ | ⟨s, j⟩
  · have HR := hide (show itemT l i = .error (p, x) by simp [itemT, hr, bind, Except.bind])
    rw [hr] at HT
    clear hr
    go_enter Tryz.func121, Tryz.ntmps121
    go_wp2_with fail
    refine (unhide HT).mono ?_
    rintro e w1 ⟨⟨rfl, hp⟩, hf⟩
    have HP1 := hide hp
    have HF1 := hide (hf.weak (S' := SI g n vi) fun x _ e => .inl e)
    clear hp hf HT
    go_wp2
    go_ret
    rw [unhide HR]
    exact ⟨⟨rfl, unhide HP1⟩, unhide HF1⟩
  · have HR := hide hr
    rw [hr] at HT
    clear hr
    go_enter Tryz.func121, Tryz.ntmps121
    go_wp2_with fail
    refine (unhide HT).mono ?_
    rintro e w1 ⟨⟨rfl, hp⟩, hf⟩
    have HX1 := hide (Blk.new w1 97 #[.string s, .int .i64 0, .bool false])
    have HK1 := hide ((Keeps.refl w1).alloc (.cells #[.string s, .int .i64 0, .bool false] 97))
    have HP1 := hide (hp.keeps (unhide HK1))
    have HB1 : Hid (NB _ n nd vi vf) := (hf.blk1 hB hn).keeps (unhide HK1)
    have HI1 := hide ((ItemsH.fs hI hf (clear_typ fun b hb e => by subst e; exact h.typ)).keeps (unhide HK1))
    have HF1 := hide ((hf.weak (S' := SI g n vi) fun x _ e => .inl e).keeps (unhide HK1))
    have hsz1 : w.heap.size ≤ w1.heap.size := hf.size
    have hgw := h.lt
    clear hp hf HT
    rcases Bool.eq_false_or_eq_true (isT l j s_lp) with hb11 | hb11
    · have E11 := hide hb11
      clear hb11
      go_wp2_with fail
      refine (take_y (unhide HP1) (unhide E11)).mono ?_
      rintro e w12 ⟨rfl, hp, hf⟩
      have HP12 := hide hp
      have HB12 : Hid (NB _ n nd vi vf) := hf.blk (unhide HB1) hn
      have HX12 := hide (hf.blk (unhide HX1) (by omega))
      have HI12 := hide ((unhide HI1).fs (FS.of_fr (S := (· = g)) hf rfl) (clear_typ fun b hb e => by subst e; exact (unhide HP1).typ))
      have HF12 := hide ((unhide HF1).fr hf (.inl rfl))
      have hsz12 : w1.heap.size ≤ w12.heap.size := by have := hf.2.2.2.1; (try rw [World.size_alloc] at this); (try simp only [World.size_setCell] at this); omega
      clear hp hf
      rcases hr15 : numberT l (j + 1) with ⟨p15, x15⟩ | ⟨v14, k14⟩
      · have E15 := hide hr15
        clear hr15
        go_wp2_with fail
        have HQ13 := hide (number_q (unhide HP12) hN)
        rw [unhide E15] at HQ13
        refine (unhide HQ13).mono ?_
        rintro e w13 ⟨⟨rfl, hp⟩, hf⟩
        have HX13 := hide (hf.blk1 (unhide HX12) (by omega))
        have HF13 := hide ((((unhide HF12).trans (hf.weak (S' := SI g n vi) fun x _ e => .inl e)).set (p := ⟨w1.heap.size, 1, none⟩) (.inr (by show w.heap.size ≤ w1.heap.size; omega)) (.int .i64 0)).set (p := ⟨w1.heap.size, 2, none⟩) (.inr (by show w.heap.size ≤ w1.heap.size; omega)) (.bool false))
        have HP13 := hide ((hp.far (by omega : g < w1.heap.size) 1 (.int .i64 0)).far (by omega : g < w1.heap.size) 2 (.bool false))
        obtain ⟨hxc, hxf, _⟩ := (unhide HX13).facts
        clear hp hf HQ13
        go_wp2
        go_ret
        have hE : itemT l i = .error (p15, x15) := by simp [itemT, unhide HR, unhide E11, unhide E15, bind, Except.bind, pure, Except.pure]
        rw [hE]
        exact ⟨⟨rfl, unhide HP13⟩, unhide HF13⟩
      · have E15 := hide hr15
        clear hr15
        go_wp2_with fail
        have HQ13 := hide (number_q (unhide HP12) hN)
        rw [unhide E15] at HQ13
        refine (unhide HQ13).mono ?_
        rintro e w13 ⟨⟨rfl, hp⟩, hf⟩
        have HP13 := hide hp
        have HB13 : Hid (NB _ n nd vi vf) := hf.blk1 (unhide HB12) hn
        have HX13 := hide (hf.blk1 (unhide HX12) (by omega))
        have HI13 := hide ((unhide HI12).fs hf (clear_typ fun b hb e => by subst e; exact (unhide HP12).typ))
        have HF13 := hide ((unhide HF12).trans (hf.weak (S' := SI g n vi) fun x _ e => .inl e))
        have hsz13 : w12.heap.size ≤ w13.heap.size := by have := hf.size; (try rw [World.size_alloc] at this); (try simp only [World.size_setCell] at this); omega
        clear hp hf HQ13
        obtain ⟨hxc, hxf, _⟩ := (unhide HX13).facts
        have HP16 := hide ((unhide HP13).far (by omega : g < w1.heap.size) 1 (.int .i64 v14))
        have HB16 : Hid (NB _ n nd vi vf) := Blk.far (unhide HB13) (p := ⟨w1.heap.size, 1, none⟩) (by show n ≠ w1.heap.size; omega) (.int .i64 v14)
        have HX16 : Hid (Blk _ w1.heap.size 97 #[.string s, .int .i64 v14, .bool false]) := (unhide HX13).set_ 1 (.int .i64 v14)
        have HI16 : Hid (ItemsH _ ok vi nd.items) := RowH.far (B := w1.heap.size) (unhide HI13) (fun b hb => by have := hlow b hb; omega) 1 (.int .i64 v14)
        have HF16 := hide ((unhide HF13).set (p := ⟨w1.heap.size, 1, none⟩) (.inr (by show w.heap.size ≤ w1.heap.size; omega)) (.int .i64 v14))
        have HP17 := hide ((unhide HP16).far (by omega : g < w1.heap.size) 2 (.bool true))
        have HB17 : Hid (NB _ n nd vi vf) := Blk.far (unhide HB16) (p := ⟨w1.heap.size, 2, none⟩) (by show n ≠ w1.heap.size; omega) (.bool true)
        have HX17 : Hid (Blk _ w1.heap.size 97 #[.string s, .int .i64 v14, .bool true]) := (unhide HX16).set_ 2 (.bool true)
        have HI17 : Hid (ItemsH _ ok vi nd.items) := RowH.far (B := w1.heap.size) (unhide HI16) (fun b hb => by have := hlow b hb; omega) 2 (.bool true)
        have HF17 := hide ((unhide HF16).set (p := ⟨w1.heap.size, 2, none⟩) (.inr (by show w.heap.size ≤ w1.heap.size; omega)) (.bool true))
        rcases hr19 : wantT l k14 s_rp with ⟨p19, x19⟩ | k18
        · have E19 := hide hr19
          clear hr19
          go_wp2_with fail
          clear hxc hxf
          have HQ18 := hide (want_q (unhide HP17) s_rp)
          rw [unhide E19] at HQ18
          refine (unhide HQ18).mono ?_
          rintro e w18 ⟨⟨rfl, hp⟩, hf⟩
          have HP18 := hide hp
          have HF18 := hide ((unhide HF17).trans (hf.weak (S' := SI g n vi) fun x _ e => .inl e))
          clear hp hf HQ18
          go_wp2
          go_ret
          have hE : itemT l i = .error (p19, x19) := by simp [itemT, unhide HR, unhide E11, unhide E15, unhide E19, bind, Except.bind, pure, Except.pure]
          rw [hE]
          exact ⟨⟨rfl, unhide HP18⟩, unhide HF18⟩
        · have E19 := hide hr19
          clear hr19
          go_wp2_with fail
          clear hxc hxf
          have HQ18 := hide (want_q (unhide HP17) s_rp)
          rw [unhide E19] at HQ18
          refine (unhide HQ18).mono ?_
          rintro e w18 ⟨⟨rfl, hp⟩, hf⟩
          have HP18 := hide hp
          have HB18 : Hid (NB _ n nd vi vf) := hf.blk1 (unhide HB17) hn
          have HX18 := hide (hf.blk1 (unhide HX17) (by omega))
          have HI18 := hide ((unhide HI17).fs hf (clear_typ fun b hb e => by subst e; exact (unhide HP17).typ))
          have hsz18 : w13.heap.size ≤ w18.heap.size := by have := hf.size; (try rw [World.size_alloc] at this); (try simp only [World.size_setCell] at this); omega
          have HF18 := hide ((unhide HF17).trans (hf.weak (S' := SI g n vi) fun x _ e => .inl e))
          clear hp hf HQ18
          have hIE := hide (show itemT l i = .ok (({ name := s, number := v14, has := true } : ItemV), k18) by simp [itemT, unhide HR, unhide E11, unhide E15, unhide E19, bind, Except.bind, pure, Except.pure])
          obtain ⟨hc2, hf2, _⟩ := (unhide HB18).facts
          simp only [nodeC] at hc2
          obtain ⟨hxc, hxf, _⟩ := (unhide HX18).facts
          have HEND := hide (fun (w5 : World) (v' : Value) ho hg hat => item_end (w0 := w) (w5 := w5) (v' := v') (x := ({ name := s, number := v14, has := true } : ItemV)) (unhide HP18) (unhide HB18) (unhide HI18) (fun b hb => hok b (by omega)) hn hgi (unhide HF18) ho hg hat)
          have HOWN := hide (World.ownsRow.alloc (unhide HI18).1.drew (.cells (itemC ({ name := s, number := v14, has := true } : ItemV)).toArray 97))
          have HRD := hide (row_new w18.drew 97 (itemC ({ name := s, number := v14, has := true } : ItemV)) 3 rfl)
          obtain ⟨Ai, ci, rfl, hci⟩ := own_form2 (unhide HI18).1
          generalize itemsC nd.items = xs0 at HOWN HEND
          clear hB hI h hok
          go_wp2
          go_region_law (refine step_append_any _ rfl (.tmp 46) (.tmp 48) 37 rfl 0 97 i0 z0 3 32 Tryz.underlying37 hi0 hz0 hz1 hz2 hz3 (by omega) _ nd.items.length _ (by simp [Act.eval, Act.put]) (unhide HOWN) _ _ 1 1 _ (by simp [Act.eval, Act.put]) (unhide HRD) (itemC_one _) (by simp only [maxLen]; omega) (by omega) (by omega) ?_; intro v' w5 ho hg hat; obtain ⟨Av, cv, rfl, -⟩ := own_form2 ho; have hE := unhide HEND w5 _ ho hg hat; have HE := hide hE; obtain ⟨hc5, hf5, _⟩ := hE.1.facts; simp only [nodeC] at hc5; clear hE ho hg hat)
          all_goals
            go_wp2
            go_ret
            rw [unhide hIE]
            exact ⟨⟨rfl, (unhide HE).2.1, (unhide HE).2.2.1⟩, (unhide HE).2.2.2⟩
    · have E11 := hide hb11
      clear hb11
      go_wp2_with fail
      refine (take_n (unhide HP1) (unhide E11)).mono ?_
      rintro e w20 ⟨rfl, hp, hf⟩
      have HP20 := hide hp
      have HB20 : Hid (NB _ n nd vi vf) := hf.blk (unhide HB1) hn
      have HX20 := hide (hf.blk (unhide HX1) (by omega))
      have HI20 := hide ((unhide HI1).fs (FS.of_fr (S := (· = g)) hf rfl) (clear_typ fun b hb e => by subst e; exact (unhide HP1).typ))
      have HF20 := hide ((unhide HF1).fr hf (.inl rfl))
      have hsz20 : w1.heap.size ≤ w20.heap.size := by have := hf.2.2.2.1; (try rw [World.size_alloc] at this); (try simp only [World.size_setCell] at this); omega
      clear hp hf
      have hIE := hide (show itemT l i = .ok (({ name := s, number := 0, has := false } : ItemV), j) by simp [itemT, unhide HR, unhide E11, bind, Except.bind, pure, Except.pure])
      obtain ⟨hc2, hf2, _⟩ := (unhide HB20).facts
      simp only [nodeC] at hc2
      obtain ⟨hxc, hxf, _⟩ := (unhide HX20).facts
      have HEND := hide (fun (w5 : World) (v' : Value) ho hg hat => item_end (w0 := w) (w5 := w5) (v' := v') (x := ({ name := s, number := 0, has := false } : ItemV)) (unhide HP20) (unhide HB20) (unhide HI20) (fun b hb => hok b (by omega)) hn hgi (unhide HF20) ho hg hat)
      have HOWN := hide (World.ownsRow.alloc (unhide HI20).1.drew (.cells (itemC ({ name := s, number := 0, has := false } : ItemV)).toArray 97))
      have HRD := hide (row_new w20.drew 97 (itemC ({ name := s, number := 0, has := false } : ItemV)) 3 rfl)
      obtain ⟨Ai, ci, rfl, hci⟩ := own_form2 (unhide HI20).1
      generalize itemsC nd.items = xs0 at HOWN HEND
      clear hB hI h hok
      go_wp2
      go_region_law (refine step_append_any _ rfl (.tmp 46) (.tmp 48) 37 rfl 0 97 i0 z0 3 32 Tryz.underlying37 hi0 hz0 hz1 hz2 hz3 (by omega) _ nd.items.length _ (by simp [Act.eval, Act.put]) (unhide HOWN) _ _ 1 1 _ (by simp [Act.eval, Act.put]) (unhide HRD) (itemC_one _) (by simp only [maxLen]; omega) (by omega) (by omega) ?_; intro v' w5 ho hg hat; obtain ⟨Av, cv, rfl, -⟩ := own_form2 ho; have hE := unhide HEND w5 _ ho hg hat; have HE := hide hE; obtain ⟨hc5, hf5, _⟩ := hE.1.facts; simp only [nodeC] at hc5; clear hE ho hg hat)
      all_goals
        go_wp2
        go_ret
        rw [unhide hIE]
        exact ⟨⟨rfl, (unhide HE).2.1, (unhide HE).2.2.1⟩, (unhide HE).2.2.2⟩
end
end Go.Proofs.YtckcbgijddglpaaGreatDoor
