/- The parser: items. -/
import Derived.Test.YtckcbgijddglpaaGreatDoorSyn15
namespace Go.Proofs.YtckcbgijddglpaaGreatDoor
open Go.ChangeShapes Go.WideShapes Go.ChangeAt Go.RowKit Go.PlainAid
set_option linter.unusedVariables false
set_option linter.unusedSimpArgs false
def itemsA (l : List Tok) (nd : NodeV) (i : Nat) : Except SErr (NodeV × Nat) := do
  let (x, j) ← itemT l i
  itemsT l (l.length + 1) { nd with items := [x], root := 1 } j
/-- A node with its items. -/
def GivesItems (n : Nat) (ok : Nat → Prop) (w : World) (vi vf : Value) (nd : NodeV) (w' : World) : Prop :=
  ∃ vi', NB w' n nd vi' vf ∧ ItemsH w' ok vi' nd.items ∧ NewR w vi vi'
section
variable {w : World} {g : Nat} {A : Option Addr} {c : Nat} {l : List Tok} {i : Nat} {m0 m1 m2 m3 m4 : Value}
theorem FS.si {n : Nat} {vi vi' : Value} {w1 w2 : World} (h : FS (SI g n vi) w w1) (k : FS (SI g n vi') w1 w2) (hnew : NewR w vi vi') : FS (SI g n vi) w w2 :=
  h.trans2 k (fun _ _ q => q) fun x hx q => by
    rcases q with q | q | q
    · exact .inl q
    · exact .inr (.inl q)
    · rcases hnew with e | ⟨b, e, hb⟩
      · exact .inr (.inr (e ▸ q))
      · rw [e] at q; injection q with q; omega
/-- The state of the loop over items. -/
def ItemsI (w : World) (g : Nat) (A : Option Addr) (c : Nat) (l : List Tok) (m0 m1 m2 m3 m4 : Value) (n : Nat) (ok : Nat → Prop) (vi vf : Value) (r : Except SErr (NodeV × Nat)) (nd : NodeV) (i f : Nat) (wr : World) : Prop :=
  PQ wr g A c l i m0 m1 m2 m3 m4 ∧ GivesItems n ok w vi vf nd wr ∧ FS (SI g n vi) w wr ∧ r = itemsT l f nd i ∧ l.length < f + i ∧ nd.items.length ≤ i ∧ nd.root ≤ i
theorem NewR.gt {v v' : Value} (h : NewR w v v') (hv : ∀ b, v.ownBlock = some b → g < b) (hg : g < w.heap.size) : ∀ b, v'.ownBlock = some b → g < b := by
  intro b hb
  rcases h with h | ⟨b', h, hb'⟩
  · exact hv b (h ▸ hb)
  · rw [h] at hb; injection hb with hb; omega
theorem itemsT_stop {f : Nat} {nd : NodeV} (h : isT l i s_cm = false) : itemsT l (f + 1) nd i = .ok (nd, i) := by simp [itemsT, h]
theorem itemsT_dots {f : Nat} {nd : NodeV} (h : isT l i s_cm = true) (h2 : nd.more = false) (h3 : isT l (i + 1) s_dots = true) : itemsT l (f + 1) nd i = itemsT l f { nd with more := true } (i + 2) := by simp [itemsT, h, h2, h3]
theorem itemsT_item {f : Nat} {nd : NodeV} (h : isT l i s_cm = true) (h2 : nd.more = true ∨ isT l (i + 1) s_dots = false) : itemsT l (f + 1) nd i = (itemT l (i + 1) >>= fun r => itemsT l f { nd with items := nd.items ++ [r.1], root := if nd.more = true then nd.root else nd.root + 1 } r.2) := by
  rw [itemsT, if_pos h, if_neg (by rintro ⟨a, b⟩; rcases h2 with h2 | h2; · rw [a] at h2; cases h2
                                   · rw [b] at h2; cases h2)]
theorem take_fr {nd : NodeV} {n : Nat} {ok : Nat → Prop} {vi vf : Value} {w0 wr w2 : World} (hG : GivesItems n ok w0 vi vf nd wr) (hf : Fr g wr w2) (hp : PQ wr g A c l i m0 m1 m2 m3 m4) (hn : g < n) : GivesItems n ok w0 vi vf nd w2 := by
  obtain ⟨v, h1, h2, h3⟩ := hG
  exact ⟨v, hf.blk h1 hn, h2.fs (FS.of_fr (S := (· = g)) hf rfl) (clear_typ fun b hb e => by subst e; exact hp.typ), h3⟩
theorem GivesItems.set {nd nd' : NodeV} {n : Nat} {ok : Nat → Prop} {vi vf : Value} {w0 wr : World} (hG : GivesItems n ok w0 vi vf nd wr) (o : Nat) (u : Value) (he : ∀ v, (nodeC nd v vf).setIfInBounds o u = nodeC nd' v vf) (hit : nd'.items = nd.items) : GivesItems n ok w0 vi vf nd' (wr.setCell ⟨n, o, none⟩ u) := by
  obtain ⟨v, h1, h2, h3⟩ := hG
  refine ⟨v, NB.put h1 o u (he v), ?_, h3⟩
  rw [hit]
  exact h2.fs (S := (· = n)) ((FS.refl (· = n) wr).set (p := ⟨n, o, none⟩) (.inl rfl) u) (clear_typ fun b hb e => by subst e; exact h1.typ)
set_option maxRecDepth 100000 in
set_option maxHeartbeats 16000000 in
theorem items_q (h : PQ w g A c l i m0 m1 m2 m3 m4) (hN : NumsL l) {n : Nat} {nd : NodeV} {vi vf : Value} {ok : Nat → Prop} (hB : NB w n nd vi vf) (hI : ItemsH w ok vi nd.items) (hok : ∀ b, w.heap.size ≤ b → ok b) (hn : g < n) (hgi : ∀ b, vi.ownBlock = some b → g < b) (h0 : nd.items = []) :
    Calls Tryz.prog 109 #[.pointer (some ⟨g, 0, none⟩), .pointer (some ⟨n, 0, none⟩)] w
      (PostT (itemsA l nd i) g (SI g n vi) w (fun r e w' => Yes e ∧ PQ w' g A c l r.2 m0 m1 m2 m3 m4 ∧ GivesItems n ok w vi vf r.1 w') No) := by
  have HT := hide (item_q h hN hB hI hok hn hgi (by rw [h0]; simp))
  have hgw := h.lt
  rcases hr : itemT l i with ⟨p, x⟩ | ⟨x, j⟩
  · have HR := hide (show itemsA l nd i = .error (p, x) by simp [itemsA, hr, bind, Except.bind])
    rw [hr] at HT
    clear hr
    go_enter Tryz.func109, Tryz.ntmps109
    go_wp2_with fail
    refine (unhide HT).mono ?_
    rintro e w1 ⟨⟨rfl, hp⟩, hf⟩
    have HP1 := hide hp
    have HF1 := hide hf
    clear hp hf HT
    go_wp2
    go_ret
    rw [unhide HR]
    exact ⟨⟨rfl, unhide HP1⟩, unhide HF1⟩
  · have HR := hide (show itemsA l nd i = itemsT l (l.length + 1) { nd with items := [x], root := 1 } j by simp [itemsA, hr, bind, Except.bind])
    have hj := itemT_lt hr
    simp only at hj
    rw [hr] at HT
    clear hr
    generalize itemsA l nd i = rA at HR ⊢
    go_enter Tryz.func109, Tryz.ntmps109
    go_wp2_with fail
    refine (unhide HT).mono ?_
    rintro e w1 ⟨⟨rfl, hp, hG⟩, hf⟩
    have hG' : GivesItems n ok w vi vf { nd with items := [x] } w1 := by
      obtain ⟨v, h1, h2, h3⟩ := hG
      rw [h0] at h1 h2
      exact ⟨v, h1, h2, h3⟩
    have HG2 := hide (hG'.set (nd' := { nd with items := [x], root := 1 }) 13 (.int .i64 1) (fun v => rfl) rfl)
    have HP2 := hide (hp.far hn 13 (.int .i64 1))
    have HF2 := hide (hf.set (p := ⟨n, 13, none⟩) (.inl (.inr (.inl rfl))) (.int .i64 1))
    obtain ⟨v1, hB1, -, -⟩ := hG
    obtain ⟨hc1, hg1, _⟩ := hB1.facts
    have HI2 : Hid (ItemsI w g A c l m0 m1 m2 m3 m4 n ok vi vf rA { nd with items := [x], root := 1 } j (l.length + 1) _) := ⟨unhide HP2, unhide HG2, unhide HF2, unhide HR, by omega, by simp; omega, by simp; omega⟩
    clear hp hG' hf HT h hB hI h0 HR HG2 HF2
    simp only [nodeC] at hc1
    go_wp2
    clear hc1 hg1 hB1
    go_loopg [] (l.length - j) (fun k wr => ∃ nd' i' f, ItemsI w g A c l m0 m1 m2 m3 m4 n ok vi vf rA nd' i' f wr ∧ k = l.length - i')
    case atStart => exact ⟨_, _, _, unhide HI2, rfl⟩
    case round =>
      obtain ⟨nd', i', f, hI, hk⟩ := hrel
      obtain ⟨hp, hG, hF, hr, hfu, hl1, hl2⟩ := hI
      have hil := hp.2.2.1
      have hll := hp.2.2.2
      obtain ⟨f, rfl⟩ : ∃ f', f = f' + 1 := ⟨f - 1, by omega⟩
      have HP := hide hp
      have HG := hide hG
      have HF := hide hF
      have HR := hide hr
      have HK := hide hk
      clear hp hG hF hr hk
      rcases Bool.eq_false_or_eq_true (isT l i' s_cm) with hb | hb
      · have E1 := hide hb
        have hnx := tk_end_le hil (isT_ne hb)
        clear hb
        go_wp2_with fail
        refine (take_y (unhide HP) (unhide E1)).mono ?_
        rintro e w2 ⟨rfl, hp, hf⟩
        have HP2 := hide hp
        have HG2 := hide (take_fr (unhide HG) hf (unhide HP) hn)
        have HF2 := hide ((unhide HF).fr hf (.inl rfl))
        clear hp hf
        obtain ⟨v2, hB2, -, -⟩ := unhide HG2
        obtain ⟨hc2, hg2, _⟩ := hB2.facts
        simp only [nodeC] at hc2
        rcases hm : nd'.more with _ | _
        · have HM := hide hm
          rw [hm] at hc2
          clear hm hB2
          rcases Bool.eq_false_or_eq_true (isT l (i' + 1) s_dots) with hb | hb
          · have E2 := hide hb
            have hnx2 := tk_end_le (unhide HP2).2.2.1 (isT_ne hb)
            clear hb
            go_wp2_with fail
            refine (take_y (unhide HP2) (unhide E2)).mono ?_
            rintro e w3 ⟨rfl, hp, hf⟩
            have HG3 := hide (take_fr (unhide HG2) hf (unhide HP2) hn)
            have HF3 := hide ((unhide HF2).fr hf (.inl rfl))
            have HG4 := hide ((unhide HG3).set (nd' := { nd' with more := true }) 14 (.bool true) (fun v => rfl) rfl)
            have HP4 := hide (hp.far hn 14 (.bool true))
            have HF4 := hide ((unhide HF3).set (p := ⟨n, 14, none⟩) (.inl (.inr (.inl rfl))) (.bool true))
            obtain ⟨v3, hB3, -, -⟩ := unhide HG3
            obtain ⟨hc3, hg3, _⟩ := hB3.facts
            simp only [nodeC] at hc3
            clear hp hf hc2 hg2 hB3
            go_wp2
            go_roundg (l.length - (i' + 2))
            case measure => have := unhide HK; omega
            case rel =>
              refine ⟨_, i' + 2, f, ⟨unhide HP4, unhide HG4, unhide HF4, by rw [unhide HR, itemsT_dots (unhide E1) (unhide HM) (unhide E2)], by omega, by simp; omega, by simp; omega⟩, rfl⟩
          · have E2 := hide hb
            clear hb
            go_wp2_with fail
            refine (take_n (unhide HP2) (unhide E2)).mono ?_
            rintro e w3 ⟨rfl, hp, hf⟩
            have HP3 := hide hp
            have HG3 := hide (take_fr (unhide HG2) hf (unhide HP2) hn)
            have HF3 := hide ((unhide HF2).fr hf (.inl rfl))
            clear hp hf hc2 hg2
            have hsz3 := (unhide HF3).size
            obtain ⟨v3, hB3, hI3, hN3⟩ := unhide HG3
            have HQ := hide (item_q (unhide HP3) hN hB3 hI3 (fun b hb => hok b (by omega)) hn (hN3.gt hgi hgw) (by omega))
            have HB3 := hide hB3
            have HNW := hide hN3
            rcases hr2 : itemT l (i' + 1) with ⟨p, x2⟩ | ⟨x2, j2⟩
            · have HE := hide (show rA = .error (p, x2) by rw [unhide HR, itemsT_item (unhide E1) (.inr (unhide E2)), hr2]; rfl)
              rw [hr2] at HQ
              clear hr2 hB3 hI3 hN3
              go_wp2_with fail
              refine (unhide HQ).mono ?_
              rintro e w4 ⟨⟨rfl, hp⟩, hf⟩
              have HP4 := hide hp
              have HF4 := hide ((unhide HF3).si hf (unhide HNW))
              clear hp hf HQ
              go_wp2
              go_ret
              rw [unhide HE]
              exact ⟨⟨rfl, unhide HP4⟩, unhide HF4⟩
            · have hj2 := itemT_lt hr2
              simp only at hj2
              have HE := hide (show rA = itemsT l f { nd' with items := nd'.items ++ [x2], root := nd'.root + 1 } j2 by rw [unhide HR, itemsT_item (unhide E1) (.inr (unhide E2)), hr2]; simp [bind, Except.bind, unhide HM])
              rw [hr2] at HQ
              clear hr2 hB3 hI3 hN3
              go_wp2_with fail
              refine (unhide HQ).mono ?_
              rintro e w4 ⟨⟨rfl, hp, hG⟩, hf⟩
              have HP4 := hide hp
              have HF4 := hide ((unhide HF3).si hf (unhide HNW))
              obtain ⟨v4, hB4, hI4, hN4⟩ := hG
              have HG4 : Hid (GivesItems n ok w vi vf { nd' with items := nd'.items ++ [x2] } w4) := ⟨v4, hB4, hI4, (unhide HNW).trans hN4 hsz3⟩
              obtain ⟨hc4, hg4, _⟩ := hB4.facts
              simp only [nodeC] at hc4
              rw [unhide HM] at hc4
              have hjl := hp.2.2.1
              clear hp hf HQ hI4 hN4 hB4
              have HG5 := hide ((unhide HG4).set (nd' := { nd' with items := nd'.items ++ [x2], root := nd'.root + 1 }) 13 (.int .i64 ((nd'.root : Int) + 1)) (fun v => rfl) rfl)
              have HP5 := hide ((unhide HP4).far hn 13 (.int .i64 ((nd'.root : Int) + 1)))
              have HF5 := hide ((unhide HF4).set (p := ⟨n, 13, none⟩) (.inl (.inr (.inl rfl))) (.int .i64 ((nd'.root : Int) + 1)))
              go_wp2
              go_roundg (l.length - j2)
              case measure => have := unhide HK; omega
              case rel =>
                refine ⟨_, j2, f, ⟨unhide HP5, unhide HG5, unhide HF5, unhide HE, by omega, by simp; omega, by simp; omega⟩, rfl⟩
        · have HM := hide hm
          rw [hm] at hc2
          clear hm hB2
          have hsz2 := (unhide HF2).size
          obtain ⟨v2, hB2, hI2, hN2⟩ := unhide HG2
          have HQ := hide (item_q (unhide HP2) hN hB2 hI2 (fun b hb => hok b (by omega)) hn (hN2.gt hgi hgw) (by omega))
          have HB2 := hide hB2
          have HNW := hide hN2
          rcases hr2 : itemT l (i' + 1) with ⟨p, x2⟩ | ⟨x2, j2⟩
          · have HE := hide (show rA = .error (p, x2) by rw [unhide HR, itemsT_item (unhide E1) (.inl (unhide HM)), hr2]; rfl)
            rw [hr2] at HQ
            clear hr2 hB2 hI2 hN2
            go_wp2_with fail
            refine (unhide HQ).mono ?_
            rintro e w4 ⟨⟨rfl, hp⟩, hf⟩
            have HP4 := hide hp
            have HF4 := hide ((unhide HF2).si hf (unhide HNW))
            clear hp hf HQ
            go_wp2
            go_ret
            rw [unhide HE]
            exact ⟨⟨rfl, unhide HP4⟩, unhide HF4⟩
          · have hj2 := itemT_lt hr2
            simp only at hj2
            have HE := hide (show rA = itemsT l f { nd' with items := nd'.items ++ [x2], root := nd'.root } j2 by rw [unhide HR, itemsT_item (unhide E1) (.inl (unhide HM)), hr2]; simp [bind, Except.bind, unhide HM])
            rw [hr2] at HQ
            clear hr2 hB2 hI2 hN2
            go_wp2_with fail
            refine (unhide HQ).mono ?_
            rintro e w4 ⟨⟨rfl, hp, hG⟩, hf⟩
            have HP4 := hide hp
            have HF4 := hide ((unhide HF2).si hf (unhide HNW))
            obtain ⟨v4, hB4, hI4, hN4⟩ := hG
            have HG4 : Hid (GivesItems n ok w vi vf { nd' with items := nd'.items ++ [x2] } w4) := ⟨v4, hB4, hI4, (unhide HNW).trans hN4 hsz2⟩
            obtain ⟨hc4, hg4, _⟩ := hB4.facts
            simp only [nodeC] at hc4
            rw [unhide HM] at hc4
            have hjl := hp.2.2.1
            clear hp hf HQ hI4 hN4 hB4
            go_wp2
            go_roundg (l.length - j2)
            case measure => have := unhide HK; omega
            case rel =>
              refine ⟨_, j2, f, ⟨unhide HP4, unhide HG4, unhide HF4, unhide HE, by omega, by simp; omega, by simp; omega⟩, rfl⟩
      · have E1 := hide hb
        clear hb
        go_wp2_with fail
        refine (take_n (unhide HP) (unhide E1)).mono ?_
        rintro e w2 ⟨rfl, hp, hf⟩
        have HP2 := hide hp
        have HG2 := hide (take_fr (unhide HG) hf (unhide HP) hn)
        have HF2 := hide ((unhide HF).fr hf (.inl rfl))
        clear hp hf
        go_wp2
        go_ret
        rw [unhide HR, itemsT_stop (unhide E1)]
        exact ⟨⟨rfl, unhide HP2, unhide HG2⟩, unhide HF2⟩
end
end Go.Proofs.YtckcbgijddglpaaGreatDoor
