/- The contract of Take. -/
import Derived.Test.YtgaapigagglgbaaLenB2
namespace Go.Proofs.Ytgaapigagglgbaa
open Go.ChangeShapes Go.WideShapes Go.ChangeAt Go.RowKit
set_option linter.unusedVariables false

theorem fr_past {g h : Nat} {row : Option Nat} {w wr w2 : World} (h1 : Fr g none w wr) (h2 : Fr g row wr w2) (hr : ∀ b, row = some b → w.heap.size ≤ b) : Fr g none w w2 :=
  ⟨h2.1.trans h1.1, h2.2.1.trans h1.2.1, h2.2.2.1.trans h1.2.2.1, Nat.le_trans h1.2.2.2.1 h2.2.2.2.1, fun b hb hg _ => (h2.2.2.2.2 b (Nat.lt_of_lt_of_le hb h1.2.2.2.1) hg (fun e => by have := hr b e; omega)).trans (h1.2.2.2.2 b hb hg (fun e => by cases e))⟩
/-- Take at the beginning of a round: the octets up to now, the reader, the taker. -/
def TkS (w : World) (gr : Nat) (A : Option Addr) (c : Nat) (ys : List Int) (at_ : Nat) (most tn before : Int) (v : Value) (done : List Int) (wr : World) : Prop :=
  wr.ownsRow w.heap.size 5 1 v done.length (done.map (Value.int .u8)) ∧ WRV wr gr A c ys at_ 0 ∧ Blk wr w.heap.size 85 (takC gr most tn before) ∧ Fr gr none w wr
section
variable {w wr w2 : World} {gr : Nat} {A : Option Addr} {c : Nat} {ys : List Int} {at_ at2 : Nat} {most tn tn2 before before2 : Int} {v v2 : Value} {done : List Int}
theorem tks_row (h : TkS w gr A c ys at_ most tn before v done wr) (hg : gr < w.heap.size) : ∀ b, v.ownBlock = some b → b < wr.heap.size ∧ b ≠ gr ∧ b ≠ w.heap.size := by
  intro b e
  have hb := h.1.lt b e
  refine ⟨hb.2, by omega, fun e2 => ?_⟩
  obtain ⟨B, d, hv, _⟩ := own_form h.1
  subst hv
  rw [own_row rfl] at e
  exact own_row_ne h.1 h.2.2.1 (by decide) (by rw [e, e2])
theorem tks_next (h : TkS w gr A c ys at_ most tn before v done wr) (hg : gr < w.heap.size) {f ke : Int} {ok : Bool} {e : Ending} (hn : NextP wr gr w.heap.size A c ys at2 0 most tn2 before2 ke ok e w2) : TkS w gr A c ys at2 most tn2 before2 v done w2 := by
  obtain ⟨_, hR, hT, hf⟩ := hn
  refine ⟨own_kept h.1 fun b e => ?_, hR, hT, fr_past (h := 0) h.2.2.2 hf (fun b e => by injection e with e; omega)⟩
  have hb := tks_row h hg b e
  exact hf.2.2.2.2 b hb.1 hb.2.1 (fun e2 => by injection e2 with e2; exact hb.2.2 e2.symm)
theorem tks_oct (h : TkS w gr A c ys at_ most tn before v done wr) (hg : gr < w.heap.size) (hR : WRV w2 gr A c ys at2 0) (hf : Fr gr none wr w2) : TkS w gr A c ys at2 most tn before v done w2 := by
  refine ⟨own_kept h.1 fun b e => ?_, hR, fr_blk hf h.2.2.1 (by omega) (fun e => by cases e), fr_past (h := 0) h.2.2.2 hf (fun b e => by cases e)⟩
  have hb := tks_row h hg b e
  exact hf.2.2.2.2 b hb.1 hb.2.1 (fun e2 => by cases e2)
theorem tks_app (h : TkS w gr A c ys at_ most tn before v done wr) (hg : gr < w.heap.size) {zs : List Int} {k : Nat} (hz : zs.length = k) (hown : w2.ownsRow w.heap.size 5 1 v2 (done.length + k) (done.map (Value.int .u8) ++ zs.map (Value.int .u8))) (hgr : wr.grownBy w2 v.ownBlock) :
    TkS w gr A c ys at_ most tn before v2 (done ++ zs) w2 := by
  subst hz
  have hrow := tks_row h hg
  have hRl := h.2.1.1.lt
  refine ⟨by rw [List.length_append, List.map_append]; exact hown, ⟨(hgr.block _ hRl (fun e => (hrow _ e.symm).2.1 rfl)).trans h.2.1.1, ?_, h.2.1.2.2⟩, (hgr.block _ h.2.2.1.lt (fun e => (hrow _ e.symm).2.2 rfl)).trans h.2.2.1, ?_⟩
  · refine ⟨h.2.1.2.1.1, fun hn => ?_⟩
    obtain ⟨ad, e, hb, hc⟩ := h.2.1.2.1.2 hn
    have hlt := h.2.1.2.2 ad.block (by rw [e]; rfl)
    have hne : some ad.block ≠ v.ownBlock := fun e2 => by have := (h.1.lt _ e2.symm).1; omega
    exact ⟨ad, e, Nat.lt_of_lt_of_le hb hgr.size, fun j u hu => (World.cell?_of_block (a := ad.add j) (by rw [block_of_add]; exact hgr.block _ hb hne)).trans (hc j u hu)⟩
  · exact ⟨hgr.os.trans h.2.2.2.1, hgr.tape.trans h.2.2.2.2.1, hgr.output.trans h.2.2.2.2.2.1, Nat.le_trans h.2.2.2.2.2.2.1 hgr.size, fun b hb hgb _ => (hgr.block b (Nat.lt_of_lt_of_le hb h.2.2.2.2.2.2.1) (fun e => by have := (h.1.lt b e.symm).1; omega)).trans (h.2.2.2.2.2.2.2 b hb hgb (fun e => by cases e))⟩
end
/-- What Take gives. -/
def TakeP (w : World) (gr : Nat) (A : Option Addr) (c : Nat) (ys : List Int) (aF : Nat) (xs : List Int) (mx : Int) (e : Ending) (w' : World) : Prop :=
  ((xs.length : Int) ≤ mx → ∃ B d, e = .returned (.slice B xs.length d) ∧ Holds w' B xs ∧ (∀ b, rowOf B = some b → w.heap.size ≤ b) ∧ WRV w' gr A c ys aF 0 ∧ Fr gr none w w') ∧
  (mx < (xs.length : Int) → e = .returned (.slice none 0 0) ∧ ∃ a2, WRV w' gr A c ys a2 5 ∧ Fr gr none w w')

set_option maxRecDepth 100000 in
set_option maxHeartbeats 2000000 in
theorem take_any (most mx : Int) (hmx : max most 0 = mx) (hm1 : mx ≤ 9223372036854775807) (F at0 : Nat) (xs : List Int) {w : World} {gr : Nat} {A : Option Addr} {c : Nat} {ys : List Int} (hR : WRV w gr A c ys at0 0) (hy : B8 ys) (hl : ys.length ≤ 10000000) (hc : ys.length ≤ c)
    (hxl : xs.length ≤ 70000) (hF : xs.length < 16384 * (F + 1)) (hP : PutAt ys F at0 xs) (hK : at0 + putK F xs.length ≤ 8 * ys.length) :
    Calls Try.prog 22 #[.pointer (some ⟨gr, 0, none⟩), .int .i64 most] w (TakeP w gr A c ys (at0 + putK F xs.length) xs mx) := by
  obtain ⟨i0, hi0, hz0, hz1, hz2⟩ := info_parts u8_info
  have hg := hR.1.lt
  have hk0 := (Keeps.refl w).alloc (.cells (takC gr most 0 0) 85)
  have HS0 := hide (show TkS w gr A c ys at0 most 0 0 (.slice none 0 0) [] (w.alloc (.cells (takC gr most 0 0) 85)) from ⟨World.ownsRow_nil _ _ _ _, hR.keeps hk0, Blk.new w _ _, (Fr.refl gr none w).keeps hk0⟩)
  have HY := hide hy
  have HP := hide hP
  obtain ⟨aF, haF⟩ : ∃ aF, aF = at0 + putK F xs.length := ⟨_, rfl⟩
  rw [← haF] at hK ⊢
  have HAF := hide haF.symm
  clear hR hk0 hy hP haF
  go_enter Try.func22, Try.ntmps22
  go_wp2
  go_loopw [6] (fun v wr => ∃ (lv : Value) (rem done : List Int) (f a : Nat) (before : Int), lv = v ∧ TkS w gr A c ys a most done.length before lv done wr ∧ Hid (done ++ rem = xs) ∧ Hid (PutAt ys f a rem ∧ rem.length < 16384 * (f + 1) ∧ a + putK f rem.length = aF) ∧ (before = 0 ∨ before = 65536 ∨ rem.length < 16384)) (fun v _ => 80000 - slLen v)
  case atStart => exact ⟨_, xs, [], F, at0, 0, rfl, unhide HS0, hide rfl, hide ⟨unhide HP, hF, unhide HAF⟩, .inl rfl⟩
  case round =>
    obtain ⟨v, rem, done, f, a, before, rfl, hS, HD, HQ, hbf⟩ := hrel
    have hlen : done.length + rem.length = xs.length := by rw [← unhide HD, List.length_append]
    obtain ⟨q1, q2, q3⟩ := unhide HQ
    have hhere := q1.here q2
    have hkl := cutI_le rem.length
    have hk6 := cutI_max rem.length
    have hkb : detB (cutI rem.length) + 8 * cutI rem.length ≤ putK f rem.length := by
      rcases Nat.lt_or_ge rem.length 16384 with h | h
      · rw [putK_last f _ h]; exact Nat.le_refl _
      · obtain ⟨f', rfl⟩ : ∃ f', f = f' + 1 := ⟨f - 1, by omega⟩
        have : putK (f' + 1) rem.length = detB (cutI rem.length) + 8 * cutI rem.length + putK f' (rem.length - cutI rem.length) := if_neg (by omega)
        omega
    have hkk : cutI rem.length < 16384 ∨ (cutI rem.length = min (cutI rem.length / 16384) 4 * 16384 ∧ 16384 ≤ cutI rem.length) := by
      rcases Nat.lt_or_ge rem.length 16384 with h | h
      · left; rw [cutI_small h]; exact h
      · right
        have := cutI_big h
        exact ⟨by omega, this.2.1⟩
    have hbb : 16384 ≤ cutI rem.length → ¬ (0 < before ∧ before < 65536) := fun h => by omega
    obtain ⟨Bv, dv, hv, _⟩ := own_form hS.1
    have HV := hide hv
    have hrl := hS.2.1
    have htl := hS.2.2.1
    have hwz := hS.2.2.2.2.2.2.1
    by_cases hok : (done.length : Int) + (cutI rem.length : Nat) ≤ mx
    · have HN := hide (next_any_ok most done.length before mx (cutI rem.length) hmx hrl htl hg (unhide HY) hl hkk hbb (by omega) hhere.1 hm1 (by omega) (by omega) hok)
      have HSTEP := hide fun (w2 : World) (e : Ending) (h : NextP wr gr w.heap.size A c ys (a + detB (cutI rem.length)) 0 most (done.length + (cutI rem.length : Nat)) (cutI rem.length : Nat) (cutI rem.length : Nat) true e w2) => tks_next (f := 0) hS hg h
      have HOCT := hide fun (w2 : World) (h : WRV w2 gr A c ys (a + detB (cutI rem.length)) 0) => (show Calls _ _ _ w2 _ from by
        have := wrOctets_any (cutI rem.length : Int) (cutI rem.length) (by omega) h (unhide HY) hl (by omega) hc (by omega) (by omega)
        rw [hhere.2] at this
        exact this)
      have htk : (rem.take (cutI rem.length)).length = cutI rem.length := by rw [List.length_take]; omega
      have HTK := hide htk
      have HNEXT := hide (show rem.length < 16384 → (done ++ rem.take (cutI rem.length) = xs ∧ a + detB (cutI rem.length) + 8 * cutI rem.length = aF ∧ (xs.length : Int) ≤ mx) from fun h => by
        have e := cutI_small h
        rw [e] at hok ⊢
        rw [List.take_length]
        rw [putK_last f _ h, e] at q3
        exact ⟨unhide HD, by omega, by omega⟩)
      have HMORE := hide (show 16384 ≤ rem.length → ∃ f', (done ++ rem.take (cutI rem.length)) ++ rem.drop (cutI rem.length) = xs ∧ (PutAt ys f' (a + detB (cutI rem.length) + 8 * cutI rem.length) (rem.drop (cutI rem.length)) ∧ (rem.drop (cutI rem.length)).length < 16384 * (f' + 1) ∧ a + detB (cutI rem.length) + 8 * cutI rem.length + putK f' (rem.drop (cutI rem.length)).length = aF) ∧ (((cutI rem.length : Nat) : Int) = 65536 ∨ (rem.drop (cutI rem.length)).length < 16384) from fun h => by
        have hb := cutI_big h
        obtain ⟨f', rfl⟩ : ∃ f', f = f' + 1 := ⟨f - 1, by omega⟩
        have e2 : putK (f' + 1) rem.length = detB (cutI rem.length) + 8 * cutI rem.length + putK f' (rem.length - cutI rem.length) := if_neg (by omega)
        have hnx := q1.2.2 h
        unfold fragK at hnx
        rw [← Nat.add_assoc] at hnx
        refine ⟨f', by rw [List.append_assoc, List.take_append_drop]; exact unhide HD, ⟨hnx, by rw [List.length_drop]; omega, by rw [List.length_drop]; omega⟩, by rw [List.length_drop]; omega⟩)
      have hkL : cutI rem.length < 16384 ↔ rem.length < 16384 := by
        rcases Nat.lt_or_ge rem.length 16384 with h | h
        · rw [cutI_small h]
        · have := cutI_big h; omega
      have hd7 : done.length ≤ 70000 := by omega
      clear hhere hkb hkk hbb hS hrl htl q1 q2 q3 hok htk HQ hv
      generalize hkg : cutI rem.length = k at *
      clear hkg
      go_wp2_with fail
      with_reducible refine (unhide HN).mono ?_
      intro e w2 hnp
      have hS2 := unhide HSTEP w2 e hnp
      obtain ⟨rfl, _, _, _⟩ := hnp
      have HS2 := hide hS2
      have HO2 := hide (unhide HOCT w2 hS2.2.1)
      clear hS2
      go_wp2_with fail
      with_reducible refine (unhide HO2).mono ?_
      rintro e w3 ⟨B3, d3, rfl, hd3, hh3, _, hR3, hf3⟩
      have hS3 := tks_oct (unhide HS2) hg hR3 hf3
      rw [unhide HTK] at hd3 ⊢
      have HS3 := hide hS3
      have hz3 := hS3.2.2.2.2.2.2.1
      have HRD := hide (show Reads w3 w3.heap.size 1 B3 k ((rem.take k).map (Value.int .u8)) from by have := hh3; unfold Holds at this; rw [unhide HTK] at this; exact this)
      have HOWN := hide hS3.1
      clear hS3 hh3 hR3 hf3
      go_wp2_with (at_builtin; go_loud (refine wpList_append_any _ rfl (.tmp 18) (.tmp 21) _ rfl w.heap.size 5 i0 _ 1 1 Try.underlying28 hi0 hz0 hz1 hz2 rfl (by omega) _ _ _ rfl (unhide HOWN) _ B3 k d3 _ rfl (unhide HRD) (ints_oneCell _ _) (by simp only [maxLen]; omega) (by omega) hz3 ?_; intro v4 w4 hown4 hg4 _hat4; have HS4 := hide (tks_app (unhide HS3) hg (unhide HTK) hown4 hg4); clear hown4 hg4 _hat4))
      have HE4 := hide (wrErr_any (unhide HS4).2.1)
      go_wp2_with fail
      with_reducible refine (unhide HE4).mono ?_
      rintro e w5 ⟨rfl, hw5⟩
      rw [hw5]
      clear hw5
      by_cases hlt : k < 16384
      · go_wp2
        go_ret
        obtain ⟨x1, x2, x3⟩ := unhide HNEXT (hkL.1 hlt)
        have hS4 := unhide HS4
        rw [x1, x2] at hS4
        obtain ⟨B5, d5, rfl, _⟩ := own_form hS4.1
        exact ⟨fun _ => ⟨B5, d5, rfl, Reads.of_own hS4.1, fun b e => (hS4.1.lt b ((own_row rfl).trans e)).1, hS4.2.1, hS4.2.2.2⟩, fun h => by omega⟩
      · go_wp2
        obtain ⟨f', x1, x2, x3⟩ := unhide HMORE (by omega)
        have hS4 := unhide HS4
        have hl4 : (done ++ rem.take k).length = done.length + k := by rw [List.length_append, unhide HTK]
        have hv4 : slLen v4 = done.length + k := by
          obtain ⟨B5, d5, hv5, _⟩ := own_form hS4.1
          rw [hv5, hl4]; rfl
        have hvv : slLen v = done.length := by rw [unhide HV]; rfl
        refine ⟨⟨_, rem.drop k, _, f', _, (k : Nat), rfl, ?_, hide x1, hide x2, .inr x3⟩, by rw [hv4, hvv]; omega⟩
        rw [hl4, show ((done.length + k : Nat) : Int) = (done.length : Int) + (k : Nat) from by omega]
        exact hS4
    · have HN := hide (next_any_no most done.length before mx (cutI rem.length) hmx hrl htl hg (unhide HY) hl hkk hbb (by omega) hhere.1 hm1 (by omega) (by omega) (by omega))
      have HF := hide hS.2.2.2
      have hno : mx < (xs.length : Int) := by omega
      clear hhere hkb hkk hbb hS hrl htl q1 q2 q3 HQ hv
      generalize cutI rem.length = k at *
      go_wp2_with fail
      with_reducible refine (unhide HN).mono ?_
      rintro e w2 ⟨rfl, hR2, _, hf2⟩
      have HR2 := hide hR2
      have HF2 := hide (fr_past (h := 0) (unhide HF) hf2 (fun b e => by injection e with e; omega))
      clear hR2 hf2
      go_wp2
      go_ret
      exact ⟨fun h => by omega, fun _ => ⟨rfl, _, unhide HR2, unhide HF2⟩⟩
end Go.Proofs.Ytgaapigagglgbaa
