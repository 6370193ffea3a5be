/- The contract of Own at tags. -/
import Derived.Test.YtknmcodpnhdghaaRefWrap
namespace Go.Proofs.Ytknmcodpnhdghaa
open Go.ChangeShapes Go.WideShapes Go.ChangeAt Go.RowKit

theorem wpList_append_room {P : Program} (w : World) {ops : Array Oper} {rest : List Oper} {o : Oper} {a : Act} {Q : Exit → Act → World → Prop}
    (hg : o.guard = none) (s x : Operand) (t : TypeId) (hop : o.op = Op.call { callee := Callee.builtin Builtin.append, args := #[s, x], argTypes := #[t, t] })
    (base : Nat) (e : TypeId) (i : TypeInfo) (size : Nat) (h1 : P.underlying t = some (.slice e)) (h2 : P.info? e = some i) (h4 : i.size = size)
    (g k cap : Nat) (xs : List Value) (hs : a.eval s = .slice (some ⟨g, 0, none⟩) k cap) (hown : w.ownsRow base e size (.slice (some ⟨g, 0, none⟩) k cap) k xs)
    (B : Nat) (A : Option Addr) (m c : Nat) (news : List Value) (hx : a.eval x = .slice A m c) (hr : Reads w B size A m news) (h1c : ∀ u ∈ news, u.oneCell' = true) (b1 : k + m ≤ cap)
    (hK : ∀ w', w'.ownsRow base e size (.slice (some ⟨g, 0, none⟩) (k + m) cap) (k + m) (xs ++ news) → w.grownBy w' (some g) → wpList P ops Q rest (a.put o.dst (.slice (some ⟨g, 0, none⟩) (k + m) cap)) w') :
    wpList P ops Q (o :: rest) a w := by
  rcases A with _ | ad
  · have hm : m = 0 := by
      rcases Nat.eq_zero_or_pos m with h0 | h0
      · exact h0
      · obtain ⟨ad, h, _⟩ := hr.2 h0
        cases h
    subst hm
    have hn : news = [] := List.eq_nil_of_length_eq_zero (by simpa using hr.1)
    subst hn
    refine wpList_plain hg fun K hK' => ?_
    have hrun := run_append_of_nil (P := P) w base t o.type e i size h1 h2 _ k xs hown c
    unfold Oper.wp
    simp [execOp, hop, resolve, invoke, builtin, hs, hx, hrun, Result.andThen]
    exact hK' _ _ (by simpa using hK w (by simpa using hown) (World.grownBy.refl _ _))
  · have hcells : ∀ j u, news[j]? = some u → w.cell? (ad.add j) = some u := by
      intro j u hu
      rcases Nat.eq_zero_or_pos m with h0 | h0
      · subst h0
        have hn : news = [] := List.eq_nil_of_length_eq_zero (by simpa using hr.1)
        subst hn
        simp at hu
      · obtain ⟨ad', h, _, hc⟩ := hr.2 h0
        injection h with h
        subst h
        exact hc j u hu
    exact wpList_append_fits w hg s x t hop base e i size h1 h2 h4 g k cap xs hs hown ad m c news hx hr.1 hcells h1c b1 hK
theorem own_full {w : World} {base g n cap size : Nat} {e : TypeId} {xs : List Value} (h : w.ownsRow base e size (.slice (some ⟨g, 0, none⟩) n cap) n xs) :
    ∃ ys, ys.length + n * size = cap * size ∧ Blk w g e (xs ++ ys).toArray ∧ base ≤ g := by
  rcases h.2 with ⟨h', _⟩ | ⟨g', cap', cur, h', hb, hh, hnc, hcm, hs, ht⟩
  · simp at h'
  · injection h' with h1 h2 h3
    injection h1 with h1
    injection h1 with h1
    subst h1; subst h3
    have hle : n * size ≤ cap * size := Nat.mul_le_mul_right _ hnc
    refine ⟨cur.toList.drop (n * size), by simp only [List.length_drop, Array.length_toList]; omega, ?_, hb⟩
    unfold Blk
    rw [hh, ← ht, List.take_append_drop]

def Fill3 (k : Nat) (f1 f2 : Int) : List Value := TagL (List.replicate k (f1, f2))
def OwnCellsT (xs : List (Int × Int)) (f1 f2 : Int) : Array Value := (TagL xs ++ Fill3 3 f1 f2).toArray
def GivesOwnT (xs : List (Int × Int)) (f1 f2 : Int) (w : World) (e : Ending) (w' : World) : Prop :=
  ∃ g, e = .returned (.slice (some ⟨g, 0, none⟩) xs.length (xs.length + 3)) ∧ Blk w' g 71 (OwnCellsT xs f1 f2) ∧ w.heap.size ≤ g ∧ Keeps w w'
def OwnRelT (w : World) (g : Nat) (xs : List (Int × Int)) (f1 f2 : Int) (k : Nat) (wr : World) : Prop :=
  ∃ zs : List Value, k * 2 + zs.length = 6 ∧ Blk wr g 71 (TagL xs ++ (Fill3 k f1 f2 ++ zs)).toArray ∧ Keeps w wr ∧ w.heap.size ≤ g
theorem fill_length (k : Nat) (f1 f2 : Int) : (Fill3 k f1 f2).length = k * 2 := by simp [Fill3, tagL_length]
theorem ownrelT_cell {w wr : World} {g : Nat} {xs : List (Int × Int)} {f1 f2 : Int} {k : Nat} (h : OwnRelT w g xs f1 f2 k wr) (hk : k < 3) (j : Nat) (hj : j < 2) :
    (∃ u, wr.cell? ⟨g, (xs.length + k) * 2 + j, none⟩ = some u) ∧ wr.frozen? ⟨g, (xs.length + k) * 2 + j, none⟩ = false := by
  obtain ⟨zs, hz, hb, hkk, hg⟩ := h
  refine ⟨?_, hb.frozen _⟩
  rw [hb.cell]
  have : (xs.length + k) * 2 + j < (TagL xs ++ (Fill3 k f1 f2 ++ zs)).toArray.size := by simp [tagL_length, fill_length]; omega
  exact ⟨_, Array.getElem?_eq_getElem this⟩
theorem set_tail (a b c : List Value) (i : Nat) (v : Value) (h : a.length + b.length ≤ i) : (a ++ (b ++ c)).set i v = a ++ (b ++ c.set (i - a.length - b.length) v) := by
  rw [List.set_append, if_neg (by omega), List.set_append, if_neg (by omega)]
theorem ownrelT_step {w wr : World} {g : Nat} {xs : List (Int × Int)} {f1 f2 : Int} {k : Nat} (h : OwnRelT w g xs f1 f2 k wr) (hk : k < 3) :
    OwnRelT w g xs f1 f2 (k + 1) ((wr.setCell ⟨g, (xs.length + k) * 2, none⟩ (.int .i64 f1)).setCell ⟨g, (xs.length + k) * 2 + 1, none⟩ (.int .i64 f2)) := by
  obtain ⟨zs, hz, hb, hkk, hg⟩ := h
  obtain ⟨z1, z2, zs', rfl⟩ : ∃ z1 z2 zs', zs = z1 :: z2 :: zs' := by
    match zs, hz with
    | [], hz => simp at hz; omega
    | [_], hz => simp at hz; omega
    | z1 :: z2 :: zs', _ => exact ⟨z1, z2, zs', rfl⟩
  refine ⟨zs', by simp at hz; omega, ?_, (hkk.setCell hg _).setCell hg _, hg⟩
  have := (hb.set_ ((xs.length + k) * 2) (.int .i64 f1)).set_ ((xs.length + k) * 2 + 1) (.int .i64 f2)
  rw [show ((((TagL xs ++ (Fill3 k f1 f2 ++ z1 :: z2 :: zs')).toArray.setIfInBounds ((xs.length + k) * 2) (.int .i64 f1))).setIfInBounds ((xs.length + k) * 2 + 1) (.int .i64 f2)) = (TagL xs ++ (Fill3 (k + 1) f1 f2 ++ zs')).toArray from by
    have e1 : (xs.length + k) * 2 - xs.length * 2 - k * 2 = 0 := by omega
    have e2 : (xs.length + k) * 2 + 1 - xs.length * 2 - k * 2 = 1 := by omega
    have hs1 := set_tail (TagL xs) (Fill3 k f1 f2) (z1 :: z2 :: zs') ((xs.length + k) * 2) (.int .i64 f1) (by rw [tagL_length, fill_length]; omega)
    rw [tagL_length, fill_length, e1] at hs1
    have hs2 := set_tail (TagL xs) (Fill3 k f1 f2) (.int .i64 f1 :: z2 :: zs') ((xs.length + k) * 2 + 1) (.int .i64 f2) (by rw [tagL_length, fill_length]; omega)
    rw [tagL_length, fill_length, e2] at hs2
    simp only [List.setIfInBounds_toArray]
    rw [hs1, List.set_cons_zero, hs2]
    simp [Fill3, List.replicate_succ', TagL, tagCells]] at this
  exact this

theorem run_make_roomT (n : Nat) (hn : n ≤ 1000000) :
    ∃ cur : Array Value, cur.size = (n + 3) * 2 ∧ ∀ w : World, (Instr.makeSlice 73 (.int .i64 0) (.int .i64 ((n : Int) + 3))).run Try.prog w = .ok (.slice (some ⟨w.heap.size, 0, none⟩) 0 (n + 3)) (w.alloc (.cells cur 71)) := by
  obtain ⟨i0, hi0, hz0, hz1, hz2⟩ := info_parts tag_info
  refine ⟨madeCells (Value.agg #[.int .i64 0, .int .i64 0]).cells ((n + 3) * 2), size_madeCells _ _, fun w => ?_⟩
  have hb : (i0.bytes : Int) * ((n : Int) + 3) ≤ 281474976710656 := by rw [hz2]; omega
  have hr := run_make (P := Try.prog) w 73 71 i0 _ Try.underlying73 hi0 hz0 .i64 .i64 0 ((n : Int) + 3) (by omega) (by omega) hb (by omega)
  simp only [hz1, Int.toNat_zero, show ((n : Int) + 3).toNat = n + 3 from by omega] at hr
  exact hr
theorem ret_sliceT {A : Option Addr} {n m : Nat} (h : n = m) : Ending.returned (.slice A n (n + 3)) = .returned (.slice A m (m + 3)) := by rw [h]

set_option maxRecDepth 100000 in
set_option maxHeartbeats 4000000 in
theorem ownT_any (A : Option Addr) (xs : List (Int × Int)) (c : Nat) (f1 f2 : Int) (hl : xs.length ≤ 10000) (w : World) (hh : HoldsT w A xs) :
    Calls Try.prog 57 #[.slice A xs.length c, .agg #[.int .i64 f1, .int .i64 f2]] w (GivesOwnT xs f1 f2 w) := by
  obtain ⟨i0, hi0, hz0, hz1, hz2⟩ := info_parts tag_info
  obtain ⟨cur, hcs, hmk⟩ := run_make_roomT xs.length (by omega)
  have hown := World.ownsRow_made (base := w.heap.size) (e := 71) (size := 2) (w.alloc (.cells #[.int .i64 f1, .int .i64 f2] 71)) cur (xs.length + 3) (by simp) (by simp only [maxLen]; omega) hcs
  replace hown : ((w.alloc (.cells #[.int .i64 f1, .int .i64 f2] 71)).alloc (.cells cur 71)).ownsRow w.heap.size 71 2 (.slice (some ⟨w.heap.size + 1, 0, none⟩) 0 (xs.length + 3)) 0 [] := by simpa using hown
  have hread := HoldsT.keeps hh (((Keeps.refl w).alloc (.cells #[.int .i64 f1, .int .i64 f2] 71)).alloc (.cells cur 71))
  have hfill : Blk ((w.alloc (.cells #[.int .i64 f1, .int .i64 f2] 71)).alloc (.cells cur 71)) w.heap.size 71 #[.int .i64 f1, .int .i64 f2] := (Blk.new w _ _).alloc _
  have HC := hide hcs
  clear hcs
  go_enter Try.func57, Try.ntmps57
  go_wp2_with (at_builtin; refine wpList_append_room _ rfl (.tmp 12) (.tmp 13) _ rfl w.heap.size 71 i0 2 Try.underlying73 hi0 hz1 _ 0 _ _ rfl hown _ A xs.length c _ rfl hread (tagL_one _) (by omega) ?_; intro w1 hown1 hg1)
  have hk1 : Keeps w w1 := (((Keeps.refl w).alloc (.cells #[.int .i64 f1, .int .i64 f2] 71)).alloc (.cells cur 71)).grown hg1 (fun k hk => by injection hk with hk; omega)
  have hrel : OwnRelT w (w.heap.size + 1) xs f1 f2 0 w1 := by
    obtain ⟨ys, hy, hb, _⟩ := own_full hown1
    exact ⟨ys, by omega, by simpa [Fill3, TagL] using hb, hk1, by omega⟩
  have hf1 : Blk w1 w.heap.size 71 #[.int .i64 f1, .int .i64 f2] := hfill.grown hg1 (by simp)
  have HR := hide hrel
  have HF := hide hf1
  clear hown hown1 hg1 hrel hread hmk hh hfill hk1 hf1
  generalize hn : xs.length = n at *
  have HN := hide hn
  clear hn
  go_loopw [7] (fun i wr => ∃ k : Nat, k ≤ 3 ∧ i = .int .i64 ((n + k : Nat) : Int) ∧ OwnRelT w (w.heap.size + 1) xs f1 f2 k wr ∧ Blk wr w.heap.size 71 #[.int .i64 f1, .int .i64 f2]) (fun i _ => n + 4 - (intOf i).toNat)
  case atStart => exact ⟨0, by omega, rfl, unhide HR, unhide HF⟩
  case round =>
    obtain ⟨k, hk, rfl, hr, hfl⟩ := hrel
    obtain ⟨q0, q1, q2⟩ := hfl.facts
    by_cases hlt : k < 3
    · obtain ⟨⟨u, hc⟩, hf⟩ := ownrelT_cell hr hlt 0 (by omega)
      obtain ⟨⟨u', hc'⟩, hf'⟩ := ownrelT_cell hr hlt 1 (by omega)
      have hs := ownrelT_step hr hlt
      rw [unhide HN] at hc hf hs hc' hf'
      replace hc : wr.cell? ⟨w.heap.size + 1, (n + k) * 2, none⟩ = some u := hc
      replace hf : wr.frozen? ⟨w.heap.size + 1, (n + k) * 2, none⟩ = false := hf
      have HS := hide hs
      clear hs hr
      go_wp2
      exact ⟨⟨k + 1, by omega, congrArg (Value.int IntKind.i64) (by omega), unhide HS, (hfl.far (p := ⟨w.heap.size + 1, _, none⟩) (by simp) _).far (p := ⟨w.heap.size + 1, _, none⟩) (by simp) _⟩, by simp [intOf]; omega⟩
    · obtain rfl : k = 3 := by omega
      go_wp2
      go_ret
      obtain ⟨zs, hz, hb, hkk, hg⟩ := hr
      have hzs : zs = [] := List.eq_nil_of_length_eq_zero (by omega)
      subst hzs
      exact ⟨w.heap.size + 1, ret_sliceT (unhide HN).symm, by simpa [OwnCellsT] using hb, hg, hkk⟩

end Go.Proofs.Ytknmcodpnhdghaa
