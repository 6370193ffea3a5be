/- The contract of Own: a copy with spare room behind it, in which there is something. -/
import Derived.Test.YtnbcehoddjcnoaaLow
import Derived.Deep.QuietTactic
import Derived.BigQuiet
namespace Go.Proofs.Ytnbcehoddjcnoaa
open Go.ChangeShapes Go.WideShapes Go.ChangeAt Go.RowKit

/-- append within the capacity, whatever the source. -/
theorem wpList_append_room {P : Program} (w : World) {ops : Array Oper} {rest : List Oper} {o : Oper} {a : Act} {Q : Exit → Act → World → Prop}
    (hg : o.guard = none) (s x : Operand) (t : TypeId) (hop : o.op = Op.call { callee := Callee.builtin Builtin.append, args := #[s, x], argTypes := #[t, t] })
    (base : Nat) (e : TypeId) (i : TypeInfo) (size : Nat) (h1 : P.underlying t = some (.slice e)) (h2 : P.info? e = some i) (h4 : i.size = size)
    (g k cap : Nat) (xs : List Value) (hs : a.eval s = .slice (some ⟨g, 0, none⟩) k cap) (hown : w.ownsRow base e size (.slice (some ⟨g, 0, none⟩) k cap) k xs)
    (B : Nat) (A : Option Addr) (m c : Nat) (news : List Value) (hx : a.eval x = .slice A m c) (hr : Reads w B size A m news) (h1c : ∀ u ∈ news, u.oneCell' = true) (b1 : k + m ≤ cap)
    (hK : ∀ w', w'.ownsRow base e size (.slice (some ⟨g, 0, none⟩) (k + m) cap) (k + m) (xs ++ news) → w.grownBy w' (some g) → wpList P ops Q rest (a.put o.dst (.slice (some ⟨g, 0, none⟩) (k + m) cap)) w') :
    wpList P ops Q (o :: rest) a w := by
  rcases A with _ | ad
  · have hm : m = 0 := by
      rcases Nat.eq_zero_or_pos m with h0 | h0
      · exact h0
      · obtain ⟨ad, h, _⟩ := hr.2 h0
        cases h
    subst hm
    have hn : news = [] := List.eq_nil_of_length_eq_zero (by simpa using hr.1)
    subst hn
    refine wpList_plain hg fun K hK' => ?_
    have hrun := run_append_of_nil (P := P) w base t o.type e i size h1 h2 _ k xs hown c
    unfold Oper.wp
    simp [execOp, hop, resolve, invoke, builtin, hs, hx, hrun, Result.andThen]
    exact hK' _ _ (by simpa using hK w (by simpa using hown) (World.grownBy.refl _ _))
  · have hcells : ∀ j u, news[j]? = some u → w.cell? (ad.add j) = some u := by
      intro j u hu
      rcases Nat.eq_zero_or_pos m with h0 | h0
      · subst h0
        have hn : news = [] := List.eq_nil_of_length_eq_zero (by simpa using hr.1)
        subst hn
        simp at hu
      · obtain ⟨ad', h, _, hc⟩ := hr.2 h0
        injection h with h
        subst h
        exact hc j u hu
    exact wpList_append_fits w hg s x t hop base e i size h1 h2 h4 g k cap xs hs hown ad m c news hx hr.1 hcells h1c b1 hK

/-- A row of the call's own, seen whole, its spare room too. -/
theorem own_full {w : World} {base g n cap : Nat} {e : TypeId} {xs : List Value} (h : w.ownsRow base e 1 (.slice (some ⟨g, 0, none⟩) n cap) n xs) :
    ∃ ys, ys.length + n = cap ∧ Blk w g e (xs ++ ys).toArray ∧ base ≤ g := by
  rcases h.2 with ⟨h', _⟩ | ⟨g', cap', cur, h', hb, hh, hnc, hcm, hs, ht⟩
  · simp at h'
  · injection h' with h1 h2 h3
    injection h1 with h1
    injection h1 with h1
    subst h1; subst h3
    refine ⟨cur.toList.drop (n * 1), by simp only [List.length_drop, Array.length_toList]; omega, ?_, hb⟩
    unfold Blk
    rw [hh, ← ht, List.take_append_drop]

def OwnCells (xs : List Int) (f : Int) : Array Value := (xs.map (Value.int .u8) ++ List.replicate 3 (Value.int .u8 f)).toArray
def GivesOwn (xs : List Int) (f : Int) (w : World) (e : Ending) (w' : World) : Prop :=
  ∃ g, e = .returned (.slice (some ⟨g, 0, none⟩) xs.length (xs.length + 3)) ∧ Blk w' g 5 (OwnCells xs f) ∧ w.heap.size ≤ g ∧ Keeps w w'
def OwnRel (w : World) (g : Nat) (xs : List Int) (f : Int) (k : Nat) (wr : World) : Prop :=
  ∃ zs : List Value, k + zs.length = 3 ∧ Blk wr g 5 (xs.map (Value.int .u8) ++ (List.replicate k (Value.int .u8 f) ++ zs)).toArray ∧ Keeps w wr ∧ w.heap.size ≤ g
theorem ownrel_cell {w wr : World} {g : Nat} {xs : List Int} {f : Int} {k : Nat} (h : OwnRel w g xs f k wr) (hk : k < 3) :
    (∃ u, wr.cell? ⟨g, xs.length + k, none⟩ = some u) ∧ wr.frozen? ⟨g, xs.length + k, none⟩ = false := by
  obtain ⟨zs, hz, hb, hkk, hg⟩ := h
  refine ⟨?_, hb.frozen _⟩
  rw [hb.cell]
  have : xs.length + k < (xs.map (Value.int .u8) ++ (List.replicate k (Value.int .u8 f) ++ zs)).toArray.size := by simp; omega
  exact ⟨_, Array.getElem?_eq_getElem this⟩
theorem ownrel_step {w wr : World} {g : Nat} {xs : List Int} {f : Int} {k : Nat} (h : OwnRel w g xs f k wr) (hk : k < 3) :
    OwnRel w g xs f (k + 1) (wr.setCell ⟨g, xs.length + k, none⟩ (.int .u8 f)) := by
  obtain ⟨zs, hz, hb, hkk, hg⟩ := h
  obtain ⟨z, zs', rfl⟩ : ∃ z zs', zs = z :: zs' := by
    cases zs with
    | nil => simp at hz; omega
    | cons z zs' => exact ⟨z, zs', rfl⟩
  refine ⟨zs', by simp at hz; omega, ?_, hkk.setCell hg _, hg⟩
  have := hb.set_ (xs.length + k) (.int .u8 f)
  rw [show ((xs.map (Value.int .u8) ++ (List.replicate k (Value.int .u8 f) ++ z :: zs')).toArray.setIfInBounds (xs.length + k) (.int .u8 f)) = (xs.map (Value.int .u8) ++ (List.replicate (k + 1) (Value.int .u8 f) ++ zs')).toArray from by
    rw [List.setIfInBounds_toArray, List.set_append, if_neg (by simp), List.set_append, if_neg (by simp)]
    simp [List.replicate_succ']] at this
  exact this

theorem run_make_room (n : Nat) (hn : n ≤ 1000000) (w : World) :
    (Instr.makeSlice 23 (.int .i64 0) (.int .i64 ((n : Int) + 3))).run Try.prog w = .ok (.slice (some ⟨w.heap.size, 0, none⟩) 0 (n + 3)) (w.alloc (.cells (madeCells #[.int .u8 0] (n + 3)) 5)) := by
  obtain ⟨i0, hi0, hz0, hz1, hz2⟩ := info_parts u8_info
  have hb : (i0.bytes : Int) * ((n : Int) + 3) ≤ 281474976710656 := by rw [hz2]; omega
  have hr := run_make (P := Try.prog) w 23 5 i0 (.int .u8 0) Try.underlying23 hi0 hz0 .i64 .i64 0 ((n : Int) + 3) (by omega) (by omega) hb (by omega)
  simp only [hz1, Nat.mul_one, Int.toNat_zero, show ((n : Int) + 3).toNat = n + 3 from by omega] at hr
  exact hr

theorem ret_slice3 {A : Option Addr} {n m : Nat} (h : n = m) : Ending.returned (.slice A n (n + 3)) = .returned (.slice A m (m + 3)) := by rw [h]

set_option maxRecDepth 100000 in
set_option maxHeartbeats 2000000 in
theorem own_any (A : Option Addr) (xs : List Int) (c : Nat) (f : Int) (hl : xs.length ≤ 100000) (w : World) (hh : Holds w A xs) :
    Calls Try.prog 11 #[.slice A xs.length c, .int .u8 f] w (GivesOwn xs f w) := by
  obtain ⟨i0, hi0, hz0, hz1, hz2⟩ := info_parts u8_info
  have hmk := run_make_room xs.length (by omega)
  have hown := World.ownsRow_made (base := w.heap.size) (e := 5) (size := 1) w (madeCells #[.int .u8 0] (xs.length + 3)) (xs.length + 3) (Nat.le_refl _) (by simp only [maxLen]; omega) (by simp [size_madeCells])
  have hread := Reads.alloc hh (Nat.le_refl _) (.cells (madeCells #[.int .u8 0] (xs.length + 3)) 5)
  go_enter Try.func11, Try.ntmps11
  go_wp2_with (at_builtin; refine wpList_append_room _ rfl (.tmp 12) (.tmp 13) _ rfl w.heap.size 5 i0 1 Try.underlying23 hi0 hz1 _ 0 _ _ rfl hown w.heap.size A xs.length c _ rfl hread (ints_oneCell _ _) (by omega) ?_; intro w1 hown1 hg1)
  have hrel : OwnRel w w.heap.size xs f 0 w1 := by
    obtain ⟨ys, hy, hb, _⟩ := own_full hown1
    exact ⟨ys, by omega, by simpa using hb, ((Keeps.refl _).alloc _).grown hg1 (fun k hk => by injection hk with hk; omega), Nat.le_refl _⟩
  have HR := hide hrel
  clear hown hown1 hg1 hrel hread hmk hh
  generalize hn : xs.length = n at *
  have HN := hide hn
  clear hn
  go_loopw [7] (fun i wr => ∃ k : Nat, k ≤ 3 ∧ i = .int .i64 ((n + k : Nat) : Int) ∧ OwnRel w w.heap.size xs f k wr) (fun i _ => n + 4 - (intOf i).toNat)
  case atStart => exact ⟨0, by omega, rfl, unhide HR⟩
  case round =>
    obtain ⟨k, hk, rfl, hr⟩ := hrel
    by_cases hlt : k < 3
    · obtain ⟨⟨u, hc⟩, hf⟩ := ownrel_cell hr hlt
      have hs := ownrel_step hr hlt
      rw [unhide HN] at hc hf hs
      have HS := hide hs
      clear hs hr
      go_wp2
      exact ⟨⟨k + 1, by omega, congrArg (Value.int IntKind.i64) (by omega), unhide HS⟩, by simp [intOf]; omega⟩
    · obtain rfl : k = 3 := by omega
      go_wp2
      go_ret
      obtain ⟨zs, hz, hb, hkk, hg⟩ := hr
      have hzs : zs = [] := List.eq_nil_of_length_eq_zero (by omega)
      subst hzs
      exact ⟨w.heap.size, ret_slice3 (unhide HN).symm, by simpa [OwnCells] using hb, hg, hkk⟩

end Go.Proofs.Ytnbcehoddjcnoaa
