/- The contract of octets.Join: all parts, one after another, in memory of their own. -/
import Derived.Test.YtgaapigagglgbaaShelf
import Derived.Test.YtgaapigagglgbaaWhS
namespace Go.Proofs.Ytgaapigagglgbaa
open Go.ChangeShapes Go.WideShapes Go.ChangeAt Go.RowKit Go.Lib

/-- The post of a call that gives back the bytes xs in memory of their own. -/
def GivesJ (xs : List Int) (w : World) (e : Ending) (w' : World) : Prop :=
  ∃ A c, e = .returned (.slice A xs.length c) ∧ xs.length ≤ c ∧ Holds w' A xs ∧ Wr w.heap.size w' A xs.length ∧ Keeps w w'

def u8s (xs : List Int) : List UInt8 := xs.map fun x => UInt8.ofNat x.toNat
theorem u8s_length (xs : List Int) : (u8s xs).length = xs.length := by simp [u8s]
theorem u8_back (x : Int) (h : 0 ≤ x ∧ x ≤ 255) : ((UInt8.ofNat x.toNat).toNat : Int) = x := by
  have : x.toNat < 256 := by omega
  simp [UInt8.toNat_ofNat']
  omega
theorem nums_u8s (xs : List Int) (h : B8 xs) : numsL (u8s xs) = xs := by
  unfold numsL u8s
  rw [List.map_map]
  conv => rhs; rw [← List.map_id xs]
  apply List.map_congr_left
  intro x hx
  exact u8_back x (h x hx)
theorem u8s_append (xs ys : List Int) : u8s (xs ++ ys) = u8s xs ++ u8s ys := by simp [u8s]
theorem u8s_get {xs : List Int} (h : B8 xs) (i : Nat) (x : UInt8) (hx : (u8s xs)[i]? = some x) : i < xs.length ∧ xs.getD i 0 = (x.toNat : Int) := by
  have hi : i < xs.length := by
    have := (List.getElem?_eq_some_iff.1 hx).1
    rwa [u8s_length] at this
  refine ⟨hi, ?_⟩
  simp only [u8s, List.getElem?_map, List.getElem?_eq_getElem hi, Option.map_some, Option.some.injEq] at hx
  rw [← hx, u8_back _ (h _ (List.getElem_mem _))]
  simp [hi]

theorem Holds.bytes {w : World} {A : Option Addr} {xs : List Int} (h : Holds w A xs) (hx : B8 xs) (c : Nat) : HoldsBytes w (.slice A xs.length c) (u8s xs) := by
  refine ⟨A, c, by rw [u8s_length], fun e => ?_, fun a e i x hi => ?_⟩
  · rcases Nat.eq_zero_or_pos xs.length with h0 | h0
    · have : xs = [] := List.eq_nil_of_length_eq_zero h0
      rw [this]; rfl
    · obtain ⟨ad, e', _⟩ := h.2 h0
      rw [e] at e'; cases e'
  · obtain ⟨hl, hv⟩ := u8s_get hx i x hi
    obtain ⟨ad, e', _, hc⟩ := h.2 (by omega)
    rw [e] at e'; injection e' with e'; subst e'
    refine hc i _ ?_
    rw [List.getElem?_map, List.getElem?_eq_getElem hl, Option.map_some, ← hv]
    simp [hl]

theorem PartsH.at_ {w : World} {b o : Nat} {ps : List Part} (h : PartsH w b o ps) : PartsAt w ⟨b, o, none⟩ (ps.map fun q => .slice q.1 q.2.2.length q.2.1) (ps.map fun q => u8s q.2.2) := by
  refine ⟨by simp, fun i v hv => ?_, fun i v l hv hl => ?_⟩
  · rw [List.getElem?_map] at hv
    obtain ⟨q, hq, rfl⟩ := Option.map_eq_some_iff.1 hv
    rw [show (⟨b, o, none⟩ : Addr).add i = ⟨b, o + i, none⟩ from by unfold Addr.add; split <;> simp_all]
    exact (h i q hq).1
  · rw [List.getElem?_map] at hv hl
    obtain ⟨q, hq, rfl⟩ := Option.map_eq_some_iff.1 hv
    rw [hq] at hl
    simp only [Option.map_some, Option.some.injEq] at hl
    subst hl
    obtain ⟨_, h2, h3⟩ := h i q hq
    exact h2.bytes h3 _
theorem joinTail_nil (r : List (List UInt8)) : joinTail [] r = r.flatten := by simp [joinTail]
theorem join_flat (ps : List Part) : join (ps.map fun q => u8s q.2.2) [] = u8s (flat ps) := by
  cases ps with
  | nil => rfl
  | cons q ps =>
    rw [List.map_cons, join_cons, joinTail_nil]
    simp only [flat, u8s, List.flatMap_cons, List.map_append, List.append_cancel_left_eq]
    rw [List.map_flatMap, List.flatMap_def]
theorem lens_flat (ps : List Part) : lens (ps.map fun q => u8s q.2.2) = (flat ps).length := by
  induction ps with
  | nil => rfl
  | cons q ps ih => rw [List.map_cons, lens_cons, ih]; simp [flat, u8s_length]

/-- What the shelf says of the result, in this text's words. -/
theorem gives_of_fresh {w w' : World} {v : Value} {xs : List Int} (hx : B8 xs) (hf : FreshBytes w.heap.size w' v (u8s xs)) (hk : Keeps w w') : GivesJ xs w (.returned v) w' := by
  obtain ⟨g, cap, zs, rfl, hg, hl, hm, hz, hzr, hb, hc, hfz⟩ := hf
  rw [u8s_length] at hl hb ⊢
  have hlt : 0 < xs.length → g < w'.heap.size := fun h0 => by
    have h1 := hc 0 (by omega)
    rcases Nat.lt_or_ge g w'.heap.size with h2 | h2
    · exact h2
    · have hn : w'.heap[g]? = none := Array.getElem?_eq_none h2
      simp [World.cell?, hn] at h1
  have hzx : zs.take xs.length = xs := by
    have e1 : numsL (bytesOf (zs.take xs.length)) = zs.take xs.length := by
      unfold numsL bytesOf
      rw [List.map_map]
      conv => rhs; rw [← List.map_id (zs.take xs.length)]
      apply List.map_congr_left
      intro x hx
      have := hzr x (List.mem_of_mem_take hx)
      exact u8_back x (by omega)
    rw [hb, nums_u8s xs hx] at e1
    exact e1.symm
  refine ⟨_, cap, rfl, hl, ⟨by simp, fun h0 => ⟨_, rfl, hlt h0, fun j u hu => ?_⟩⟩, fun h0 => ⟨g, rfl, hg, fun i hi => hfz i (by omega)⟩, hk⟩
  have hj : j < xs.length := by
    have := (List.getElem?_eq_some_iff.1 hu).1
    simpa using this
  rw [show (⟨g, 0, none⟩ : Addr).add j = ⟨g, j, none⟩ from by unfold Addr.add; split <;> simp_all, hc j (by omega), ← hu, List.getElem?_map, List.getElem?_eq_getElem hj]
  have e2 : zs.getD j 0 = xs[j] := by
    have h3 : (zs.take xs.length)[j]? = some xs[j] := by rw [hzx]; exact List.getElem?_eq_getElem hj
    rw [List.getElem?_take_of_lt hj] at h3
    simp [List.getD, h3]
  rw [e2]; rfl
theorem gives_none {w w' : World} {A : Option Addr} {c : Nat} (hk : Keeps w w') : GivesJ [] w (.returned (.slice A 0 c)) w' :=
  ⟨A, c, rfl, Nat.zero_le _, ⟨by simp, fun h => absurd h (by simp)⟩, fun h => absurd h (by simp), hk⟩

theorem bytesJoin_any (A : Option Addr) (n c : Nat) (ps : List Part) (w : World) (hn : ps.length = n) (hc : n ≤ c) (hP : PartsAny w A ps) (hl : (flat ps).length ≤ 140737488355328) (hn47 : n ≤ 140737488355328) :
    Calls Try.prog 56 #[.slice A n c, .slice none 0 0] w (GivesJ (flat ps) w) := by
  rcases hP with rfl | ⟨b, o, rfl, hbs, hP⟩
  · subst hn
    refine (Try.bytes_Join_none A c (.slice none 0 0) w).mono ?_
    rintro e w' ⟨rfl, rfl⟩
    exact gives_none ((Keeps.refl _).alloc _)
  · rcases Nat.lt_or_ge 1 n with h2 | h2
    · refine (Try.bytes_Join_many b o n c _ _ (.slice none 0 0) [] w (by simpa using hn) h2 hP.at_ hc ⟨none, 0, rfl, fun _ => rfl, fun a h => by cases h⟩ hn47 (by rw [lens_flat]; simpa using hl)).mono ?_
      rintro e w' ⟨v, rfl, hf, hb⟩
      rw [join_flat] at hf
      exact gives_of_fresh (flat_bytes hP) hf hb
    · rcases Nat.eq_zero_or_pos n with h0 | h0
      · subst h0
        have : ps = [] := List.eq_nil_of_length_eq_zero hn
        subst this
        refine (Try.bytes_Join_none _ c (.slice none 0 0) w).mono ?_
        rintro e w' ⟨rfl, rfl⟩
        exact gives_none ((Keeps.refl _).alloc _)
      · obtain rfl : n = 1 := by omega
        match ps, hn with
        | [q], _ =>
          obtain ⟨A0, c0, xs⟩ := q
          obtain ⟨h1, h3, h4⟩ := hP 0 _ rfl
          have hfl : flat [(A0, c0, xs)] = xs := by simp [flat]
          rw [hfl] at hl ⊢
          simp only [Nat.add_zero] at h1
          rcases Nat.eq_zero_or_pos xs.length with hx0 | hx0
          · have : xs = [] := List.eq_nil_of_length_eq_zero hx0
            subst this
            refine (Try.bytes_Join_one_empty b o c A0 c0 (.slice none 0 0) w h1).mono ?_
            rintro e w' ⟨rfl, rfl⟩
            exact gives_none (Keeps.refl _)
          · obtain ⟨ad, rfl, _, hcell⟩ := h3.2 hx0
            refine (Try.bytes_Join_one b o c ad c0 (u8s xs) (.slice none 0 0) w (by rw [u8s_length]; exact h1) ?_ (by rw [u8s_length]; exact hx0) (by rw [u8s_length]; exact hl)).mono ?_
            · intro i x hx
              obtain ⟨hi, hv⟩ := u8s_get h4 i x hx
              refine hcell i _ ?_
              rw [List.getElem?_map, List.getElem?_eq_getElem hi, Option.map_some, ← hv]
              simp [hi]
            · rintro e w' ⟨v, rfl, hf, hb⟩
              exact gives_of_fresh h4 hf hb

set_option maxHeartbeats 1000000 in
theorem join_any (A : Option Addr) (n c : Nat) (ps : List Part) (w : World) (hn : ps.length = n) (hc : n ≤ c) (hP : PartsAny w A ps) (hl : (flat ps).length ≤ 140737488355328) (hn47 : n ≤ 140737488355328) :
    Calls Try.prog 37 #[.slice A n c] w (GivesJ (flat ps) w) := by
  have HJ := hide (bytesJoin_any A n c ps w hn hc hP hl hn47)
  clear hP hn hl hn47
  go_enter Try.func37, Try.ntmps37
  go_wp2_with fail
  refine (unhide HJ).mono ?_
  rintro e w1 ⟨A1, c1, rfl, hc1, hh, hwr, hk⟩
  go_wp2
  go_ret
  exact ⟨A1, c1, rfl, hc1, hh, hwr, hk⟩

end Go.Proofs.Ytgaapigagglgbaa
