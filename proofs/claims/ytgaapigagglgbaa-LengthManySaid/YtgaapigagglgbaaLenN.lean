/- Determinants: numbers; slices of ints; the contracts of cut, Cuts, their reference, and Plain of ints. -/
import Derived.Test.YtgaapigagglgbaaWhS
namespace Go.Proofs.Ytgaapigagglgbaa
open Go.ChangeShapes Go.WideShapes Go.ChangeAt Go.RowKit
set_option linter.unusedVariables false

/-- How many things stand behind the next determinant of n, and behind each. -/
def cutI (n : Nat) : Nat := if n < 16384 then n else min (n / 16384) 4 * 16384
def cutsL : Nat → Nat → List Int
  | 0, n => [(n : Int)]
  | f + 1, n => if n < 16384 then [(n : Int)] else (cutI n : Int) :: cutsL f (n - cutI n)
theorem cutI_small {n : Nat} (h : n < 16384) : cutI n = n := if_pos h
theorem cutI_big {n : Nat} (h : 16384 ≤ n) : cutI n = min (n / 16384) 4 * 16384 ∧ 16384 ≤ cutI n ∧ cutI n ≤ n := by
  have : cutI n = min (n / 16384) 4 * 16384 := if_neg (by omega)
  omega
theorem cutI_le (n : Nat) : cutI n ≤ n := by
  unfold cutI; split <;> omega
theorem cutI_max (n : Nat) : cutI n ≤ 65536 := by
  unfold cutI; split <;> omega
theorem cutsL_last (f n : Nat) (h : n < 16384) : cutsL f n = [(n : Int)] := by
  cases f with
  | zero => rfl
  | succ f => exact if_pos h
theorem cutsL_more (f n : Nat) (h : 16384 ≤ n) : cutsL (f + 1) n = (cutI n : Int) :: cutsL f (n - cutI n) := if_neg (by omega)
theorem cutsL_length (f : Nat) : ∀ n, (cutsL f n).length ≤ f + 1 := by
  induction f with
  | zero => intro n; simp [cutsL]
  | succ f ih => intro n; simp only [cutsL]; split <;> simp; exact ih _

/-! ### Slices of ints -/
abbrev IL (l : List Int) : List Value := l.map (Value.int .i64)
def HoldsI (w : World) (A : Option Addr) (l : List Int) : Prop := Reads w w.heap.size 1 A l.length (IL l)
theorem HoldsI.keeps {w w' : World} {A : Option Addr} {l : List Int} (h : HoldsI w A l) (hk : Keeps w w') : HoldsI w' A l := (Reads.keeps h hk (Nat.le_refl _)).more hk.size
theorem HoldsI.at_ {w : World} {A : Option Addr} {xs : List Int} (h : HoldsI w A xs) {k : Nat} (hk : k < xs.length) : ∃ b o, A = some ⟨b, o, none⟩ ∧ w.cell? ⟨b, o + k, none⟩ = some (.int .i64 (xs.getD k 0)) := by
  obtain ⟨ad, u, e, _, hx, hc⟩ := Reads.at_ h hk
  obtain ⟨b, o, spot⟩ := ad
  have hu : u = .int .i64 (xs.getD k 0) := by
    rw [List.getElem?_map] at hx
    have : xs[k]? = some (xs.getD k 0) := by simp [hk]
    rw [this] at hx; simpa using hx.symm
  subst hu
  have hs : spot = none := by
    obtain ⟨ad', e', _, hall⟩ := h.2 (by omega)
    rw [e] at e'; injection e' with e'; subst e'
    have h0 : 0 < xs.length := by omega
    have hz : (xs.map (Value.int .i64))[0]? = some (.int .i64 (xs.getD 0 0)) := by simp [h0]
    have := hall 0 _ hz
    rw [show (⟨b, o, spot⟩ : Addr).add 0 = ⟨b, o, spot⟩ from by simp [Addr.add]] at this
    exact World.cell?_spot this
  subst hs
  exact ⟨b, o, e, by rw [← add_at]; exact hc⟩
/-- A call that gives back ints in memory of their own. -/
def GivesI (l : List Int) (w : World) (e : Ending) (w' : World) : Prop :=
  ∃ A c, e = .returned (.slice A l.length c) ∧ l.length ≤ c ∧ w'.ownsRow w.heap.size 3 1 (.slice A l.length c) l.length (IL l) ∧ Keeps w w'
theorem int_info : (Try.prog.info? 3).map (fun i => (i.zero, i.size, i.bytes)) = some (some (.int .i64 0), 1, 8) := by kernel_rfl
theorem one_int (w : World) (x : Int) : Reads (w.alloc (.cells #[.int .i64 x] 3)) (w.heap.size + 1) 1 (some ⟨w.heap.size, 0, none⟩) 1 [.int .i64 x] := by
  have := Reads.of_own (World.ownsRow_lit (base := w.heap.size) (e := 3) (size := 1) w #[.int .i64 x] 1 (Nat.le_refl _) (by simp only [maxLen]; omega) rfl)
  rw [World.size_alloc] at this
  exact this
theorem int_one (x : Int) : ∀ u ∈ [Value.int .i64 x], u.oneCell' = true := by
  intro u hu
  simp only [List.mem_singleton] at hu
  subst hu; rfl
/-- A list that grows in memory of its own. -/
def OwnI (w : World) (l : List Int) (v : Value) (wr : World) : Prop := wr.ownsRow w.heap.size 3 1 v l.length (IL l) ∧ Keeps w wr
theorem OwnI.start (w : World) : OwnI w [] (.slice none 0 0) w := ⟨World.ownsRow_nil _ _ _ _, Keeps.refl _⟩
theorem OwnI.step {w wr w2 : World} {l : List Int} {v v' : Value} {x y : Int} (h : OwnI w l v wr) (hown : w2.ownsRow w.heap.size 3 1 v' (l.length + 1) (IL l ++ [.int .i64 x])) (hg : (wr.alloc (.cells #[.int .i64 x] 3)).grownBy w2 v.ownBlock) (hy : x = y) : OwnI w (l ++ [y]) v' w2 := by
  subst hy
  refine ⟨?_, (h.2.alloc _).grown hg (fun k e => (h.1.lt k e).1)⟩
  rw [List.length_append, IL, List.map_append]
  exact hown
theorem OwnI.gives {w wr : World} {l : List Int} {v : Value} (h : OwnI w l v wr) : GivesI l w (.returned v) wr := by
  obtain ⟨A, c, rfl, hc⟩ := own_form h.1
  exact ⟨A, c, rfl, hc, h.1, h.2⟩

/-! ### The walks -/
set_option maxHeartbeats 1000000 in
theorem cut_any (n : Int) (w : World) (h0 : -9223372036854775808 ≤ n) (h1 : n ≤ 9223372036854775807) :
    Calls Try.prog 33 #[.int .i64 n] w fun e w' => e = .returned (.int .i64 (cutI n.toNat : Nat)) ∧ w' = w := by
  by_cases h : n < 16384
  · have e1 : max n 0 = (n.toNat : Int) := by omega
    rw [cutI_small (by omega), ← e1]
    clear e1
    go_enter Try.func33, Try.ntmps33
    go_wp2
    all_goals
      go_ret
      first
        | exact ⟨rfl, rfl⟩
        | exact ⟨ret_int (by omega), rfl⟩
  · obtain ⟨N, rfl⟩ := Int.eq_ofNat_of_zero_le (show 0 ≤ n by omega)
    have e1 := (cutI_big (n := N) (by omega)).1
    have e2 : min ((N : Int) / 16384) 4 * 16384 = (cutI N : Int) := by rw [e1]; omega
    have e3 := cutI_max N
    rw [show (N : Int).toNat = N from by omega]
    have E2 := hide e2
    clear e1 e2
    go_enter Try.func33, Try.ntmps33
    go_wp2
    all_goals
      go_ret
      first
        | exact ⟨ret_int (unhide E2), rfl⟩
        | exact ⟨ret_int (by have := unhide E2; omega), rfl⟩
theorem cutsL_eq {f : Nat} {L done : List Int} {m : Nat} (h : done ++ cutsL f m = L) (hm : m < 16384) : done ++ [((cutI m : Nat) : Int)] = L := by
  rw [cutsL_last f m hm] at h
  rw [cutI_small hm]; exact h
theorem cutsL_go {f : Nat} {L done : List Int} {m : Nat} (h : done ++ cutsL f m = L) (hf : m < 16384 * (f + 1)) (hm : 16384 ≤ m) : ∃ f', (done ++ [((cutI m : Nat) : Int)]) ++ cutsL f' (m - cutI m) = L ∧ m - cutI m < 16384 * (f' + 1) := by
  obtain ⟨f', rfl⟩ : ∃ f', f = f' + 1 := ⟨f - 1, by omega⟩
  refine ⟨f', ?_, by have := (cutI_big hm).2.1; omega⟩
  rw [cutsL_more f' m hm] at h
  rw [List.append_assoc]; exact h
set_option maxRecDepth 100000 in
set_option maxHeartbeats 1000000 in
theorem cuts_any (n : Int) (F : Nat) (w : World) (h0 : -9223372036854775808 ≤ n) (h1 : n ≤ 17592186044416) (hF : n.toNat < 16384 * (F + 1)) (hF6 : F ≤ 100000) :
    Calls Try.prog 9 #[.int .i64 n] w (GivesI (cutsL F n.toNat) w) := by
  obtain ⟨i0, hi0, hz0, hz1, hz2⟩ := info_parts int_info
  have hLl := cutsL_length F n.toNat
  obtain ⟨L, hL⟩ : ∃ L, L = cutsL F n.toNat := ⟨_, rfl⟩
  have HS := hide (show ([] : List Int) ++ cutsL F n.toNat = L ∧ n.toNat < 16384 * (F + 1) from ⟨hL.symm, hF⟩)
  rw [← hL] at hLl ⊢
  clear hF hL
  go_enter Try.func9, Try.ntmps9
  go_wp2
  go_loopw [0, 3] (fun x v wr => ∃ (m : Int) (f : Nat) (done : List Int), x = .int .i64 m ∧ OwnI w done v wr ∧ Hid (done ++ cutsL f m.toNat = L ∧ m.toNat < 16384 * (f + 1)) ∧ -9223372036854775808 ≤ m ∧ m ≤ 17592186044416) (fun x _ _ => (intOf x).toNat)
  case atStart => exact ⟨n, F, [], rfl, OwnI.start w, HS, h0, h1⟩
  case round =>
    obtain ⟨m, f, done, rfl, hO, HM, hm0, hm1⟩ := hrel
    have hdl : done.length ≤ 100001 := by
      have := (unhide HM).1
      rw [← this, List.length_append] at hLl
      omega
    have HC := hide (cut_any m wr hm0 (by omega))
    have HO := hide hO
    have hsz := hO.2.size
    have HOWN := hide (fun x => hO.1.alloc (.cells #[.int .i64 x] 3))
    clear hO hLl
    by_cases hlt : m < 16384
    · have HFIN := hide (cutsL_eq (unhide HM).1 (by omega))
      have hk : cutI m.toNat < 16384 := by rw [cutI_small (by omega)]; omega
      generalize cutI m.toNat = k at *
      have HRD := hide (one_int wr (k : Int))
      go_wp2_with fail
      with_reducible refine (unhide HC).mono ?_
      rintro e w1 ⟨rfl, hw1⟩
      rw [hw1]
      clear hw1
      go_wp2_with (at_builtin; go_loud (refine wpList_append_any _ rfl (.tmp 9) (.tmp 11) _ rfl w.heap.size 3 i0 _ 1 8 Try.underlying24 hi0 hz0 hz1 hz2 rfl (by omega) _ _ _ rfl (unhide HOWN _) _ _ 1 1 _ rfl (unhide HRD) (int_one _) (by simp only [maxLen]; omega) (by omega) (by rw [World.size_alloc]; omega) ?_; intro v' w2 hown2 hg2 _hat2; have HF := hide (OwnI.step (unhide HO) hown2 hg2 rfl); clear hown2 hg2 _hat2))
      go_ret
      have := (unhide HF).gives
      rwa [unhide HFIN] at this
    · have HNX := hide (cutsL_go (unhide HM).1 (unhide HM).2 (by omega))
      have hk := (cutI_big (n := m.toNat) (by omega)).2
      generalize hkg : cutI m.toNat = k at *
      have HKG := hide hkg
      clear hkg
      have HRD := hide (one_int wr (k : Int))
      go_wp2_with fail
      with_reducible refine (unhide HC).mono ?_
      rintro e w1 ⟨rfl, hw1⟩
      rw [hw1]
      clear hw1
      go_wp2_with (at_builtin; go_loud (refine wpList_append_any _ rfl (.tmp 9) (.tmp 11) _ rfl w.heap.size 3 i0 _ 1 8 Try.underlying24 hi0 hz0 hz1 hz2 rfl (by omega) _ _ _ rfl (unhide HOWN _) _ _ 1 1 _ rfl (unhide HRD) (int_one _) (by simp only [maxLen]; omega) (by omega) (by rw [World.size_alloc]; omega) ?_; intro v' w2 hown2 hg2 _hat2; have HF := hide (OwnI.step (unhide HO) hown2 hg2 rfl); clear hown2 hg2 _hat2))
      obtain ⟨f', hx1, hx2⟩ := unhide HNX
      exact ⟨⟨_, f', _, rfl, unhide HF, hide (by rw [show (m - (k : Int)).toNat = m.toNat - k from by omega]; exact ⟨hx1, hx2⟩), by omega, by omega⟩, by simp [intOf]; omega⟩
set_option maxRecDepth 100000 in
set_option maxHeartbeats 1000000 in
theorem refCuts_any (n : Int) (F : Nat) (w : World) (h0 : -9223372036854775808 ≤ n) (h1 : n ≤ 17592186044416) (hF : n.toNat < 16384 * (F + 1)) (hF6 : F ≤ 100000) :
    Calls Try.prog 10 #[.int .i64 n] w (GivesI (cutsL F n.toNat) w) := by
  obtain ⟨i0, hi0, hz0, hz1, hz2⟩ := info_parts int_info
  have hLl := cutsL_length F n.toNat
  obtain ⟨L, hL⟩ : ∃ L, L = cutsL F n.toNat := ⟨_, rfl⟩
  have HS := hide (show ([] : List Int) ++ cutsL F n.toNat = L ∧ n.toNat < 16384 * (F + 1) from ⟨hL.symm, hF⟩)
  rw [← hL] at hLl ⊢
  clear hF hL
  have hmx : max 0 n = (n.toNat : Int) := by omega
  have hnt : n.toNat ≤ 17592186044416 := by omega
  generalize n.toNat = N at *
  go_enter Try.func10, Try.ntmps10
  go_wp2
  all_goals try rw [hmx]
  all_goals
    go_loopw [0, 3] (fun x v wr => ∃ (m f : Nat) (done : List Int), x = .int .i64 m ∧ OwnI w done v wr ∧ Hid (done ++ cutsL f m = L ∧ m < 16384 * (f + 1)) ∧ m ≤ 17592186044416) (fun x _ _ => (intOf x).toNat)
    case atStart => exact ⟨N, F, [], (by first | rfl | exact congrArg (Value.int IntKind.i64) (by omega)), OwnI.start w, HS, hnt⟩
    case round =>
      obtain ⟨m, f, done, rfl, hO, HM, hm1⟩ := hrel
      have hdl : done.length ≤ 100001 := by
        have := (unhide HM).1
        rw [← this, List.length_append] at hLl
        omega
      have HO := hide hO
      have hsz := hO.2.size
      have HOWN := hide (fun x => hO.1.alloc (.cells #[.int .i64 x] 3))
      clear hO hLl hmx hnt
      by_cases hlt : 16384 ≤ m
      · have HNX := hide (cutsL_go (unhide HM).1 (unhide HM).2 hlt)
        obtain ⟨hkd, hk⟩ := cutI_big (n := m) hlt
        have hmn : min ((m : Int) / 16384) 4 * 16384 = (cutI m : Int) := by rw [hkd]; omega
        have HMN := hide hmn
        clear hkd hmn
        generalize cutI m = k at *
        have HRD := hide (fun x => one_int wr x)
        go_wp2_with (at_builtin; go_loud (refine wpList_append_any _ rfl (.tmp 12) (.tmp 15) _ rfl w.heap.size 3 i0 _ 1 8 Try.underlying24 hi0 hz0 hz1 hz2 rfl (by omega) _ _ _ rfl (unhide HOWN _) _ _ 1 1 _ rfl (unhide HRD _) (int_one _) (by simp only [maxLen]; omega) (by omega) (by rw [World.size_alloc]; omega) ?_; intro v' w2 hown2 hg2 _hat2; have HF := hide (OwnI.step (y := (k : Int)) (unhide HO) hown2 hg2 (by have := unhide HMN; omega)); clear hown2 hg2 _hat2))
        all_goals obtain ⟨f', hx1, hx2⟩ := unhide HNX
        all_goals exact ⟨⟨m - k, f', _, congrArg (Value.int IntKind.i64) (by have := unhide HMN; omega), unhide HF, hide ⟨hx1, hx2⟩, by omega⟩, by simp [intOf]; have := unhide HMN; omega⟩
      · have HFIN := hide (cutsL_eq (unhide HM).1 (by omega))
        rw [cutI_small (by omega)] at HFIN
        have HRD := hide (one_int wr (m : Int))
        go_wp2_with (at_builtin; go_loud (refine wpList_append_any _ rfl (.tmp 21) (.tmp 23) _ rfl w.heap.size 3 i0 _ 1 8 Try.underlying24 hi0 hz0 hz1 hz2 rfl (by omega) _ _ _ rfl (unhide HOWN _) _ _ 1 1 _ rfl (unhide HRD) (int_one _) (by simp only [maxLen]; omega) (by omega) (by rw [World.size_alloc]; omega) ?_; intro v' w2 hown2 hg2 _hat2; have HF := hide (OwnI.step (unhide HO) hown2 hg2 rfl); clear hown2 hg2 _hat2))
        go_ret
        have := (unhide HF).gives
        rwa [unhide HFIN] at this
end Go.Proofs.Ytgaapigagglgbaa
