/- The contract of tags.Wrap. -/
import Derived.Test.YtahnelbadefedaaConcat
namespace Go.Proofs.Ytahnelbadefedaa
open Go.ChangeShapes Go.WideShapes Go.ChangeAt Go.RowKit

/-- What Wrap answers: the tags, and the error. -/
def wrapT (ts : List (Int × Int)) (number mode : Int) : List (Int × Int) × Int :=
  if number < 0 ∨ 268435456 < number then ([], 12) else if mode = 1 then (match ts with | [] => ([], 12) | _ :: ys => ((2, number) :: ys, 0)) else ((2, number) :: ts, 0)
def GivesT2 (r : List (Int × Int) × Int) (w : World) (e : Ending) (w' : World) : Prop :=
  ∃ A c, e = .returned (.tuple #[.slice A r.1.length c, .int .i64 r.2]) ∧ r.1.length ≤ c ∧ w'.ownsRow w.heap.size 23 2 (.slice A r.1.length c) r.1.length (TagL r.1) ∧ Keeps w w'
theorem givesT2_nil (w w' : World) (code : Int) (hk : Keeps w w') : GivesT2 ([], code) w (.returned (.tuple #[.slice none 0 0, .int .i64 code])) w' :=
  ⟨none, 0, rfl, Nat.le_refl _, ⟨by simp [TagL], .inl ⟨rfl, rfl⟩⟩, hk⟩
theorem HoldsT.empty (w : World) (A : Option Addr) : HoldsT w A [] := ⟨by simp [TagL], fun h => absurd h (by simp)⟩
/-- The first tag's address. -/
theorem HoldsT.first {w : World} {A : Option Addr} {t : Int × Int} {ys : List (Int × Int)} (h : HoldsT w A (t :: ys)) : ∃ b o, A = some ⟨b, o, none⟩ ∧ HoldsT w (some ⟨b, o + 2, none⟩) ys := by
  obtain ⟨ad, e, hb, hc⟩ := h.2 (by simp)
  obtain ⟨b, o, spot⟩ := ad
  have h0 := hc 0 (.int .i64 t.1) (by simp [TagL, tagCells])
  rw [show (⟨b, o, spot⟩ : Addr).add 0 = ⟨b, o, spot⟩ from by simp [Addr.add]] at h0
  have hs := World.cell?_spot h0
  simp only at hs
  subst hs
  refine ⟨b, o, e, by rw [tagL_length], fun _ => ⟨_, rfl, hb, fun j u hu => ?_⟩⟩
  have := hc (2 + j) u (by simpa [TagL, tagCells, Nat.add_comm] using hu)
  have e1 : (⟨b, o + 2, none⟩ : Addr).add j = (⟨b, o, none⟩ : Addr).add (2 + j) := by
    rw [← add_of_add]; rfl
  rw [e1]; exact this

/-- The one tag that is added. -/
theorem one_held (w : World) (n : Int) : HoldsT (w.alloc (.cells #[.int .i64 2, .int .i64 n] 23)) (some ⟨w.heap.size, 0, none⟩) [(2, n)] := by
  have hb := Blk.new w 23 #[.int .i64 2, .int .i64 n]
  refine ⟨by simp [TagL, tagCells], fun _ => ⟨_, rfl, hb.lt, fun j u hu => ?_⟩⟩
  rw [show ((⟨w.heap.size, 0, none⟩ : Addr).add j) = ⟨w.heap.size, j, none⟩ from by unfold Addr.add; split <;> simp_all, hb.cell]
  simpa [TagL, tagCells] using hu

set_option maxHeartbeats 4000000 in
theorem wrap_bad (A : Option Addr) (ts : List (Int × Int)) (c : Nat) (number mode : Int) (h : number < 0 ∨ 268435456 < number) (w : World) :
    Calls Try.prog 13 #[.slice A ts.length c, .int .i64 number, .int .i64 mode] w (GivesT2 (wrapT ts number mode) w) := by
  have HW : Hid (wrapT ts number mode = ([], 12)) := by unfold wrapT; rw [if_pos h]; rfl
  by_cases h0 : number < 0
  · clear h
    go_enter Try.func13, Try.ntmps13
    go_wp2
    go_ret2
    rw [unhide HW]; exact givesT2_nil w w 12 (Keeps.refl _)
  · have h1 : 268435456 < number := by omega
    clear h
    go_enter Try.func13, Try.ntmps13
    go_wp2
    go_ret2
    rw [unhide HW]; exact givesT2_nil w w 12 (Keeps.refl _)

theorem wrap_end {w w1 : World} {A : Option Addr} {c : Nat} {ts : List (Int × Int)} {o1 o2 : Obj} (hc : ts.length ≤ c) (hown : w1.ownsRow ((w.alloc o1).alloc o2).heap.size 23 2 (.slice A ts.length c) ts.length (TagL ts))
    (hk : Keeps ((w.alloc o1).alloc o2) w1) : GivesT2 (ts, 0) w (.returned (.tuple #[.slice A ts.length c, .int .i64 0])) w1 := by
  refine ⟨A, c, rfl, hc, ?_, (((Keeps.refl _).alloc _).alloc _).trans hk⟩
  rcases hown.2 with h | ⟨g, cap, cur, e, hb, r⟩
  · exact ⟨hown.1, .inl h⟩
  · exact ⟨hown.1, .inr ⟨g, cap, cur, e, Nat.le_trans (by simp; omega) hb, r⟩⟩

set_option maxHeartbeats 4000000 in
theorem wrap_expl (A : Option Addr) (ts : List (Int × Int)) (c : Nat) (number mode : Int) (h0 : 0 ≤ number) (h1 : number ≤ 268435456) (hm : mode ≠ 1) (hl : ts.length ≤ 5000) (w : World) (hh : HoldsT w A ts) :
    Calls Try.prog 13 #[.slice A ts.length c, .int .i64 number, .int .i64 mode] w (GivesT2 (wrapT ts number mode) w) := by
  have HW : Hid (wrapT ts number mode = ((2, number) :: ts, 0)) := by unfold wrapT; rw [if_neg (by omega), if_neg hm]; rfl
  have e1 : (mode == 1) = false := beq_eq_false_iff_ne.2 hm
  clear hm
  go_enter Try.func13, Try.ntmps13
  go_wp2_with fail
  have hp : Blk ((w.alloc (.cells #[.int .i64 2, .int .i64 number] 23)).alloc (.cells #[.slice (some ⟨w.heap.size, 0, none⟩) 1 1, .slice A ts.length c] 26)) (w.heap.size + 1) 26 #[.slice (some ⟨w.heap.size, 0, none⟩) 1 1, .slice A ts.length c] := by
    simpa using Blk.new (w.alloc (.cells #[.int .i64 2, .int .i64 number] 23)) 26 #[.slice (some ⟨w.heap.size, 0, none⟩) 1 1, .slice A ts.length c]
  refine (concat_any (w.heap.size + 1) (some ⟨w.heap.size, 0, none⟩) A [(2, number)] ts 1 c _ hp ((one_held w number).keeps ((Keeps.refl _).alloc _)) (HoldsT.keeps hh (((Keeps.refl _).alloc _).alloc _)) (by simp) (by simp) (by omega)).mono ?_
  rintro e w1 ⟨A1, c1, rfl, hc1, hown, hk⟩
  go_wp2
  go_ret2
  rw [unhide HW]
  exact wrap_end hc1 hown hk

set_option maxHeartbeats 4000000 in
theorem wrap_none (A : Option Addr) (c : Nat) (number : Int) (h0 : 0 ≤ number) (h1 : number ≤ 268435456) (w : World) :
    Calls Try.prog 13 #[.slice A 0 c, .int .i64 number, .int .i64 1] w (GivesT2 (wrapT [] number 1) w) := by
  have HW : Hid (wrapT [] number 1 = ([], 12)) := by unfold wrapT; rw [if_neg (by omega), if_pos rfl]; rfl
  go_enter Try.func13, Try.ntmps13
  go_wp2
  go_ret2
  rw [unhide HW]; exact givesT2_nil w w 12 (Keeps.refl _)

set_option maxHeartbeats 4000000 in
theorem wrap_impl (A : Option Addr) (t : Int × Int) (ys : List (Int × Int)) (c : Nat) (number : Int) (h0 : 0 ≤ number) (h1 : number ≤ 268435456) (hl : ys.length ≤ 5000) (hc : ys.length + 1 ≤ c) (w : World) (hh : HoldsT w A (t :: ys)) :
    Calls Try.prog 13 #[.slice A (ys.length + 1) c, .int .i64 number, .int .i64 1] w (GivesT2 (wrapT (t :: ys) number 1) w) := by
  have HW : Hid (wrapT (t :: ys) number 1 = ((2, number) :: ys, 0)) := by unfold wrapT; rw [if_neg (by omega), if_pos rfl]; rfl
  obtain ⟨b, o, rfl, ht⟩ := hh.first
  clear hh
  have e0 : ((ys.length : Int) + 1 == 0) = false := beq_eq_false_iff_ne.2 (by omega)
  by_cases hc1 : c = 1
  · have hy : ys = [] := List.eq_nil_of_length_eq_zero (by omega)
    subst hy
    subst hc1
    go_enter Try.func13, Try.ntmps13
    go_wp2_with fail
    have hp : Blk ((w.alloc (.cells #[.int .i64 2, .int .i64 number] 23)).alloc (.cells #[.slice (some ⟨w.heap.size, 0, none⟩) 1 1, .slice (some ⟨b, o, none⟩) 0 0] 26)) (w.heap.size + 1) 26 #[.slice (some ⟨w.heap.size, 0, none⟩) 1 1, .slice (some ⟨b, o, none⟩) 0 0] := by
      simpa using Blk.new (w.alloc (.cells #[.int .i64 2, .int .i64 number] 23)) 26 #[.slice (some ⟨w.heap.size, 0, none⟩) 1 1, .slice (some ⟨b, o, none⟩) 0 0]
    refine (concat_any (w.heap.size + 1) (some ⟨w.heap.size, 0, none⟩) (some ⟨b, o, none⟩) [(2, number)] [] 1 0 _ hp ((one_held w number).keeps ((Keeps.refl _).alloc _)) (HoldsT.keeps (HoldsT.empty w (some ⟨b, o, none⟩)) (((Keeps.refl _).alloc _).alloc _)) (by simp) (by simp) (by omega)).mono ?_
    rintro e w1 ⟨A1, c1, rfl, hc1, hown, hk⟩
    go_wp2
    go_ret2
    rw [unhide HW]
    exact wrap_end hc1 hown hk
  · have hcc : 1 < c := by omega
    go_enter Try.func13, Try.ntmps13
    go_wp2_with fail
    have hp : Blk ((w.alloc (.cells #[.int .i64 2, .int .i64 number] 23)).alloc (.cells #[.slice (some ⟨w.heap.size, 0, none⟩) 1 1, .slice (some ⟨b, o + 2, none⟩) ys.length (c - 1)] 26)) (w.heap.size + 1) 26 #[.slice (some ⟨w.heap.size, 0, none⟩) 1 1, .slice (some ⟨b, o + 2, none⟩) ys.length (c - 1)] := by
      simpa using Blk.new (w.alloc (.cells #[.int .i64 2, .int .i64 number] 23)) 26 #[.slice (some ⟨w.heap.size, 0, none⟩) 1 1, .slice (some ⟨b, o + 2, none⟩) ys.length (c - 1)]
    refine (concat_any (w.heap.size + 1) (some ⟨w.heap.size, 0, none⟩) (some ⟨b, o + 2, none⟩) [(2, number)] ys 1 (c - 1) _ hp ((one_held w number).keeps ((Keeps.refl _).alloc _)) (HoldsT.keeps ht (((Keeps.refl _).alloc _).alloc _)) (by simp) (by simp) (by omega)).mono ?_
    rintro e w1 ⟨A1, c1, rfl, hc1, hown, hk⟩
    go_wp2
    go_ret2
    rw [unhide HW]
    exact wrap_end hc1 hown hk

theorem wrap_any (A : Option Addr) (ts : List (Int × Int)) (c : Nat) (number mode : Int) (hl : ts.length ≤ 5000) (hc : ts.length ≤ c) (w : World) (hh : HoldsT w A ts) :
    Calls Try.prog 13 #[.slice A ts.length c, .int .i64 number, .int .i64 mode] w (GivesT2 (wrapT ts number mode) w) := by
  by_cases hb : number < 0 ∨ 268435456 < number
  · exact wrap_bad A ts c number mode hb w
  · by_cases hm : mode = 1
    · subst hm
      cases ts with
      | nil => exact wrap_none A c number (by omega) (by omega) w
      | cons t ys => exact wrap_impl A t ys c number (by omega) (by omega) (by simp at hl; omega) hc w hh
    · exact wrap_expl A ts c number mode (by omega) (by omega) hm hl w hh

end Go.Proofs.Ytahnelbadefedaa
