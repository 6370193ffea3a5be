/- The contract of tlv.lengthOf, and words for parts. -/
import Derived.Test.YtpogpjnbgdbpfaaJoin
import Derived.Test.YtpogpjnbgdbpfaaGrp
import Derived.Test.YtpogpjnbgdbpfaaRefOct
import Derived.Test.YtpogpjnbgdbpfaaAwake02
namespace Go.Proofs.Ytpogpjnbgdbpfaa
open Go.ChangeShapes Go.WideShapes Go.ChangeAt Go.RowKit

/-- The post of a call that gives back the bytes xs. -/
def GivesH (xs : List Int) (w : World) (e : Ending) (w' : World) : Prop :=
  ∃ A c, e = .returned (.slice A xs.length c) ∧ xs.length ≤ c ∧ Holds w' A xs ∧ Keeps w w'
theorem GivesJ.weak {xs : List Int} {w : World} {e : Ending} {w' : World} (h : GivesJ xs w e w') : GivesH xs w e w' := by
  obtain ⟨A, c, h1, h2, h3, _, h5⟩ := h
  exact ⟨A, c, h1, h2, h3, h5⟩
theorem GivesBytes.weak {E : TypeId} {xs : List Int} {w : World} {e : Ending} {w' : World} (h : GivesBytes E xs w e w') : GivesH xs w e w' := by
  obtain ⟨A, c, h1, h2, h3⟩ := h
  exact ⟨A, c, h1, h2, h3.holds, h3.2⟩

theorem uLen_lt256 (v : Int) (h0 : 0 ≤ v) (h : v < 256) : uLen v = 1 := by
  unfold uLen
  rw [uAux_last]
  omega
theorem uLen_ge256 (v : Int) (h : 256 ≤ v) : uLen v ≠ 1 := by
  unfold uLen
  rw [uAux, if_neg (by omega)]
  have := uAux_pos 256 6 (v / 256 / 256)
  omega
theorem uOct_small (v : Int) (h0 : 0 ≤ v) (h : v < 256) : uOct v = [v] := by
  unfold uOct
  rw [uLen_lt256 v h0 h]
  show [] ++ [v % 256] = [v]
  rw [show v % 256 = v from by omega]; rfl
theorem uOct_bytes (v : Int) : B8 (uOct v) := lo_range _ _
/-- The octets of a length that is not below 0. -/
def lOct (l : Int) : List Int := if l < 128 then [l] else (128 + (uLen l : Int)) :: uOct l
theorem lOct_bytes (l : Int) (h0 : 0 ≤ l) : B8 (lOct l) := by
  unfold lOct
  have := uLen_le l
  split
  · intro x hx; simp at hx; omega
  · intro x hx
    rcases List.mem_cons.1 hx with rfl | h
    · omega
    · exact uOct_bytes l x h
theorem lOct_len (l : Int) : (lOct l).length ≤ 9 := by
  unfold lOct
  have := uLen_le l
  split
  · simp
  · simp [uOct_length]; omega

theorem holds_blk1 {w : World} {g : Nat} {t : TypeId} (x : Int) (h : Blk w g t #[.int .u8 x]) : Holds w (some ⟨g, 0, none⟩) [x] := by
  refine ⟨by simp, fun _ => ⟨⟨g, 0, none⟩, rfl, h.lt, fun j u hu => ?_⟩⟩
  cases j with
  | zero =>
    have : w.cell? ⟨g, 0, none⟩ = some (.int .u8 x) := by rw [h.cell]; rfl
    simp at hu
    rw [← hu]
    simpa [Addr.add] using this
  | succ j => simp at hu
theorem parts_of {w : World} {g : Nat} {ps : List Part} (h : Blk w g 24 (ps.map fun q => Value.slice q.1 q.2.2.length q.2.1).toArray) (hh : ∀ q ∈ ps, Holds w q.1 q.2.2 ∧ B8 q.2.2) : PartsAny w (some ⟨g, 0, none⟩) ps := by
  refine .inr ⟨g, 0, rfl, h.lt, fun i q hq => ?_⟩
  refine ⟨?_, hh q (List.mem_of_getElem? hq)⟩
  rw [Nat.zero_add, h.cell]
  simp [hq]
theorem B8_one (x : Int) (h : 0 ≤ x) (h2 : x ≤ 255) : B8 [x] := by
  intro y hy; simp at hy; omega
theorem u8_or_len (n : Nat) (h : n ≤ 8) : bits .or .u8 128 (n : Int) = 128 + n := by
  have := u8_or_nat 128 n (by omega) (by omega)
  rw [nat_join 7 128 n (by omega) (by omega)] at this
  simpa using this

theorem lOct_long (l : Int) (h : 128 ≤ l) (A B : Part) (hA : A.2.2 = [128 + (uLen l : Int)]) (hB : B.2.2 = uOct l) : flat [A, B] = lOct l := by
  unfold lOct flat
  rw [if_neg (by omega)]
  simp [hA, hB]
theorem size_alloc1 (w : World) (o : Obj) : (w.alloc o).heap.size = w.heap.size + 1 := by simp
/-- Two parts, the first one a literal of one octet, laid one after another. -/
theorem parts_two (w1 : World) (x : Int) (A : Option Addr) (ys : List Int) (c n : Nat) (hn : ys.length = n) (hx0 : 0 ≤ x) (hx1 : x ≤ 255) (hh : Holds w1 A ys) (hy : B8 ys) :
    PartsAny ((w1.alloc (.cells #[.int .u8 x] 5)).alloc (.cells #[.slice (some ⟨w1.heap.size, 0, none⟩) 1 1, .slice A n c] 24)) (some ⟨w1.heap.size + 1, 0, none⟩) [(some ⟨w1.heap.size, 0, none⟩, 1, [x]), (A, c, ys)] := by
  subst hn
  have hb := Blk.new (w1.alloc (.cells #[.int .u8 x] 5)) 24 #[.slice (some ⟨w1.heap.size, 0, none⟩) 1 1, .slice A ys.length c]
  rw [size_alloc1] at hb
  have hk : Keeps w1 ((w1.alloc (.cells #[.int .u8 x] 5)).alloc (.cells #[.slice (some ⟨w1.heap.size, 0, none⟩) 1 1, .slice A ys.length c] 24)) := ((Keeps.refl _).alloc _).alloc _
  have h1 := holds_blk1 x ((Blk.new w1 5 #[.int .u8 x]).alloc (.cells #[.slice (some ⟨w1.heap.size, 0, none⟩) 1 1, .slice A ys.length c] 24))
  refine parts_of hb fun q hq => ?_
  simp only [List.mem_cons, List.not_mem_nil, or_false] at hq
  rcases hq with rfl | rfl
  · exact ⟨h1, B8_one x hx0 hx1⟩
  · exact ⟨hh.keeps hk, hy⟩
theorem len_join (w1 : World) (m x : Int) (A : Option Addr) (c n : Nat) (hm : 128 ≤ m) (hx : x = 128 + (uLen m : Int)) (hn : uLen m = n) (hh : Holds w1 A (uOct m)) :
    Calls Try.prog 25 #[.slice (some ⟨w1.heap.size + 1, 0, none⟩) 2 2] ((w1.alloc (.cells #[.int .u8 x] 5)).alloc (.cells #[.slice (some ⟨w1.heap.size, 0, none⟩) 1 1, .slice A n c] 24))
      fun e w' => ∃ B d, e = .returned (.slice B (lOct m).length d) ∧ (lOct m).length ≤ d ∧ Holds w' B (lOct m) ∧ Keeps w1 w' := by
  have hL := uLen_le m
  have hP := parts_two w1 x A (uOct m) c n (by rw [uOct_length]; exact hn) (by omega) (by omega) hh (uOct_bytes m)
  have hfl := lOct_long m hm (some ⟨w1.heap.size, 0, none⟩, 1, [x]) (A, c, uOct m) (by rw [hx]) rfl
  have hl := lOct_len m
  refine (join_any _ 2 2 _ _ rfl (Nat.le_refl _) hP (by rw [hfl]; omega) (by omega)).mono ?_
  rw [hfl]
  rintro e w' ⟨B, d, rfl, h1, h2, _, h4⟩
  exact ⟨B, d, rfl, h1, h2, (((Keeps.refl w1).alloc _).alloc _).trans h4⟩

set_option maxHeartbeats 1000000 in
theorem lengthOf_any (l : Int) (h2 : l ≤ 9223372036854775807) (w : World) :
    Calls Try.prog 51 #[.int .i64 l] w (GivesH (lOct (max l 0)) w) := by
  generalize hm : max l 0 = m
  have h1 : 0 ≤ m := by omega
  have h3 : m ≤ 9223372036854775807 := by omega
  have hL := uLen_le m
  by_cases hs2 : m < 128
  · have hU : Hid (∀ w, Calls Try.prog 21 #[.int .u64 m] w (GivesBytes 5 [m] w)) := fun w => by
      have := unsigned_any m h1 (by omega) w
      rwa [uOct_small m h1 (by omega)] at this
    have hO : Hid (lOct m = [m]) := by unfold lOct; rw [if_pos hs2]; exact rfl
    have HM := hide hm
    clear hL hm
    go_enter Try.func51, Try.ntmps51
    go_wp2_with fail
    rw [unhide HM]
    refine (unhide hU _).mono ?_
    rintro e w1 ⟨A, c, rfl, hc, hf⟩
    obtain ⟨b, o, rfl, hcs⟩ := hf.holds.cells (by simp)
    have k0 := hcs 0 (by simp)
    simp only [List.getD_cons_zero, Nat.add_zero] at k0
    clear hcs
    have HF := hide hf
    clear hf
    simp only [List.length_cons, List.length_nil] at hc ⊢
    go_wp2
    go_ret
    rw [unhide hO]
    exact ⟨_, c, rfl, hc, (unhide HF).holds, (unhide HF).2⟩
  · have hO : Hid (128 ≤ m) := by show 128 ≤ m; omega
    have hor := u8_or_len (uLen m) hL.2
    have hbl := uOct_bytes m
    have HB := hide hbl
    have HM := hide hm
    clear hbl hm
    go_enter Try.func51, Try.ntmps51
    go_wp2_with fail
    rw [unhide HM]
    refine (unsigned_any m h1 (by omega) _).mono ?_
    rintro e w1 ⟨A, c, rfl, hc, hf⟩
    rw [uOct_length] at hc ⊢
    have HF := hide hf
    clear hf
    by_cases hs : m < 256
    · have hu1 := uLen_lt256 m h1 hs
      rw [hu1] at hc hor ⊢
      clear hL
      have hh := (unhide HF).holds
      have ho1 := uOct_small m h1 hs
      rw [ho1] at hh
      obtain ⟨b, o, rfl, hcs⟩ := hh.cells (by simp)
      have k0 := hcs 0 (by simp)
      simp only [List.getD_cons_zero, Nat.add_zero] at k0
      clear hcs
      have HH := hide hh
      have HO1 := hide ho1
      have HU1 := hide hu1
      clear hh ho1 hu1
      go_wp2_with fail
      refine (len_join w1 m _ _ c 1 (unhide hO) (by rw [unhide HU1]; rfl) (unhide HU1) (by rw [unhide HO1]; exact unhide HH)).mono ?_
      rintro e w2 ⟨B, d, rfl, hd, hh2, hk2⟩
      go_wp2
      go_ret
      exact ⟨B, d, rfl, hd, hh2, (unhide HF).2.trans hk2⟩
    · have hu1 : (((uLen m : Nat) : Int) == 1) = false := by
        have := uLen_ge256 m (by omega)
        rw [beq_eq_false_iff_ne]; omega
      go_wp2_with fail
      refine (len_join w1 m _ _ c (uLen m) (unhide hO) rfl rfl (unhide HF).holds).mono ?_
      rintro e w2 ⟨B, d, rfl, hd, hh2, hk2⟩
      go_wp2
      go_ret
      exact ⟨B, d, rfl, hd, hh2, (unhide HF).2.trans hk2⟩
end Go.Proofs.Ytpogpjnbgdbpfaa
