/- The contracts of the reference's Signed, Unsigned and Groups. -/
import Derived.Test.YtnbcehoddjcnoaaOct
namespace Go.Proofs.Ytnbcehoddjcnoaa
open Go.ChangeShapes Go.WideShapes Go.ChangeAt Go.RowKit

/-- A list of the call's own, growing at its front. -/
def Grows (w wr : World) (out : Value) (xs : List Int) : Prop := wr.ownsRow w.heap.size 5 1 out xs.length (xs.map (Value.int .u8)) ∧ Keeps w wr
theorem grows_one (w : World) (x : Int) : Grows w (w.alloc (.cells #[.int .u8 x] 5)) (.slice (some ⟨w.heap.size, 0, none⟩) 1 1) [x] := by
  have h := World.ownsRow_lit (base := w.heap.size) (e := 5) (size := 1) w #[.int .u8 x] 1 (Nat.le_refl _) (by simp only [maxLen]; omega) (by simp)
  exact ⟨by simpa using h, (Keeps.refl _).alloc _⟩
theorem sAux_q (q : Int) : (q / 128 = 0 ∨ q / 128 = -1) ↔ (-128 ≤ q ∧ q ≤ 127) := by omega

theorem own_one {w wr : World} (hk : w.heap.size ≤ wr.heap.size) (x : Int) :
    (wr.alloc (.cells #[.int .u8 x] 5)).ownsRow w.heap.size 5 1 (.slice (some ⟨wr.heap.size, 0, none⟩) 1 1) 1 [.int .u8 x] := by
  simpa using World.ownsRow_lit (base := w.heap.size) (e := 5) (size := 1) wr #[.int .u8 x] 1 hk (by simp only [maxLen]; omega) (by simp)
theorem grows_read {w wr : World} {A : Option Addr} {n c : Nat} {xs : List Int} (hg : Grows w wr (.slice A n c) xs) (hn : xs.length = n) : Reads wr wr.heap.size 1 A n (xs.map (Value.int .u8)) := by
  subst hn
  exact Reads.of_own hg.1
theorem grows_gives {w wr : World} {A : Option Addr} {n c : Nat} {xs : List Int} (hg : Grows w wr (.slice A n c) xs) (hn : xs.length = n) : GivesBytes 5 xs w (.returned (.slice A n c)) wr := by
  subst hn
  obtain ⟨A', c', e, hc⟩ := own_form hg.1
  injection e with e1 e2 e3
  subst e3
  exact ⟨A, c, rfl, hc, hg⟩
theorem grows_next {w wr w1 : World} {A : Option Addr} {n c : Nat} {xs : List Int} {x : Int} {v' : Value} (hg : Grows w wr (.slice A n c) xs) (hn : xs.length = n)
    (hown : w1.ownsRow w.heap.size 5 1 v' (1 + n) ([Value.int .u8 x] ++ xs.map (Value.int .u8))) (hgr : (wr.alloc (.cells #[.int .u8 x] 5)).grownBy w1 (some wr.heap.size)) :
    ∃ A' c', v' = .slice A' (n + 1) c' ∧ n + 1 ≤ c' ∧ Grows w w1 (.slice A' (n + 1) c') (x :: xs) := by
  subst hn
  rw [Nat.add_comm] at hown
  obtain ⟨A', c', rfl, hc⟩ := own_form hown
  exact ⟨A', c', rfl, hc, by simpa using hown, (hg.2.alloc _).grown hgr (fun k hk => by injection hk with hk; subst hk; exact hg.2.size)⟩

theorem pow_div (v b : Int) (hb : 0 < b) (k : Nat) : v / b ^ k / b = v / b ^ (k + 1) := by
  rw [Int.pow_succ, Int.ediv_ediv_of_nonneg (Int.le_of_lt (Int.pow_pos hb))]

set_option maxRecDepth 100000 in
set_option maxHeartbeats 2000000 in
theorem refUnsigned_any (v : Int) (h1 : 0 ≤ v) (h2 : v ≤ 18446744073709551615) (w : World) :
    Calls Try.prog 50 #[.int .u64 v] w (GivesBytes 5 (uOct v) w) := by
  obtain ⟨i0, hi0, hz0, hz1, hz2⟩ := info_parts u8_info
  have h0 : URel 256 8 (uLen v) 7 (0 + 1) (v / 256) := ⟨by unfold uLen; omega, by omega, by omega, rfl⟩
  go_enter Try.func50, Try.ntmps50
  go_wp2
  go_loopw [0, 3] (fun x out wr => ∃ (f k : Nat) (q : Int) (A : Option Addr) (c : Nat), x = .int .u64 q ∧ out = .slice A (k + 1) c ∧ q = v / 256 ^ k ∧ 0 ≤ q ∧ q ≤ 18446744073709551615 ∧ URel 256 8 (uLen v) f (k + 1) (q / 256) ∧ Grows w wr (.slice A (k + 1) c) (lo (k + 1) v)) (fun x _ _ => (intOf x).natAbs)
  case atStart => exact ⟨7, 0, v, _, 1, rfl, rfl, by simp, h1, h2, h0, by simpa [lo] using grows_one w (v % 256)⟩
  case round =>
    obtain ⟨f, k, q, A, c, rfl, rfl, hq, hq0, hq1, hr, hg⟩ := hrel
    have HQ := hide hq
    clear hq
    have hk8 := urel_k hr
    by_cases hlo : q ≤ 255
    · have HK := hide (urel_last hr (by omega))
      go_wp2
      go_ret
      have hk := unhide HK
      have hg2 : Grows w wr (.slice A (k + 1) c) (uOct v) := by unfold uOct; rw [← hk]; exact hg
      exact grows_gives hg2 (by rw [uOct_length, ← hk])
    · obtain ⟨g, hn⟩ := urel_next (by omega) hr (by omega)
      have hread := (grows_read hg (lo_length _ _)).alloc (Nat.le_refl _) (.cells #[.int .u8 (q / 256 % 256)] 5)
      have hkeep := hg.2.size
      go_wp2_with (at_builtin; refine wpList_append_any _ rfl (.tmp 13) (.tmp 14) _ rfl w.heap.size 5 i0 _ 1 1 Try.underlying23 hi0 hz0 hz1 hz2 rfl (by omega) _ 1 _ rfl (own_one hkeep _) wr.heap.size A (k + 1) c _ rfl hread (ints_oneCell _ _) (by simp only [maxLen]; omega) (by omega) (Nat.le_trans hkeep (by simp)) ?_; intro v' w1 hown1 hg1 hat1)
      obtain ⟨A', c', rfl, hcc, hg'⟩ := grows_next hg (lo_length _ _) hown1 hg1
      go_wp2
      have hq' : q / 256 = v / 256 ^ (k + 1) := by rw [unhide HQ, pow_div v 256 (by omega)]
      refine ⟨⟨g, k + 1, q / 256, A', c', rfl, rfl, hq', by omega, by omega, hn, ?_⟩, ?_⟩
      · rw [lo_head, ← hq']; exact hg'
      · simp [intOf]; omega

end Go.Proofs.Ytnbcehoddjcnoaa
