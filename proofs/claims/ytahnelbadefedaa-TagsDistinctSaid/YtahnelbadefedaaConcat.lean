/- The contract of slices.Concat at two lists of tags. -/
import Derived.Test.YtahnelbadefedaaTag
namespace Go.Proofs.Ytahnelbadefedaa
open Go.ChangeShapes Go.WideShapes Go.ChangeAt Go.RowKit

theorem own_form2 {E : TypeId} {size : Nat} {w : World} {base : Nat} {v : Value} {n : Nat} {xs : List Value} (h : w.ownsRow base E size v n xs) : ∃ A c, v = .slice A n c ∧ n ≤ c := by
  rcases h.2 with ⟨rfl, rfl⟩ | ⟨g, cap, cur, rfl, _, _, h1, _⟩
  · exact ⟨none, 0, rfl, Nat.le_refl _⟩
  · exact ⟨_, cap, rfl, h1⟩
theorem givesT_of {w w' : World} {v : Value} {ts : List (Int × Int)} (h : w'.ownsRow w.heap.size 23 2 v ts.length (TagL ts)) (hk : Keeps w w') : GivesT ts w (.returned v) w' := by
  obtain ⟨A, c, rfl, hc⟩ := own_form2 h
  exact ⟨A, c, rfl, hc, h, hk⟩

/-- What is put together so far. -/
def CatRel (w : World) (xs ys : List (Int × Int)) (v idx : Value) (wr : World) : Prop :=
  Keeps w wr ∧ ((idx = .int .i64 0 ∧ wr.ownsRow w.heap.size 23 2 v 0 []) ∨ (idx = .int .i64 1 ∧ wr.ownsRow w.heap.size 23 2 v xs.length (TagL xs)) ∨
    (idx = .int .i64 2 ∧ wr.ownsRow w.heap.size 23 2 v (xs.length + ys.length) (TagL xs ++ TagL ys)))

set_option maxRecDepth 100000 in
set_option maxHeartbeats 4000000 in
theorem concat_any (gp : Nat) (A B : Option Addr) (xs ys : List (Int × Int)) (c d : Nat) (w : World) (hp : Blk w gp 26 #[.slice A xs.length c, .slice B ys.length d])
    (ha : HoldsT w A xs) (hb : HoldsT w B ys) (h1 : 1 ≤ xs.length) (hx : xs.length ≤ 10000) (hy : ys.length ≤ 10000) :
    Calls Try.prog 14 #[.slice (some ⟨gp, 0, none⟩) 2 2] w (GivesT (xs ++ ys) w) := by
  obtain ⟨i0, hi0, hz0, hz1, hz2⟩ := info_parts tag_info
  have HG : Hid (∀ w, Calls Try.prog 15 #[.slice none 0 0, .int .i64 ((xs.length : Int) + (ys.length : Int))] w (GivesRoom (xs.length + ys.length) w)) := by
    intro w
    have := grow_any (xs.length + ys.length) (by omega) (by omega) w
    rwa [Int.natCast_add] at this
  obtain ⟨hc0, hf0, hs0⟩ := hp.facts
  have HA := hide ha
  have HB := hide hb
  have HP := hide hp
  clear ha hb hp
  go_enter Try.func14, Try.ntmps14
  go_wp2
  go_loop [3, 11] (fun z i => (i = .int .i64 0 ∧ z = .int .i64 0) ∨ (i = .int .i64 1 ∧ z = .int .i64 (xs.length : Int)) ∨ (i = .int .i64 2 ∧ z = .int .i64 ((xs.length : Int) + (ys.length : Int)))) (fun _ i => 2 - (intOf i).toNat)
  case atStart => exact .inl ⟨rfl, rfl⟩
  case round =>
    rcases hrel with ⟨rfl, rfl⟩ | ⟨rfl, rfl⟩ | ⟨rfl, rfl⟩
    · go_wp2
      exact ⟨.inr (.inl ⟨rfl, rfl⟩), by simp [intOf]⟩
    · go_wp2
      exact ⟨.inr (.inr ⟨rfl, rfl⟩), by simp [intOf]⟩
    · go_wp2_with fail
      refine (unhide HG _).mono ?_
      rintro e w1 ⟨g, cap, rfl, hcap, hown, hk⟩
      clear hc0 hf0 hs0
      go_wp2
      have hrel0 : CatRel w xs ys (.slice (some ⟨g, 0, none⟩) 0 cap) (.int .i64 0) w1 := ⟨hk, .inl ⟨rfl, hown⟩⟩
      have HR := hide hrel0
      clear hrel0 hk hown
      go_loopw [6, 27] (fun v i wr => CatRel w xs ys v i wr) (fun _ i _ => 2 - (intOf i).toNat)
      case atStart => exact unhide HR
      case round =>
        obtain ⟨hk, hr⟩ := hrel
        obtain ⟨hc0, hf0, hs0⟩ := ((unhide HP).keeps hk).facts
        rcases hr with ⟨rfl, hown⟩ | ⟨rfl, hown⟩ | ⟨rfl, hown⟩
        · have hread := (unhide HA).keeps hk
          go_wp2_with (at_builtin; refine wpList_append_any _ rfl (.tmp 31) (.tmp 32) _ rfl w.heap.size 23 i0 _ 2 16 Try.underlying26 hi0 hz0 hz1 hz2 rfl (by omega) _ 0 [] rfl hown _ A xs.length c (TagL xs) rfl hread (tagL_one _) (by simp only [maxLen]; omega) (by omega) hk.size ?_; intro v' w2 hown2 hg2 hat2)
          exact ⟨⟨hk.grown hg2 (fun k hkk => (hown.lt k hkk).1), .inr (.inl ⟨rfl, by simpa using hown2⟩)⟩, by simp [intOf]⟩
        · have hread := (unhide HB).keeps hk
          go_wp2_with (at_builtin; refine wpList_append_any _ rfl (.tmp 31) (.tmp 32) _ rfl w.heap.size 23 i0 _ 2 16 Try.underlying26 hi0 hz0 hz1 hz2 rfl (by omega) _ xs.length (TagL xs) rfl hown _ B ys.length d (TagL ys) rfl hread (tagL_one _) (by simp only [maxLen]; omega) (by omega) hk.size ?_; intro v' w2 hown2 hg2 hat2)
          exact ⟨⟨hk.grown hg2 (fun k hkk => (hown.lt k hkk).1), .inr (.inr ⟨rfl, hown2⟩)⟩, by simp [intOf]⟩
        · go_wp2
          go_ret
          exact givesT_of (by rw [List.length_append, tagL_append]; exact hown) hk

end Go.Proofs.Ytahnelbadefedaa
