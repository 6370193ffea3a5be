/- The contract of the reference's Element. -/
import Derived.Test.YtpogpjnbgdbpfaaTlvRef
import Derived.Test.YtpogpjnbgdbpfaaTlvTake
namespace Go.Proofs.Ytpogpjnbgdbpfaa
open Go.ChangeShapes Go.WideShapes Go.ChangeAt Go.RowKit

theorem own_less {w : World} {base base' : Nat} {e : TypeId} {size : Nat} {v : Value} {n : Nat} {xs : List Value} (h : w.ownsRow base e size v n xs) (hb : base' ≤ base) : w.ownsRow base' e size v n xs := by
  refine ⟨h.1, ?_⟩
  rcases h.2 with hn | ⟨g, cap, cur, rfl, hbb, rest⟩
  · exact .inl hn
  · exact .inr ⟨g, cap, cur, rfl, Nat.le_trans hb hbb, rest⟩

set_option maxHeartbeats 2000000 in
theorem refElement_any (A : Option Addr) (xs : List Int) (c : Nat) (cls num : Int) (made : Bool) (hn1 : num ≤ 9223372036854775807) (hl : xs.length ≤ 1000000) (w : World) (hh : Holds w A xs) :
    Calls Try.prog 42 #[tagV cls num, .bool made, .slice A xs.length c] w (GivesBytes 5 (eOct cls num made xs) w) := by
  obtain ⟨i0, hi0, hz0, hz1, hz2⟩ := info_parts u8_info
  have HR : Hid (∀ w, Calls Try.prog 40 #[tagV cls num, .bool made, .int .i64 (xs.length : Nat)] w (GivesBytes 5 (hOct cls (max num 0) made xs.length) w)) := fun w => by
    have := refHead_any cls num (xs.length : Nat) made hn1 (by omega) w
    rwa [show max ((xs.length : Nat) : Int) 0 = (xs.length : Nat) from by omega] at this
  have hH := hOct_len cls (max num 0) xs.length made
  obtain ⟨hH1, hH2⟩ := hH
  have HH := hide hh
  clear hh
  have hspec : eOct cls num made xs = hOct cls (max num 0) made xs.length ++ xs := rfl
  have HS := hide hspec
  clear hspec
  generalize hlx : xs.length = n at *
  have HLX := hide hlx
  clear hlx
  go_enter Try.func42, Try.ntmps42
  go_wp2_with fail
  refine (unhide HR _).mono ?_
  rintro e w1 ⟨B, d, rfl, hd, hf⟩
  have hown := hf.1
  have hk := (((Keeps.refl w).alloc (.cells #[.int .i64 cls, .int .i64 num] 52)).trans hf.2)
  have hown2 := own_less (base' := w.heap.size) hown (by rw [size_alloc1]; omega)
  have hrow : Row w w1 (.slice B (hOct cls (max num 0) made n).length d) (hOct cls (max num 0) made n).length (hOct cls (max num 0) made n) := ⟨hown2, rfl, hk⟩
  have hrd := (unhide HH).keeps hk
  unfold Holds at hrd
  rw [unhide HLX] at hrd
  have HROW := hide hrow
  clear hf hown hown2 hrow hk
  generalize hhn : (hOct cls (max num 0) made n).length = m at *
  have HHN := hide hhn
  clear hhn
  go_wp2_with (at_builtin; refine wpList_append_any _ rfl (.tmp 11) (.tmp 12) _ rfl w.heap.size 5 i0 _ 1 1 Try.underlying24 hi0 hz0 hz1 hz2 rfl (by omega) _ m _ rfl (unhide HROW).1 _ _ n c _ rfl hrd (ints_oneCell _ _) (by simp only [maxLen]; omega) (by omega) (unhide HROW).2.2.size ?_; intro v' w2 hown2 hg2 _hat2; have hr2 := (unhide HROW).app (ys := xs) (unhide HLX) hown2 hg2; obtain ⟨A2, c2, rfl, _⟩ := hr2.form; have HR2 := hide hr2; clear hr2 hown2 hg2 hrd _hat2)
  go_ret
  rw [unhide HS]
  exact (unhide HR2).gives
end Go.Proofs.Ytpogpjnbgdbpfaa
