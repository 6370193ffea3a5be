/- The walk of BoundsTell. -/
import Derived.Test.YtknmcodpnhdghaaCon
namespace Go.Proofs.Ytknmcodpnhdghaa
open Go.ChangeShapes Go.WideShapes Go.ChangeAt Go.RowKit

set_option maxHeartbeats 3200000 in
theorem tell_any (h hl hh m s : Bool) (l u v n : Int) (h0 : 0 ≤ n) (h1 : n ≤ 18446744073709551615) (w : World) :
    Calls Try.prog 9 #[Con h hl hh m l u, .bool s, .int .i64 v, .int .u64 n] w fun e w' => e = .returned (.bool true) ∧ Keeps w w' := by
  go_enter Try.func9, Try.ntmps9
  go_wp2_with fail
  refine (span_any _ _ _ _ _ _ _).mono ?_
  rintro e w1 ⟨rfl, hb1⟩
  have B0 : Blk w1 w.heap.size 61 #[.bool h, .bool hl, .bool hh, .bool m, .int .i64 l, .int .i64 u] := (Blk.new w 61 _).keeps hb1
  have K1 : Keeps w w1 := Keeps.trans ((Keeps.refl _).alloc _) hb1
  clear hb1
  obtain ⟨hc0, hf0, hs0⟩ := B0.facts
  go_wp2_with fail
  clear hc0 hf0 hs0
  refine (refSpan_any _ _ _ _ _ _ _).mono ?_
  rintro e w2 ⟨rfl, hb1⟩
  replace B0 := B0.keeps hb1
  replace K1 := K1.trans hb1
  clear hb1
  go_wp2_with fail
  go_region_held3 (fun w' => (∀ i, w'.cell? ⟨w.heap.size, i, none⟩ = (#[.bool h, .bool hl, .bool hh, .bool m, .int .i64 l, .int .i64 u] : Array Value)[i]?) ∧ Blk w' w.heap.size 61 #[.bool h, .bool hl, .bool hh, .bool m, .int .i64 l, .int .i64 u] ∧ Keeps w w') (first | exact held_step (by assumption) hb | exact held_start B0 K1)
    (first
      | (go_at_call 43; refine (awake8_any _).mono ?_; rintro e wn ⟨rfl, hb⟩)
      | (go_at_call 44; refine (check_any _ _ _ _ _ _ _ _).mono ?_; rintro e wn ⟨rfl, hb⟩)
      | (go_at_call 45; refine (refCheck_any _ _ _ _ _ _ _ _).mono ?_; rintro e wn ⟨rfl, hb⟩)
      | (go_at_call 46; refine (within_any _ _ _ _ _ _ _ _).mono ?_; rintro e wn ⟨rfl, hb⟩)
      | (go_at_call 47; refine (refWithin_any _ _ _ _ _ _ _ _).mono ?_; rintro e wn ⟨rfl, hb⟩)
      | (go_at_call 48; refine (width_k _ _ h0 h1).mono ?_; rintro e wn ⟨rfl, hb⟩)
      | (go_at_call 49; refine (refWidth_k _ _ h0 h1).mono ?_; rintro e wn ⟨rfl, hb⟩))
  go_wp2
  go_ret
  exact ⟨rfl, (by assumption : _ ∧ _ ∧ Keeps _ _).2.2⟩

end Go.Proofs.Ytknmcodpnhdghaa
