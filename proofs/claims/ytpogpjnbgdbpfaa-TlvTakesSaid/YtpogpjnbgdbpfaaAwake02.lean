/- awake of layer 2, and the cells of bytes. -/
import Derived.Test.YtpogpjnbgdbpfaaRefOct
namespace Go.Proofs.Ytpogpjnbgdbpfaa
open Go.ChangeShapes Go.WideShapes Go.ChangeAt Go.RowKit

theorem Holds.cells {w : World} {A : Option Addr} {xs : List Int} (h : Holds w A xs) (h0 : 0 < xs.length) : ∃ b o, A = some ⟨b, o, none⟩ ∧ ∀ k, k < xs.length → w.cell? ⟨b, o + k, none⟩ = some (.int .u8 (xs.getD k 0)) := by
  obtain ⟨b, o, rfl, _⟩ := h.at_ h0
  refine ⟨b, o, rfl, fun k hk => ?_⟩
  obtain ⟨b', o', e', hc⟩ := h.at_ hk
  injection e' with e'; injection e' with e1 e2 e3
  subst e1; subst e2
  exact hc
/-- A later world still holds what an earlier call gave. -/
theorem Fresh.later {E : TypeId} {w w1 w2 : World} {A : Option Addr} {n c : Nat} {xs : List Int} (h : Fresh E w w1 (.slice A n c) xs) (hk : Keeps w1 w2) : Holds w2 A xs := h.holds.keeps hk

set_option maxHeartbeats 1000000 in
theorem awake02_any (w : World) : Calls Try.prog 16 #[] w fun e w' => e = .returned (.bool true) ∧ Keeps w w' := by
  have HG : Hid (∀ w, Calls Try.prog 23 #[.int .u64 300] w (GivesBytes 5 [130, 44] w)) := fun w => by
    have := groups_any 300 (by omega) (by omega) w
    rwa [show gOct 300 = [130, 44] from by decide] at this
  have HS : Hid (∀ w, Calls Try.prog 19 #[.int .i64 (-129)] w (GivesBytes 5 [255, 127] w)) := fun w => by
    have := signed_any (-129) (by omega) (by omega) w
    rwa [show sOct (-129) = [255, 127] from by decide] at this
  go_enter Try.func16, Try.ntmps16
  go_wp2_with fail
  refine (unhide HG _).mono ?_
  rintro e w1 ⟨A, c, rfl, hc, hf⟩
  obtain ⟨b, o, rfl, hcs⟩ := hf.holds.cells (by simp)
  have k0 := hcs 0 (by simp)
  have k1 := hcs 1 (by simp)
  simp only [List.getD_cons_zero, List.getD_cons_succ, Nat.add_zero] at k0 k1
  clear hcs
  have hkeep := hf.2
  clear hf
  simp only [List.length_cons, List.length_nil] at hc ⊢
  go_wp2_with fail
  refine (unhide HS _).mono ?_
  rintro e w2 ⟨A2, c2, rfl, hc2, hf2⟩
  have hkeep2 := hkeep.trans hf2.2
  clear hf2
  go_wp2
  go_ret
  exact ⟨rfl, hkeep2⟩

end Go.Proofs.Ytpogpjnbgdbpfaa
