/- Spoil turns the block that it is given, and no other one. -/
import Derived.Test.YtnbcehoddjcnoaaBitsSt
import Derived.Test.YtnbcehoddjcnoaaSpoil
import Derived.Test.YtnbcehoddjcnoaaKept
namespace Go.Proofs.Ytnbcehoddjcnoaa
open Go.ChangeShapes Go.WideShapes Go.ChangeAt Go.RowKit

def SpF (w : World) (g n k : Nat) (wr : World) : Prop := Fr g none w wr ∧ (∀ i, k ≤ i → i < n → wr.cell? ⟨g, i, none⟩ = w.cell? ⟨g, i, none⟩) ∧ ∀ i, i < n → wr.frozen? ⟨g, i, none⟩ = false
theorem SpF.step {w : World} {g n k : Nat} {wr : World} (h : SpF w g n k wr) (v : Value) : SpF w g n (k + 1) (wr.setCell ⟨g, k, none⟩ v) := by
  obtain ⟨h1, h2, h3⟩ := h
  refine ⟨h1.setCell _ v (.inl rfl), fun i hi hin => ?_, fun i hin => ?_⟩
  · rw [World.cell?_setCell_other _ _ _ _ (by intro e; injection e with _ e _; omega)]
    exact h2 i (by omega) hin
  · rw [World.frozen?_setCell]; exact h3 i hin

set_option maxRecDepth 100000 in
set_option maxHeartbeats 2000000 in
theorem spoilF_any (A : Option Addr) (g : Nat) (xs : List Int) (n c : Nat) (w : World) (hn : xs.length = n) (hA : 0 < n → A = some ⟨g, 0, none⟩) (hh : Holds w A xs) (hx : B8 xs) (hf : ∀ i, i < n → w.frozen? ⟨g, i, none⟩ = false) (hl : n ≤ 10000000) :
    Calls Try.prog 24 #[.slice A n c] w fun e w' => e = .returned (.tuple #[]) ∧ Fr g none w w' := by
  rcases Nat.eq_zero_or_pos n with h0 | h0
  · subst h0
    clear hh hx hf hl hA hn
    go_enter Try.func24, Try.ntmps24
    go_wp2
    go_loopw [2] (fun i wr => i = .int .i64 0 ∧ Fr g none w wr) (fun _ _ => 0)
    case atStart => exact ⟨rfl, Fr.refl _ _ _⟩
    case round =>
      obtain ⟨rfl, hb⟩ := hrel
      go_wp2
      go_end0
      exact ⟨rfl, hb⟩
  · obtain rfl := hA h0
    have hcell : ∀ i, i < n → w.cell? ⟨g, i, none⟩ = some (.int .u8 (xs.getD i 0)) := by
      intro i hi
      obtain ⟨b, o, e, hc⟩ := hh.at_ (k := i) (by omega)
      injection e with e
      injection e with e1 e2 e3
      subst e1; subst e2
      simpa using hc
    have hval : ∀ i, i < n → 0 ≤ xs.getD i 0 ∧ xs.getD i 0 ≤ 255 := fun i hi => hx _ (by
      rw [show xs.getD i 0 = xs[i]'(by omega) from by simp [show i < xs.length by omega]]
      exact List.getElem_mem _)
    have HC := hide hcell
    have HV := hide hval
    have HR := hide (show SpF w g n 0 w from ⟨Fr.refl _ _ _, fun i _ _ => rfl, hf⟩)
    clear hcell hval hh hx hf hn hA
    go_enter Try.func24, Try.ntmps24
    go_wp2
    go_loopw [2] (fun i wr => ∃ k : Nat, k ≤ n ∧ i = .int .i64 k ∧ SpF w g n k wr) (fun i _ => n - (intOf i).toNat)
    case atStart => exact ⟨0, by omega, rfl, unhide HR⟩
    case round =>
      obtain ⟨k, hk, rfl, hr⟩ := hrel
      by_cases hlt : k < n
      · have hc : wr.cell? ⟨g, k, none⟩ = some (.int .u8 (xs.getD k 0)) := (hr.2.1 k (Nat.le_refl _) hlt).trans (unhide HC k hlt)
        have hfz := hr.2.2 k hlt
        obtain ⟨hv0, hv1⟩ := unhide HV k hlt
        have HS := hide (fun v => hr.step v)
        clear hr
        generalize xs.getD k 0 = x at *
        go_wp2
        exact ⟨⟨k + 1, by omega, by go_num, unhide HS _⟩, by simp [intOf]; omega⟩
      · obtain rfl : k = n := by omega
        go_wp2
        go_end0
        exact ⟨rfl, hr.1⟩
/-- .. what a call has given back. -/
theorem spoilFresh_any (A : Option Addr) (xs : List Int) (c : Nat) {w0 w1 w : World} (hf : Fresh 5 w0 w1 (.slice A xs.length c) xs) (hk : Keeps w1 w) (hx : B8 xs) (hl : xs.length ≤ 10000000) :
    Calls Try.prog 24 #[.slice A xs.length c] w fun e w' => e = .returned (.tuple #[]) ∧ Below w0.heap.size w w' := by
  have hown := own_keeps_ hf.1 hk
  have hh := hf.holds.keeps hk
  rcases Nat.eq_zero_or_pos xs.length with h0 | h0
  · refine (spoilF_any A w0.heap.size xs xs.length c w rfl (fun h => by omega) hh hx (fun i hi => by omega) hl).mono ?_
    rintro e w' ⟨rfl, h⟩
    exact ⟨rfl, h.1, h.2.1, h.2.2.1, h.2.2.2.1, fun b hb => h.2.2.2.2 b (by have := hf.2.size; have := hk.size; omega) (by omega) (fun e => by cases e)⟩
  · obtain ⟨g, cap, hv, hg, hlt⟩ := hown.form h0
    injection hv with h1 h2 h3
    subst h1; subst h3
    refine (spoilF_any _ g xs xs.length c w rfl (fun _ => rfl) hh hx (fun i hi => hown.frozenAt i) hl).mono ?_
    rintro e w' ⟨rfl, h⟩
    exact ⟨rfl, h.1, h.2.1, h.2.2.1, h.2.2.2.1, fun b hb => h.2.2.2.2 b (by have := hf.2.size; have := hk.size; omega) (by omega) (fun e => by cases e)⟩
end Go.Proofs.Ytnbcehoddjcnoaa
