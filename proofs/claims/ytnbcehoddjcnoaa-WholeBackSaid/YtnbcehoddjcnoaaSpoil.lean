/- The contract of Spoil: it turns the bytes that it is given, and nothing else. -/
import Derived.Test.YtnbcehoddjcnoaaJoin
namespace Go.Proofs.Ytnbcehoddjcnoaa
open Go.ChangeShapes Go.WideShapes Go.ChangeAt Go.RowKit

def SpRel (B : Nat) (w : World) (g n k : Nat) (wr : World) : Prop := Below B w wr ∧ (∀ i, k ≤ i → i < n → wr.cell? ⟨g, i, none⟩ = w.cell? ⟨g, i, none⟩) ∧ ∀ i, i < n → wr.frozen? ⟨g, i, none⟩ = false
theorem SpRel.step {B : Nat} {w : World} {g n k : Nat} {wr : World} (h : SpRel B w g n k wr) (hg : B ≤ g) (v : Value) : SpRel B w g n (k + 1) (wr.setCell ⟨g, k, none⟩ v) := by
  obtain ⟨h1, h2, h3⟩ := h
  refine ⟨h1.setCell hg v, fun i hi hin => ?_, fun i hin => ?_⟩
  · rw [World.cell?_setCell_other _ _ _ _ (by intro e; injection e with _ e _; omega)]
    exact h2 i (by omega) hin
  · rw [World.frozen?_setCell]; exact h3 i hin

set_option maxRecDepth 100000 in
set_option maxHeartbeats 2000000 in
theorem spoil_any (A : Option Addr) (xs : List Int) (c B : Nat) (w : World) (hh : Holds w A xs) (hx : B8 xs) (hw : Wr B w A xs.length) (hl : xs.length ≤ 1000000) :
    Calls Try.prog 24 #[.slice A xs.length c] w fun e w' => e = .returned (.tuple #[]) ∧ Below B w w' := by
  rcases Nat.eq_zero_or_pos xs.length with h0 | h0
  · rw [h0]
    clear hh hx hw hl h0
    go_enter Try.func24, Try.ntmps24
    go_wp2
    go_loopw [2] (fun i wr => i = .int .i64 0 ∧ Below B w wr) (fun _ _ => 0)
    case atStart => exact ⟨rfl, Below.refl _ _⟩
    case round =>
      obtain ⟨rfl, hb⟩ := hrel
      go_wp2
      go_end0
      exact ⟨rfl, hb⟩
  · obtain ⟨g, rfl, hg, hf⟩ := hw h0
    have hcell : ∀ i, i < xs.length → w.cell? ⟨g, i, none⟩ = some (.int .u8 (xs.getD i 0)) := by
      intro i hi
      obtain ⟨b, o, e, hc⟩ := hh.at_ hi
      injection e with e
      injection e with e1 e2 e3
      subst e1; subst e2
      simpa using hc
    have hval : ∀ i, i < xs.length → 0 ≤ xs.getD i 0 ∧ xs.getD i 0 ≤ 255 := by
      intro i hi
      have : xs.getD i 0 ∈ xs := by
        rw [show xs.getD i 0 = xs[i]'hi from by simp [hi]]
        exact List.getElem_mem _
      exact hx _ this
    generalize hn : xs.length = n at *
    have HC := hide hcell
    have HV := hide hval
    have HR := hide (show SpRel B w g n 0 w from ⟨Below.refl _ _, fun i _ _ => rfl, hf⟩)
    clear hcell hval hh hx hw hf hn
    go_enter Try.func24, Try.ntmps24
    go_wp2
    go_loopw [2] (fun i wr => ∃ k : Nat, k ≤ n ∧ i = .int .i64 k ∧ SpRel B w g n k wr) (fun i _ => n - (intOf i).toNat)
    case atStart => exact ⟨0, by omega, rfl, unhide HR⟩
    case round =>
      obtain ⟨k, hk, rfl, hr⟩ := hrel
      by_cases hlt : k < n
      · have hc : wr.cell? ⟨g, k, none⟩ = some (.int .u8 (xs.getD k 0)) := (hr.2.1 k (Nat.le_refl _) hlt).trans (unhide HC k hlt)
        have hfz := hr.2.2 k hlt
        obtain ⟨hv0, hv1⟩ := unhide HV k hlt
        have HS := hide (fun v => hr.step hg v)
        clear hr
        generalize xs.getD k 0 = x at *
        go_wp2
        exact ⟨⟨k + 1, by omega, by go_num, unhide HS _⟩, by simp [intOf]; omega⟩
      · obtain rfl : k = n := by omega
        go_wp2
        go_end0
        exact ⟨rfl, hr.1⟩

end Go.Proofs.Ytnbcehoddjcnoaa
