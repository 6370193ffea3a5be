/- The contracts of octets.Signed and octets.Unsigned, and of their references. -/
import Derived.Test.YtgaapigagglgbaaLow
import Derived.Laws.BitsAllLaws
namespace Go.Proofs.Ytgaapigagglgbaa
open Go.ChangeShapes Go.WideShapes Go.ChangeAt Go.RowKit

theorem lo_wrap (k : Nat) (hk : k ≤ 8) (v : Int) : lo k (IntKind.u64.wrap v) = lo k v := by
  rw [IntKind.wrap_u64]
  exact lo_mod 8 k hk v
theorem wrap_range (v : Int) : 0 ≤ IntKind.u64.wrap v ∧ IntKind.u64.wrap v ≤ 18446744073709551615 := by
  rw [IntKind.wrap_u64]; omega

def SRel (v : Int) (f k : Nat) (q : Int) : Prop := k + sAux f q = sLen v + 1 ∧ -256 ^ f ≤ q ∧ q < 256 ^ f ∧ k + f = 8
theorem srel_start (v : Int) (h1 : -9223372036854775808 ≤ v) (h2 : v ≤ 9223372036854775807) : SRel v 7 1 (v / 128) := ⟨by unfold sLen; omega, by omega, by omega, rfl⟩
theorem srel_next {v : Int} {f k : Nat} {q : Int} (h : SRel v f k q) (hq : ¬ (q = 0 ∨ q = -1)) : ∃ g, SRel v g (k + 1) (q / 256) := by
  obtain ⟨h1, h2, h3, h4⟩ := h
  obtain ⟨g, rfl, h5, h6, h7⟩ := sAux_next f q hq ⟨h2, h3⟩
  exact ⟨g, by omega, h6, h7, by omega⟩
theorem srel_last {v : Int} {f k : Nat} {q : Int} (h : SRel v f k q) (hq : q = 0 ∨ q = -1) : k = sLen v := by
  obtain ⟨h1, h2, h3, h4⟩ := h
  rw [sAux_last f q hq] at h1; omega
theorem srel_k {v : Int} {f k : Nat} {q : Int} (h : SRel v f k q) : k ≤ 8 := by
  obtain ⟨h1, h2, h3, h4⟩ := h; omega

def URel (b : Int) (top : Nat) (L : Nat) (f k : Nat) (q : Int) : Prop := k + uAux b f q = L + 1 ∧ 0 ≤ q ∧ q < b ^ f ∧ k + f = top
theorem urel_next {b : Int} (hb : 1 < b) {top L f k : Nat} {q : Int} (h : URel b top L f k q) (hq : ¬ q = 0) : ∃ g, URel b top L g (k + 1) (q / b) := by
  obtain ⟨h1, h2, h3, h4⟩ := h
  obtain ⟨g, rfl, h5, h6, h7⟩ := uAux_next b hb f q hq h2 h3
  exact ⟨g, by omega, h6, h7, by omega⟩
theorem urel_last {b : Int} {top L f k : Nat} {q : Int} (h : URel b top L f k q) (hq : q = 0) : k = L := by
  obtain ⟨h1, h2, h3, h4⟩ := h
  rw [uAux_last b f q hq] at h1; omega
theorem urel_k {b : Int} {top L f k : Nat} {q : Int} (h : URel b top L f k q) : k ≤ top := by
  obtain ⟨h1, h2, h3, h4⟩ := h; omega
theorem urel_q {b : Int} {top L f k : Nat} {q : Int} (h : URel b top L f k q) : 0 ≤ q := h.2.1

end Go.Proofs.Ytgaapigagglgbaa
