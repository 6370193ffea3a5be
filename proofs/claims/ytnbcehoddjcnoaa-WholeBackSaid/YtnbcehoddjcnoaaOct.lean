/- The contracts of octets.Signed and octets.Unsigned, and of their references. -/
import Derived.Test.YtnbcehoddjcnoaaLow
import Derived.Laws.BitsAllLaws
namespace Go.Proofs.Ytnbcehoddjcnoaa
open Go.ChangeShapes Go.WideShapes Go.ChangeAt Go.RowKit

theorem lo_wrap (k : Nat) (hk : k ≤ 8) (v : Int) : lo k (IntKind.u64.wrap v) = lo k v := by
  rw [IntKind.wrap_u64]
  exact lo_mod 8 k hk v
theorem wrap_range (v : Int) : 0 ≤ IntKind.u64.wrap v ∧ IntKind.u64.wrap v ≤ 18446744073709551615 := by
  rw [IntKind.wrap_u64]; omega

def SRel (v : Int) (f k : Nat) (q : Int) : Prop := k + sAux f q = sLen v + 1 ∧ -256 ^ f ≤ q ∧ q < 256 ^ f ∧ k + f = 8
theorem srel_start (v : Int) (h1 : -9223372036854775808 ≤ v) (h2 : v ≤ 9223372036854775807) : SRel v 7 1 (v / 128) := ⟨by unfold sLen; omega, by omega, by omega, rfl⟩
theorem srel_next {v : Int} {f k : Nat} {q : Int} (h : SRel v f k q) (hq : ¬ (q = 0 ∨ q = -1)) : ∃ g, SRel v g (k + 1) (q / 256) := by
  obtain ⟨h1, h2, h3, h4⟩ := h
  obtain ⟨g, rfl, h5, h6, h7⟩ := sAux_next f q hq ⟨h2, h3⟩
  exact ⟨g, by omega, h6, h7, by omega⟩
theorem srel_last {v : Int} {f k : Nat} {q : Int} (h : SRel v f k q) (hq : q = 0 ∨ q = -1) : k = sLen v := by
  obtain ⟨h1, h2, h3, h4⟩ := h
  rw [sAux_last f q hq] at h1; omega
theorem srel_k {v : Int} {f k : Nat} {q : Int} (h : SRel v f k q) : k ≤ 8 := by
  obtain ⟨h1, h2, h3, h4⟩ := h; omega

def URel (b : Int) (top : Nat) (L : Nat) (f k : Nat) (q : Int) : Prop := k + uAux b f q = L + 1 ∧ 0 ≤ q ∧ q < b ^ f ∧ k + f = top
theorem urel_next {b : Int} (hb : 1 < b) {top L f k : Nat} {q : Int} (h : URel b top L f k q) (hq : ¬ q = 0) : ∃ g, URel b top L g (k + 1) (q / b) := by
  obtain ⟨h1, h2, h3, h4⟩ := h
  obtain ⟨g, rfl, h5, h6, h7⟩ := uAux_next b hb f q hq h2 h3
  exact ⟨g, by omega, h6, h7, by omega⟩
theorem urel_last {b : Int} {top L f k : Nat} {q : Int} (h : URel b top L f k q) (hq : q = 0) : k = L := by
  obtain ⟨h1, h2, h3, h4⟩ := h
  rw [uAux_last b f q hq] at h1; omega
theorem urel_k {b : Int} {top L f k : Nat} {q : Int} (h : URel b top L f k q) : k ≤ top := by
  obtain ⟨h1, h2, h3, h4⟩ := h; omega
theorem urel_q {b : Int} {top L f k : Nat} {q : Int} (h : URel b top L f k q) : 0 ≤ q := h.2.1

set_option maxHeartbeats 1000000 in
theorem unsigned_any (v : Int) (h1 : 0 ≤ v) (h2 : v ≤ 18446744073709551615) (w : World) :
    Calls Try.prog 49 #[.int .u64 v] w (GivesBytes 5 (uOct v) w) := by
  have hl := lowest_any v (uLen v) h1 h2 (by have := uLen_le v; omega)
  have HL : Hid (∀ w, Calls Try.prog 78 #[.int .u64 v, .int .i64 (uLen v : Nat)] w (GivesBytes 5 (uOct v) w)) := hl
  clear hl
  have h0 : URel 256 8 (uLen v) 7 1 (v / 256) := ⟨by unfold uLen; omega, by omega, by omega, rfl⟩
  go_enter Try.func49, Try.ntmps49
  go_wp2
  go_loop [3, 4] (fun m r => ∃ (f k : Nat) (q : Int), m = .int .i64 k ∧ r = .int .u64 q ∧ q ≤ 18446744073709551615 ∧ URel 256 8 (uLen v) f k q) (fun m _ => (9 - intOf m).toNat)
  case atStart => exact ⟨7, 1, _, rfl, rfl, by omega, h0⟩
  case round =>
    obtain ⟨f, k, q, rfl, rfl, hq2, hr⟩ := hrel
    have hk8 := urel_k hr
    have hq0 := urel_q hr
    by_cases hq : q = 0
    · have hk := urel_last hr hq
      subst hk
      subst hq
      go_wp2_with fail
      refine (unhide HL _).mono ?_
      rintro e w1 ⟨A, c, rfl, hc, hf⟩
      go_wp2
      go_ret
      exact ⟨A, c, rfl, hc, hf⟩
    · obtain ⟨g, hn⟩ := urel_next (by omega) hr hq
      have e1 : (q != 0) = true := by rw [bne_iff_ne]; omega
      clear hq
      go_wp2
      go_round
      case rel => exact ⟨g, k + 1, q / 256, by go_num, rfl, by omega, hn⟩
      case measure => simp [intOf]; omega

end Go.Proofs.Ytnbcehoddjcnoaa
