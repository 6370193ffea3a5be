/- The reference: signs. -/
import Derived.Test.YtknebkncepgppaaDoorLexR2
namespace Go.Proofs.YtknebkncepgppaaDoor
open Go.ChangeShapes Go.WideShapes Go.ChangeAt Go.RowKit Go.PlainAid
set_option linter.unusedVariables false
set_option linter.unusedSimpArgs false

def signLen (r : Option Tok) (i : Nat) : Nat := match r with | none => 0 | some t => t.2.2 - i
theorem sign_some {s : ByteArray} {i : Nat} {x : ByteArray} (h : signsL.find? (starts s i) = some x) : signAt s i = some (6, x, i + x.size) := by rw [signAt, h]
/-- A text begins with another one: so long at least, and alike as far as that. -/
theorem starts_cut {s : ByteArray} {i n : Nat} {x : List UInt8} (hi : i ≤ s.size) (hn : x.length = n) (hlen : n ≤ s.size - i) : (((s.extract i s.size).extract 0 n).toList == x) = starts s i ⟨x.toArray⟩ := by
  have hz : (s.extract i s.size).size = s.size - i := sub_size s i s.size (Nat.le_refl _)
  have hl : ((s.extract i s.size).extract 0 n).toList = (s.extract i s.size).data.toList.take n := by
    rw [ByteArray.toList_eq]
    have := sub_list (s.extract i s.size) 0 n (by omega)
    rw [List.drop_zero] at this
    exact this
  rw [hl, starts, Lib.hasPrefix, Bool.eq_iff_iff, beq_iff_eq, List.isPrefixOf_iff_prefix]
  show _ ↔ x <+: (s.extract i s.size).data.toList
  subst hn
  constructor
  · intro h; rw [← h]; exact List.take_prefix _ _
  · intro h; exact (List.prefix_iff_eq_take.1 h).symm
theorem starts_short {s : ByteArray} {i : Nat} {x : List UInt8} (hlen : s.size - i < x.length) : starts s i ⟨x.toArray⟩ = false := by
  have hz : (sub s i s.size).size = s.size - i := sub_size s i s.size (Nat.le_refl _)
  cases h : starts s i ⟨x.toArray⟩ with
  | false => rfl
  | true =>
    exfalso
    rw [starts, Lib.hasPrefix, List.isPrefixOf_iff_prefix] at h
    have := h.length_le
    rw [← Lib.size_eq, ← Lib.size_eq, hz] at this
    have h2 : (⟨x.toArray⟩ : ByteArray).size = x.length := by show x.toArray.size = _; simp
    omega
set_option maxRecDepth 100000 in
set_option maxHeartbeats 8000000 in
theorem refSign_any (s : ByteArray) (i : Nat) (w : World) (hi : i < s.size) (hs : s.size ≤ 100000000) :
    Calls Tryd.prog 46 #[.string s, .int .i64 (i : Nat)] w fun e w' => e = .returned (.int .i64 (signLen (signAt s i) i : Nat)) ∧ Keeps w w' := by
  have HKA := hide ((Keeps.refl w).alloc (.cells #[.string ⟨#[58, 58, 61]⟩, .string ⟨#[46, 46, 46]⟩, .string ⟨#[46, 46]⟩, .string ⟨#[91, 91]⟩, .string ⟨#[93, 93]⟩, .string ⟨#[123]⟩, .string ⟨#[125]⟩, .string ⟨#[91]⟩, .string ⟨#[93]⟩, .string ⟨#[40]⟩, .string ⟨#[41]⟩, .string ⟨#[44]⟩, .string ⟨#[58]⟩] 9))
  have hB := (Blk.new w 9 #[.string ⟨#[58, 58, 61]⟩, .string ⟨#[46, 46, 46]⟩, .string ⟨#[46, 46]⟩, .string ⟨#[91, 91]⟩, .string ⟨#[93, 93]⟩, .string ⟨#[123]⟩, .string ⟨#[125]⟩, .string ⟨#[91]⟩, .string ⟨#[93]⟩, .string ⟨#[40]⟩, .string ⟨#[41]⟩, .string ⟨#[44]⟩, .string ⟨#[58]⟩]).facts
  have hz : (s.extract i s.size).size = s.size - i := sub_size s i s.size (Nat.le_refl _)
  obtain ⟨hc, hf, hl⟩ := hB
  have hcn : ∀ (m k : Nat), ((w.alloc (.cells #[.string ⟨#[58, 58, 61]⟩, .string ⟨#[46, 46, 46]⟩, .string ⟨#[46, 46]⟩, .string ⟨#[91, 91]⟩, .string ⟨#[93, 93]⟩, .string ⟨#[123]⟩, .string ⟨#[125]⟩, .string ⟨#[91]⟩, .string ⟨#[93]⟩, .string ⟨#[40]⟩, .string ⟨#[41]⟩, .string ⟨#[44]⟩, .string ⟨#[58]⟩] 9)).drewN m).cell? ⟨w.heap.size, k, none⟩ = (#[.string ⟨#[58, 58, 61]⟩, .string ⟨#[46, 46, 46]⟩, .string ⟨#[46, 46]⟩, .string ⟨#[91, 91]⟩, .string ⟨#[93, 93]⟩, .string ⟨#[123]⟩, .string ⟨#[125]⟩, .string ⟨#[91]⟩, .string ⟨#[93]⟩, .string ⟨#[40]⟩, .string ⟨#[41]⟩, .string ⟨#[44]⟩, .string ⟨#[58]⟩] : Array Value)[k]? := fun _ k => hc k
  have HCN := hide hcn
  clear hcn hc hf hl
  go_enter Tryd.func46, Tryd.ntmps46
  go_wp2
  go_loopg [7, 8] 13 (fun k iv (_ : Value) wr => ∃ j : Nat, iv = .int .i64 (j : Nat) ∧ j ≤ 13 ∧ k = 13 - j ∧ (∃ m, wr = (w.alloc (.cells #[.string ⟨#[58, 58, 61]⟩, .string ⟨#[46, 46, 46]⟩, .string ⟨#[46, 46]⟩, .string ⟨#[91, 91]⟩, .string ⟨#[93, 93]⟩, .string ⟨#[123]⟩, .string ⟨#[125]⟩, .string ⟨#[91]⟩, .string ⟨#[93]⟩, .string ⟨#[40]⟩, .string ⟨#[41]⟩, .string ⟨#[44]⟩, .string ⟨#[58]⟩] 9)).drewN m) ∧ signsL.find? (starts s i) = (signsL.drop j).find? (starts s i))
  case atStart => exact ⟨0, rfl, by omega, rfl, ⟨0, rfl⟩, rfl⟩
  case round =>
    obtain ⟨j, rfl, hj, hk, ⟨m, rfl⟩, hfi⟩ := hrel
    have HFI := hide hfi
    clear hfi
    by_cases e0 : j = 0
    · subst e0
      have h0 := unhide HCN m 0
      replace h0 : ((w.alloc (.cells #[.string ⟨#[58, 58, 61]⟩, .string ⟨#[46, 46, 46]⟩, .string ⟨#[46, 46]⟩, .string ⟨#[91, 91]⟩, .string ⟨#[93, 93]⟩, .string ⟨#[123]⟩, .string ⟨#[125]⟩, .string ⟨#[91]⟩, .string ⟨#[93]⟩, .string ⟨#[40]⟩, .string ⟨#[41]⟩, .string ⟨#[44]⟩, .string ⟨#[58]⟩] 9)).drewN m).cell? ⟨w.heap.size, 0, none⟩ = some (.string ⟨#[58, 58, 61]⟩) := h0
      by_cases hlen : 3 ≤ s.size - i
      · have hlenI : (3 : Int) ≤ ((s.size - i : Nat) : Int) := by omega
        have HQ := hide (starts_cut (s := s) (i := i) (n := 3) (x := [58, 58, 61]) (Nat.le_of_lt hi) rfl hlen)
        cases hq : starts s i ⟨#[58, 58, 61]⟩ with
        | true =>
          have hq2 : (((s.extract i s.size).extract 0 3).toList == [58, 58, 61]) = true := (unhide HQ).trans hq
          have HR := hide (show signAt s i = some (6, ⟨#[58, 58, 61]⟩, i + 3) from sign_some (by rw [unhide HFI]; show ((⟨#[58, 58, 61]⟩ : ByteArray) :: signsL.drop 1).find? _ = _; rw [List.find?_cons_of_pos hq]))
          clear hq HQ
          go_wp2
          go_quiet (fail)
          go_wp2
          go_ret
          exact ⟨ret_nat (show 3 = signLen (signAt s i) i by rw [unhide HR]; show 3 = i + 3 - i; omega), ((unhide HKA).drewN _).drewN _⟩
        | false =>
          have hq2 : (((s.extract i s.size).extract 0 3).toList == [58, 58, 61]) = false := (unhide HQ).trans hq
          have HR := hide (show signsL.find? (starts s i) = (signsL.drop 1).find? (starts s i) by rw [unhide HFI]; show ((⟨#[58, 58, 61]⟩ : ByteArray) :: signsL.drop 1).find? _ = _; rw [List.find?_cons_of_neg (by rw [hq]; simp)])
          clear hq HQ
          go_wp2
          go_quiet (fail)
          go_wp2
          go_roundg 12
          case measure => omega
          case rel => exact ⟨1, rfl, by omega, rfl, ⟨_, rfl⟩, unhide HR⟩
      · have hlenI : decide ((3 : Int) ≤ ((s.size - i : Nat) : Int)) = false := decide_eq_false (by omega)
        have hq := starts_short (s := s) (i := i) (x := [58, 58, 61]) (by show s.size - i < 3; omega)
        have HR := hide (show signsL.find? (starts s i) = (signsL.drop 1).find? (starts s i) by rw [unhide HFI]; show ((⟨#[58, 58, 61]⟩ : ByteArray) :: signsL.drop 1).find? _ = _; rw [List.find?_cons_of_neg (by rw [show starts s i ⟨#[58, 58, 61]⟩ = false from hq]; simp)])
        clear hq
        go_wp2
        go_quiet (fail)
        go_wp2
        go_roundg 12
        case measure => omega
        case rel => exact ⟨1, rfl, by omega, rfl, ⟨_, rfl⟩, unhide HR⟩
    by_cases e1 : j = 1
    · subst e1
      have h0 := unhide HCN m 1
      replace h0 : ((w.alloc (.cells #[.string ⟨#[58, 58, 61]⟩, .string ⟨#[46, 46, 46]⟩, .string ⟨#[46, 46]⟩, .string ⟨#[91, 91]⟩, .string ⟨#[93, 93]⟩, .string ⟨#[123]⟩, .string ⟨#[125]⟩, .string ⟨#[91]⟩, .string ⟨#[93]⟩, .string ⟨#[40]⟩, .string ⟨#[41]⟩, .string ⟨#[44]⟩, .string ⟨#[58]⟩] 9)).drewN m).cell? ⟨w.heap.size, 1, none⟩ = some (.string ⟨#[46, 46, 46]⟩) := h0
      by_cases hlen : 3 ≤ s.size - i
      · have hlenI : (3 : Int) ≤ ((s.size - i : Nat) : Int) := by omega
        have HQ := hide (starts_cut (s := s) (i := i) (n := 3) (x := [46, 46, 46]) (Nat.le_of_lt hi) rfl hlen)
        cases hq : starts s i ⟨#[46, 46, 46]⟩ with
        | true =>
          have hq2 : (((s.extract i s.size).extract 0 3).toList == [46, 46, 46]) = true := (unhide HQ).trans hq
          have HR := hide (show signAt s i = some (6, ⟨#[46, 46, 46]⟩, i + 3) from sign_some (by rw [unhide HFI]; show ((⟨#[46, 46, 46]⟩ : ByteArray) :: signsL.drop 2).find? _ = _; rw [List.find?_cons_of_pos hq]))
          clear hq HQ
          go_wp2
          go_quiet (fail)
          go_wp2
          go_ret
          exact ⟨ret_nat (show 3 = signLen (signAt s i) i by rw [unhide HR]; show 3 = i + 3 - i; omega), ((unhide HKA).drewN _).drewN _⟩
        | false =>
          have hq2 : (((s.extract i s.size).extract 0 3).toList == [46, 46, 46]) = false := (unhide HQ).trans hq
          have HR := hide (show signsL.find? (starts s i) = (signsL.drop 2).find? (starts s i) by rw [unhide HFI]; show ((⟨#[46, 46, 46]⟩ : ByteArray) :: signsL.drop 2).find? _ = _; rw [List.find?_cons_of_neg (by rw [hq]; simp)])
          clear hq HQ
          go_wp2
          go_quiet (fail)
          go_wp2
          go_roundg 11
          case measure => omega
          case rel => exact ⟨2, rfl, by omega, rfl, ⟨_, rfl⟩, unhide HR⟩
      · have hlenI : decide ((3 : Int) ≤ ((s.size - i : Nat) : Int)) = false := decide_eq_false (by omega)
        have hq := starts_short (s := s) (i := i) (x := [46, 46, 46]) (by show s.size - i < 3; omega)
        have HR := hide (show signsL.find? (starts s i) = (signsL.drop 2).find? (starts s i) by rw [unhide HFI]; show ((⟨#[46, 46, 46]⟩ : ByteArray) :: signsL.drop 2).find? _ = _; rw [List.find?_cons_of_neg (by rw [show starts s i ⟨#[46, 46, 46]⟩ = false from hq]; simp)])
        clear hq
        go_wp2
        go_quiet (fail)
        go_wp2
        go_roundg 11
        case measure => omega
        case rel => exact ⟨2, rfl, by omega, rfl, ⟨_, rfl⟩, unhide HR⟩
    by_cases e2 : j = 2
    · subst e2
      have h0 := unhide HCN m 2
      replace h0 : ((w.alloc (.cells #[.string ⟨#[58, 58, 61]⟩, .string ⟨#[46, 46, 46]⟩, .string ⟨#[46, 46]⟩, .string ⟨#[91, 91]⟩, .string ⟨#[93, 93]⟩, .string ⟨#[123]⟩, .string ⟨#[125]⟩, .string ⟨#[91]⟩, .string ⟨#[93]⟩, .string ⟨#[40]⟩, .string ⟨#[41]⟩, .string ⟨#[44]⟩, .string ⟨#[58]⟩] 9)).drewN m).cell? ⟨w.heap.size, 2, none⟩ = some (.string ⟨#[46, 46]⟩) := h0
      by_cases hlen : 2 ≤ s.size - i
      · have hlenI : (2 : Int) ≤ ((s.size - i : Nat) : Int) := by omega
        have HQ := hide (starts_cut (s := s) (i := i) (n := 2) (x := [46, 46]) (Nat.le_of_lt hi) rfl hlen)
        cases hq : starts s i ⟨#[46, 46]⟩ with
        | true =>
          have hq2 : (((s.extract i s.size).extract 0 2).toList == [46, 46]) = true := (unhide HQ).trans hq
          have HR := hide (show signAt s i = some (6, ⟨#[46, 46]⟩, i + 2) from sign_some (by rw [unhide HFI]; show ((⟨#[46, 46]⟩ : ByteArray) :: signsL.drop 3).find? _ = _; rw [List.find?_cons_of_pos hq]))
          clear hq HQ
          go_wp2
          go_quiet (fail)
          go_wp2
          go_ret
          exact ⟨ret_nat (show 2 = signLen (signAt s i) i by rw [unhide HR]; show 2 = i + 2 - i; omega), ((unhide HKA).drewN _).drewN _⟩
        | false =>
          have hq2 : (((s.extract i s.size).extract 0 2).toList == [46, 46]) = false := (unhide HQ).trans hq
          have HR := hide (show signsL.find? (starts s i) = (signsL.drop 3).find? (starts s i) by rw [unhide HFI]; show ((⟨#[46, 46]⟩ : ByteArray) :: signsL.drop 3).find? _ = _; rw [List.find?_cons_of_neg (by rw [hq]; simp)])
          clear hq HQ
          go_wp2
          go_quiet (fail)
          go_wp2
          go_roundg 10
          case measure => omega
          case rel => exact ⟨3, rfl, by omega, rfl, ⟨_, rfl⟩, unhide HR⟩
      · have hlenI : decide ((2 : Int) ≤ ((s.size - i : Nat) : Int)) = false := decide_eq_false (by omega)
        have hq := starts_short (s := s) (i := i) (x := [46, 46]) (by show s.size - i < 2; omega)
        have HR := hide (show signsL.find? (starts s i) = (signsL.drop 3).find? (starts s i) by rw [unhide HFI]; show ((⟨#[46, 46]⟩ : ByteArray) :: signsL.drop 3).find? _ = _; rw [List.find?_cons_of_neg (by rw [show starts s i ⟨#[46, 46]⟩ = false from hq]; simp)])
        clear hq
        go_wp2
        go_quiet (fail)
        go_wp2
        go_roundg 10
        case measure => omega
        case rel => exact ⟨3, rfl, by omega, rfl, ⟨_, rfl⟩, unhide HR⟩
    by_cases e3 : j = 3
    · subst e3
      have h0 := unhide HCN m 3
      replace h0 : ((w.alloc (.cells #[.string ⟨#[58, 58, 61]⟩, .string ⟨#[46, 46, 46]⟩, .string ⟨#[46, 46]⟩, .string ⟨#[91, 91]⟩, .string ⟨#[93, 93]⟩, .string ⟨#[123]⟩, .string ⟨#[125]⟩, .string ⟨#[91]⟩, .string ⟨#[93]⟩, .string ⟨#[40]⟩, .string ⟨#[41]⟩, .string ⟨#[44]⟩, .string ⟨#[58]⟩] 9)).drewN m).cell? ⟨w.heap.size, 3, none⟩ = some (.string ⟨#[91, 91]⟩) := h0
      by_cases hlen : 2 ≤ s.size - i
      · have hlenI : (2 : Int) ≤ ((s.size - i : Nat) : Int) := by omega
        have HQ := hide (starts_cut (s := s) (i := i) (n := 2) (x := [91, 91]) (Nat.le_of_lt hi) rfl hlen)
        cases hq : starts s i ⟨#[91, 91]⟩ with
        | true =>
          have hq2 : (((s.extract i s.size).extract 0 2).toList == [91, 91]) = true := (unhide HQ).trans hq
          have HR := hide (show signAt s i = some (6, ⟨#[91, 91]⟩, i + 2) from sign_some (by rw [unhide HFI]; show ((⟨#[91, 91]⟩ : ByteArray) :: signsL.drop 4).find? _ = _; rw [List.find?_cons_of_pos hq]))
          clear hq HQ
          go_wp2
          go_quiet (fail)
          go_wp2
          go_ret
          exact ⟨ret_nat (show 2 = signLen (signAt s i) i by rw [unhide HR]; show 2 = i + 2 - i; omega), ((unhide HKA).drewN _).drewN _⟩
        | false =>
          have hq2 : (((s.extract i s.size).extract 0 2).toList == [91, 91]) = false := (unhide HQ).trans hq
          have HR := hide (show signsL.find? (starts s i) = (signsL.drop 4).find? (starts s i) by rw [unhide HFI]; show ((⟨#[91, 91]⟩ : ByteArray) :: signsL.drop 4).find? _ = _; rw [List.find?_cons_of_neg (by rw [hq]; simp)])
          clear hq HQ
          go_wp2
          go_quiet (fail)
          go_wp2
          go_roundg 9
          case measure => omega
          case rel => exact ⟨4, rfl, by omega, rfl, ⟨_, rfl⟩, unhide HR⟩
      · have hlenI : decide ((2 : Int) ≤ ((s.size - i : Nat) : Int)) = false := decide_eq_false (by omega)
        have hq := starts_short (s := s) (i := i) (x := [91, 91]) (by show s.size - i < 2; omega)
        have HR := hide (show signsL.find? (starts s i) = (signsL.drop 4).find? (starts s i) by rw [unhide HFI]; show ((⟨#[91, 91]⟩ : ByteArray) :: signsL.drop 4).find? _ = _; rw [List.find?_cons_of_neg (by rw [show starts s i ⟨#[91, 91]⟩ = false from hq]; simp)])
        clear hq
        go_wp2
        go_quiet (fail)
        go_wp2
        go_roundg 9
        case measure => omega
        case rel => exact ⟨4, rfl, by omega, rfl, ⟨_, rfl⟩, unhide HR⟩
    by_cases e4 : j = 4
    · subst e4
      have h0 := unhide HCN m 4
      replace h0 : ((w.alloc (.cells #[.string ⟨#[58, 58, 61]⟩, .string ⟨#[46, 46, 46]⟩, .string ⟨#[46, 46]⟩, .string ⟨#[91, 91]⟩, .string ⟨#[93, 93]⟩, .string ⟨#[123]⟩, .string ⟨#[125]⟩, .string ⟨#[91]⟩, .string ⟨#[93]⟩, .string ⟨#[40]⟩, .string ⟨#[41]⟩, .string ⟨#[44]⟩, .string ⟨#[58]⟩] 9)).drewN m).cell? ⟨w.heap.size, 4, none⟩ = some (.string ⟨#[93, 93]⟩) := h0
      by_cases hlen : 2 ≤ s.size - i
      · have hlenI : (2 : Int) ≤ ((s.size - i : Nat) : Int) := by omega
        have HQ := hide (starts_cut (s := s) (i := i) (n := 2) (x := [93, 93]) (Nat.le_of_lt hi) rfl hlen)
        cases hq : starts s i ⟨#[93, 93]⟩ with
        | true =>
          have hq2 : (((s.extract i s.size).extract 0 2).toList == [93, 93]) = true := (unhide HQ).trans hq
          have HR := hide (show signAt s i = some (6, ⟨#[93, 93]⟩, i + 2) from sign_some (by rw [unhide HFI]; show ((⟨#[93, 93]⟩ : ByteArray) :: signsL.drop 5).find? _ = _; rw [List.find?_cons_of_pos hq]))
          clear hq HQ
          go_wp2
          go_quiet (fail)
          go_wp2
          go_ret
          exact ⟨ret_nat (show 2 = signLen (signAt s i) i by rw [unhide HR]; show 2 = i + 2 - i; omega), ((unhide HKA).drewN _).drewN _⟩
        | false =>
          have hq2 : (((s.extract i s.size).extract 0 2).toList == [93, 93]) = false := (unhide HQ).trans hq
          have HR := hide (show signsL.find? (starts s i) = (signsL.drop 5).find? (starts s i) by rw [unhide HFI]; show ((⟨#[93, 93]⟩ : ByteArray) :: signsL.drop 5).find? _ = _; rw [List.find?_cons_of_neg (by rw [hq]; simp)])
          clear hq HQ
          go_wp2
          go_quiet (fail)
          go_wp2
          go_roundg 8
          case measure => omega
          case rel => exact ⟨5, rfl, by omega, rfl, ⟨_, rfl⟩, unhide HR⟩
      · have hlenI : decide ((2 : Int) ≤ ((s.size - i : Nat) : Int)) = false := decide_eq_false (by omega)
        have hq := starts_short (s := s) (i := i) (x := [93, 93]) (by show s.size - i < 2; omega)
        have HR := hide (show signsL.find? (starts s i) = (signsL.drop 5).find? (starts s i) by rw [unhide HFI]; show ((⟨#[93, 93]⟩ : ByteArray) :: signsL.drop 5).find? _ = _; rw [List.find?_cons_of_neg (by rw [show starts s i ⟨#[93, 93]⟩ = false from hq]; simp)])
        clear hq
        go_wp2
        go_quiet (fail)
        go_wp2
        go_roundg 8
        case measure => omega
        case rel => exact ⟨5, rfl, by omega, rfl, ⟨_, rfl⟩, unhide HR⟩
    by_cases e5 : j = 5
    · subst e5
      have h0 := unhide HCN m 5
      replace h0 : ((w.alloc (.cells #[.string ⟨#[58, 58, 61]⟩, .string ⟨#[46, 46, 46]⟩, .string ⟨#[46, 46]⟩, .string ⟨#[91, 91]⟩, .string ⟨#[93, 93]⟩, .string ⟨#[123]⟩, .string ⟨#[125]⟩, .string ⟨#[91]⟩, .string ⟨#[93]⟩, .string ⟨#[40]⟩, .string ⟨#[41]⟩, .string ⟨#[44]⟩, .string ⟨#[58]⟩] 9)).drewN m).cell? ⟨w.heap.size, 5, none⟩ = some (.string ⟨#[123]⟩) := h0
      by_cases hlen : 1 ≤ s.size - i
      · have hlenI : (1 : Int) ≤ ((s.size - i : Nat) : Int) := by omega
        have HQ := hide (starts_cut (s := s) (i := i) (n := 1) (x := [123]) (Nat.le_of_lt hi) rfl hlen)
        cases hq : starts s i ⟨#[123]⟩ with
        | true =>
          have hq2 : (((s.extract i s.size).extract 0 1).toList == [123]) = true := (unhide HQ).trans hq
          have HR := hide (show signAt s i = some (6, ⟨#[123]⟩, i + 1) from sign_some (by rw [unhide HFI]; show ((⟨#[123]⟩ : ByteArray) :: signsL.drop 6).find? _ = _; rw [List.find?_cons_of_pos hq]))
          clear hq HQ
          go_wp2
          go_quiet (fail)
          go_wp2
          go_ret
          exact ⟨ret_nat (show 1 = signLen (signAt s i) i by rw [unhide HR]; show 1 = i + 1 - i; omega), ((unhide HKA).drewN _).drewN _⟩
        | false =>
          have hq2 : (((s.extract i s.size).extract 0 1).toList == [123]) = false := (unhide HQ).trans hq
          have HR := hide (show signsL.find? (starts s i) = (signsL.drop 6).find? (starts s i) by rw [unhide HFI]; show ((⟨#[123]⟩ : ByteArray) :: signsL.drop 6).find? _ = _; rw [List.find?_cons_of_neg (by rw [hq]; simp)])
          clear hq HQ
          go_wp2
          go_quiet (fail)
          go_wp2
          go_roundg 7
          case measure => omega
          case rel => exact ⟨6, rfl, by omega, rfl, ⟨_, rfl⟩, unhide HR⟩
      · have hlenI : decide ((1 : Int) ≤ ((s.size - i : Nat) : Int)) = false := decide_eq_false (by omega)
        have hq := starts_short (s := s) (i := i) (x := [123]) (by show s.size - i < 1; omega)
        have HR := hide (show signsL.find? (starts s i) = (signsL.drop 6).find? (starts s i) by rw [unhide HFI]; show ((⟨#[123]⟩ : ByteArray) :: signsL.drop 6).find? _ = _; rw [List.find?_cons_of_neg (by rw [show starts s i ⟨#[123]⟩ = false from hq]; simp)])
        clear hq
        go_wp2
        go_quiet (fail)
        go_wp2
        go_roundg 7
        case measure => omega
        case rel => exact ⟨6, rfl, by omega, rfl, ⟨_, rfl⟩, unhide HR⟩
    by_cases e6 : j = 6
    · subst e6
      have h0 := unhide HCN m 6
      replace h0 : ((w.alloc (.cells #[.string ⟨#[58, 58, 61]⟩, .string ⟨#[46, 46, 46]⟩, .string ⟨#[46, 46]⟩, .string ⟨#[91, 91]⟩, .string ⟨#[93, 93]⟩, .string ⟨#[123]⟩, .string ⟨#[125]⟩, .string ⟨#[91]⟩, .string ⟨#[93]⟩, .string ⟨#[40]⟩, .string ⟨#[41]⟩, .string ⟨#[44]⟩, .string ⟨#[58]⟩] 9)).drewN m).cell? ⟨w.heap.size, 6, none⟩ = some (.string ⟨#[125]⟩) := h0
      by_cases hlen : 1 ≤ s.size - i
      · have hlenI : (1 : Int) ≤ ((s.size - i : Nat) : Int) := by omega
        have HQ := hide (starts_cut (s := s) (i := i) (n := 1) (x := [125]) (Nat.le_of_lt hi) rfl hlen)
        cases hq : starts s i ⟨#[125]⟩ with
        | true =>
          have hq2 : (((s.extract i s.size).extract 0 1).toList == [125]) = true := (unhide HQ).trans hq
          have HR := hide (show signAt s i = some (6, ⟨#[125]⟩, i + 1) from sign_some (by rw [unhide HFI]; show ((⟨#[125]⟩ : ByteArray) :: signsL.drop 7).find? _ = _; rw [List.find?_cons_of_pos hq]))
          clear hq HQ
          go_wp2
          go_quiet (fail)
          go_wp2
          go_ret
          exact ⟨ret_nat (show 1 = signLen (signAt s i) i by rw [unhide HR]; show 1 = i + 1 - i; omega), ((unhide HKA).drewN _).drewN _⟩
        | false =>
          have hq2 : (((s.extract i s.size).extract 0 1).toList == [125]) = false := (unhide HQ).trans hq
          have HR := hide (show signsL.find? (starts s i) = (signsL.drop 7).find? (starts s i) by rw [unhide HFI]; show ((⟨#[125]⟩ : ByteArray) :: signsL.drop 7).find? _ = _; rw [List.find?_cons_of_neg (by rw [hq]; simp)])
          clear hq HQ
          go_wp2
          go_quiet (fail)
          go_wp2
          go_roundg 6
          case measure => omega
          case rel => exact ⟨7, rfl, by omega, rfl, ⟨_, rfl⟩, unhide HR⟩
      · have hlenI : decide ((1 : Int) ≤ ((s.size - i : Nat) : Int)) = false := decide_eq_false (by omega)
        have hq := starts_short (s := s) (i := i) (x := [125]) (by show s.size - i < 1; omega)
        have HR := hide (show signsL.find? (starts s i) = (signsL.drop 7).find? (starts s i) by rw [unhide HFI]; show ((⟨#[125]⟩ : ByteArray) :: signsL.drop 7).find? _ = _; rw [List.find?_cons_of_neg (by rw [show starts s i ⟨#[125]⟩ = false from hq]; simp)])
        clear hq
        go_wp2
        go_quiet (fail)
        go_wp2
        go_roundg 6
        case measure => omega
        case rel => exact ⟨7, rfl, by omega, rfl, ⟨_, rfl⟩, unhide HR⟩
    by_cases e7 : j = 7
    · subst e7
      have h0 := unhide HCN m 7
      replace h0 : ((w.alloc (.cells #[.string ⟨#[58, 58, 61]⟩, .string ⟨#[46, 46, 46]⟩, .string ⟨#[46, 46]⟩, .string ⟨#[91, 91]⟩, .string ⟨#[93, 93]⟩, .string ⟨#[123]⟩, .string ⟨#[125]⟩, .string ⟨#[91]⟩, .string ⟨#[93]⟩, .string ⟨#[40]⟩, .string ⟨#[41]⟩, .string ⟨#[44]⟩, .string ⟨#[58]⟩] 9)).drewN m).cell? ⟨w.heap.size, 7, none⟩ = some (.string ⟨#[91]⟩) := h0
      by_cases hlen : 1 ≤ s.size - i
      · have hlenI : (1 : Int) ≤ ((s.size - i : Nat) : Int) := by omega
        have HQ := hide (starts_cut (s := s) (i := i) (n := 1) (x := [91]) (Nat.le_of_lt hi) rfl hlen)
        cases hq : starts s i ⟨#[91]⟩ with
        | true =>
          have hq2 : (((s.extract i s.size).extract 0 1).toList == [91]) = true := (unhide HQ).trans hq
          have HR := hide (show signAt s i = some (6, ⟨#[91]⟩, i + 1) from sign_some (by rw [unhide HFI]; show ((⟨#[91]⟩ : ByteArray) :: signsL.drop 8).find? _ = _; rw [List.find?_cons_of_pos hq]))
          clear hq HQ
          go_wp2
          go_quiet (fail)
          go_wp2
          go_ret
          exact ⟨ret_nat (show 1 = signLen (signAt s i) i by rw [unhide HR]; show 1 = i + 1 - i; omega), ((unhide HKA).drewN _).drewN _⟩
        | false =>
          have hq2 : (((s.extract i s.size).extract 0 1).toList == [91]) = false := (unhide HQ).trans hq
          have HR := hide (show signsL.find? (starts s i) = (signsL.drop 8).find? (starts s i) by rw [unhide HFI]; show ((⟨#[91]⟩ : ByteArray) :: signsL.drop 8).find? _ = _; rw [List.find?_cons_of_neg (by rw [hq]; simp)])
          clear hq HQ
          go_wp2
          go_quiet (fail)
          go_wp2
          go_roundg 5
          case measure => omega
          case rel => exact ⟨8, rfl, by omega, rfl, ⟨_, rfl⟩, unhide HR⟩
      · have hlenI : decide ((1 : Int) ≤ ((s.size - i : Nat) : Int)) = false := decide_eq_false (by omega)
        have hq := starts_short (s := s) (i := i) (x := [91]) (by show s.size - i < 1; omega)
        have HR := hide (show signsL.find? (starts s i) = (signsL.drop 8).find? (starts s i) by rw [unhide HFI]; show ((⟨#[91]⟩ : ByteArray) :: signsL.drop 8).find? _ = _; rw [List.find?_cons_of_neg (by rw [show starts s i ⟨#[91]⟩ = false from hq]; simp)])
        clear hq
        go_wp2
        go_quiet (fail)
        go_wp2
        go_roundg 5
        case measure => omega
        case rel => exact ⟨8, rfl, by omega, rfl, ⟨_, rfl⟩, unhide HR⟩
    by_cases e8 : j = 8
    · subst e8
      have h0 := unhide HCN m 8
      replace h0 : ((w.alloc (.cells #[.string ⟨#[58, 58, 61]⟩, .string ⟨#[46, 46, 46]⟩, .string ⟨#[46, 46]⟩, .string ⟨#[91, 91]⟩, .string ⟨#[93, 93]⟩, .string ⟨#[123]⟩, .string ⟨#[125]⟩, .string ⟨#[91]⟩, .string ⟨#[93]⟩, .string ⟨#[40]⟩, .string ⟨#[41]⟩, .string ⟨#[44]⟩, .string ⟨#[58]⟩] 9)).drewN m).cell? ⟨w.heap.size, 8, none⟩ = some (.string ⟨#[93]⟩) := h0
      by_cases hlen : 1 ≤ s.size - i
      · have hlenI : (1 : Int) ≤ ((s.size - i : Nat) : Int) := by omega
        have HQ := hide (starts_cut (s := s) (i := i) (n := 1) (x := [93]) (Nat.le_of_lt hi) rfl hlen)
        cases hq : starts s i ⟨#[93]⟩ with
        | true =>
          have hq2 : (((s.extract i s.size).extract 0 1).toList == [93]) = true := (unhide HQ).trans hq
          have HR := hide (show signAt s i = some (6, ⟨#[93]⟩, i + 1) from sign_some (by rw [unhide HFI]; show ((⟨#[93]⟩ : ByteArray) :: signsL.drop 9).find? _ = _; rw [List.find?_cons_of_pos hq]))
          clear hq HQ
          go_wp2
          go_quiet (fail)
          go_wp2
          go_ret
          exact ⟨ret_nat (show 1 = signLen (signAt s i) i by rw [unhide HR]; show 1 = i + 1 - i; omega), ((unhide HKA).drewN _).drewN _⟩
        | false =>
          have hq2 : (((s.extract i s.size).extract 0 1).toList == [93]) = false := (unhide HQ).trans hq
          have HR := hide (show signsL.find? (starts s i) = (signsL.drop 9).find? (starts s i) by rw [unhide HFI]; show ((⟨#[93]⟩ : ByteArray) :: signsL.drop 9).find? _ = _; rw [List.find?_cons_of_neg (by rw [hq]; simp)])
          clear hq HQ
          go_wp2
          go_quiet (fail)
          go_wp2
          go_roundg 4
          case measure => omega
          case rel => exact ⟨9, rfl, by omega, rfl, ⟨_, rfl⟩, unhide HR⟩
      · have hlenI : decide ((1 : Int) ≤ ((s.size - i : Nat) : Int)) = false := decide_eq_false (by omega)
        have hq := starts_short (s := s) (i := i) (x := [93]) (by show s.size - i < 1; omega)
        have HR := hide (show signsL.find? (starts s i) = (signsL.drop 9).find? (starts s i) by rw [unhide HFI]; show ((⟨#[93]⟩ : ByteArray) :: signsL.drop 9).find? _ = _; rw [List.find?_cons_of_neg (by rw [show starts s i ⟨#[93]⟩ = false from hq]; simp)])
        clear hq
        go_wp2
        go_quiet (fail)
        go_wp2
        go_roundg 4
        case measure => omega
        case rel => exact ⟨9, rfl, by omega, rfl, ⟨_, rfl⟩, unhide HR⟩
    by_cases e9 : j = 9
    · subst e9
      have h0 := unhide HCN m 9
      replace h0 : ((w.alloc (.cells #[.string ⟨#[58, 58, 61]⟩, .string ⟨#[46, 46, 46]⟩, .string ⟨#[46, 46]⟩, .string ⟨#[91, 91]⟩, .string ⟨#[93, 93]⟩, .string ⟨#[123]⟩, .string ⟨#[125]⟩, .string ⟨#[91]⟩, .string ⟨#[93]⟩, .string ⟨#[40]⟩, .string ⟨#[41]⟩, .string ⟨#[44]⟩, .string ⟨#[58]⟩] 9)).drewN m).cell? ⟨w.heap.size, 9, none⟩ = some (.string ⟨#[40]⟩) := h0
      by_cases hlen : 1 ≤ s.size - i
      · have hlenI : (1 : Int) ≤ ((s.size - i : Nat) : Int) := by omega
        have HQ := hide (starts_cut (s := s) (i := i) (n := 1) (x := [40]) (Nat.le_of_lt hi) rfl hlen)
        cases hq : starts s i ⟨#[40]⟩ with
        | true =>
          have hq2 : (((s.extract i s.size).extract 0 1).toList == [40]) = true := (unhide HQ).trans hq
          have HR := hide (show signAt s i = some (6, ⟨#[40]⟩, i + 1) from sign_some (by rw [unhide HFI]; show ((⟨#[40]⟩ : ByteArray) :: signsL.drop 10).find? _ = _; rw [List.find?_cons_of_pos hq]))
          clear hq HQ
          go_wp2
          go_quiet (fail)
          go_wp2
          go_ret
          exact ⟨ret_nat (show 1 = signLen (signAt s i) i by rw [unhide HR]; show 1 = i + 1 - i; omega), ((unhide HKA).drewN _).drewN _⟩
        | false =>
          have hq2 : (((s.extract i s.size).extract 0 1).toList == [40]) = false := (unhide HQ).trans hq
          have HR := hide (show signsL.find? (starts s i) = (signsL.drop 10).find? (starts s i) by rw [unhide HFI]; show ((⟨#[40]⟩ : ByteArray) :: signsL.drop 10).find? _ = _; rw [List.find?_cons_of_neg (by rw [hq]; simp)])
          clear hq HQ
          go_wp2
          go_quiet (fail)
          go_wp2
          go_roundg 3
          case measure => omega
          case rel => exact ⟨10, rfl, by omega, rfl, ⟨_, rfl⟩, unhide HR⟩
      · have hlenI : decide ((1 : Int) ≤ ((s.size - i : Nat) : Int)) = false := decide_eq_false (by omega)
        have hq := starts_short (s := s) (i := i) (x := [40]) (by show s.size - i < 1; omega)
        have HR := hide (show signsL.find? (starts s i) = (signsL.drop 10).find? (starts s i) by rw [unhide HFI]; show ((⟨#[40]⟩ : ByteArray) :: signsL.drop 10).find? _ = _; rw [List.find?_cons_of_neg (by rw [show starts s i ⟨#[40]⟩ = false from hq]; simp)])
        clear hq
        go_wp2
        go_quiet (fail)
        go_wp2
        go_roundg 3
        case measure => omega
        case rel => exact ⟨10, rfl, by omega, rfl, ⟨_, rfl⟩, unhide HR⟩
    by_cases e10 : j = 10
    · subst e10
      have h0 := unhide HCN m 10
      replace h0 : ((w.alloc (.cells #[.string ⟨#[58, 58, 61]⟩, .string ⟨#[46, 46, 46]⟩, .string ⟨#[46, 46]⟩, .string ⟨#[91, 91]⟩, .string ⟨#[93, 93]⟩, .string ⟨#[123]⟩, .string ⟨#[125]⟩, .string ⟨#[91]⟩, .string ⟨#[93]⟩, .string ⟨#[40]⟩, .string ⟨#[41]⟩, .string ⟨#[44]⟩, .string ⟨#[58]⟩] 9)).drewN m).cell? ⟨w.heap.size, 10, none⟩ = some (.string ⟨#[41]⟩) := h0
      by_cases hlen : 1 ≤ s.size - i
      · have hlenI : (1 : Int) ≤ ((s.size - i : Nat) : Int) := by omega
        have HQ := hide (starts_cut (s := s) (i := i) (n := 1) (x := [41]) (Nat.le_of_lt hi) rfl hlen)
        cases hq : starts s i ⟨#[41]⟩ with
        | true =>
          have hq2 : (((s.extract i s.size).extract 0 1).toList == [41]) = true := (unhide HQ).trans hq
          have HR := hide (show signAt s i = some (6, ⟨#[41]⟩, i + 1) from sign_some (by rw [unhide HFI]; show ((⟨#[41]⟩ : ByteArray) :: signsL.drop 11).find? _ = _; rw [List.find?_cons_of_pos hq]))
          clear hq HQ
          go_wp2
          go_quiet (fail)
          go_wp2
          go_ret
          exact ⟨ret_nat (show 1 = signLen (signAt s i) i by rw [unhide HR]; show 1 = i + 1 - i; omega), ((unhide HKA).drewN _).drewN _⟩
        | false =>
          have hq2 : (((s.extract i s.size).extract 0 1).toList == [41]) = false := (unhide HQ).trans hq
          have HR := hide (show signsL.find? (starts s i) = (signsL.drop 11).find? (starts s i) by rw [unhide HFI]; show ((⟨#[41]⟩ : ByteArray) :: signsL.drop 11).find? _ = _; rw [List.find?_cons_of_neg (by rw [hq]; simp)])
          clear hq HQ
          go_wp2
          go_quiet (fail)
          go_wp2
          go_roundg 2
          case measure => omega
          case rel => exact ⟨11, rfl, by omega, rfl, ⟨_, rfl⟩, unhide HR⟩
      · have hlenI : decide ((1 : Int) ≤ ((s.size - i : Nat) : Int)) = false := decide_eq_false (by omega)
        have hq := starts_short (s := s) (i := i) (x := [41]) (by show s.size - i < 1; omega)
        have HR := hide (show signsL.find? (starts s i) = (signsL.drop 11).find? (starts s i) by rw [unhide HFI]; show ((⟨#[41]⟩ : ByteArray) :: signsL.drop 11).find? _ = _; rw [List.find?_cons_of_neg (by rw [show starts s i ⟨#[41]⟩ = false from hq]; simp)])
        clear hq
        go_wp2
        go_quiet (fail)
        go_wp2
        go_roundg 2
        case measure => omega
        case rel => exact ⟨11, rfl, by omega, rfl, ⟨_, rfl⟩, unhide HR⟩
    by_cases e11 : j = 11
    · subst e11
      have h0 := unhide HCN m 11
      replace h0 : ((w.alloc (.cells #[.string ⟨#[58, 58, 61]⟩, .string ⟨#[46, 46, 46]⟩, .string ⟨#[46, 46]⟩, .string ⟨#[91, 91]⟩, .string ⟨#[93, 93]⟩, .string ⟨#[123]⟩, .string ⟨#[125]⟩, .string ⟨#[91]⟩, .string ⟨#[93]⟩, .string ⟨#[40]⟩, .string ⟨#[41]⟩, .string ⟨#[44]⟩, .string ⟨#[58]⟩] 9)).drewN m).cell? ⟨w.heap.size, 11, none⟩ = some (.string ⟨#[44]⟩) := h0
      by_cases hlen : 1 ≤ s.size - i
      · have hlenI : (1 : Int) ≤ ((s.size - i : Nat) : Int) := by omega
        have HQ := hide (starts_cut (s := s) (i := i) (n := 1) (x := [44]) (Nat.le_of_lt hi) rfl hlen)
        cases hq : starts s i ⟨#[44]⟩ with
        | true =>
          have hq2 : (((s.extract i s.size).extract 0 1).toList == [44]) = true := (unhide HQ).trans hq
          have HR := hide (show signAt s i = some (6, ⟨#[44]⟩, i + 1) from sign_some (by rw [unhide HFI]; show ((⟨#[44]⟩ : ByteArray) :: signsL.drop 12).find? _ = _; rw [List.find?_cons_of_pos hq]))
          clear hq HQ
          go_wp2
          go_quiet (fail)
          go_wp2
          go_ret
          exact ⟨ret_nat (show 1 = signLen (signAt s i) i by rw [unhide HR]; show 1 = i + 1 - i; omega), ((unhide HKA).drewN _).drewN _⟩
        | false =>
          have hq2 : (((s.extract i s.size).extract 0 1).toList == [44]) = false := (unhide HQ).trans hq
          have HR := hide (show signsL.find? (starts s i) = (signsL.drop 12).find? (starts s i) by rw [unhide HFI]; show ((⟨#[44]⟩ : ByteArray) :: signsL.drop 12).find? _ = _; rw [List.find?_cons_of_neg (by rw [hq]; simp)])
          clear hq HQ
          go_wp2
          go_quiet (fail)
          go_wp2
          go_roundg 1
          case measure => omega
          case rel => exact ⟨12, rfl, by omega, rfl, ⟨_, rfl⟩, unhide HR⟩
      · have hlenI : decide ((1 : Int) ≤ ((s.size - i : Nat) : Int)) = false := decide_eq_false (by omega)
        have hq := starts_short (s := s) (i := i) (x := [44]) (by show s.size - i < 1; omega)
        have HR := hide (show signsL.find? (starts s i) = (signsL.drop 12).find? (starts s i) by rw [unhide HFI]; show ((⟨#[44]⟩ : ByteArray) :: signsL.drop 12).find? _ = _; rw [List.find?_cons_of_neg (by rw [show starts s i ⟨#[44]⟩ = false from hq]; simp)])
        clear hq
        go_wp2
        go_quiet (fail)
        go_wp2
        go_roundg 1
        case measure => omega
        case rel => exact ⟨12, rfl, by omega, rfl, ⟨_, rfl⟩, unhide HR⟩
    by_cases e12 : j = 12
    · subst e12
      have h0 := unhide HCN m 12
      replace h0 : ((w.alloc (.cells #[.string ⟨#[58, 58, 61]⟩, .string ⟨#[46, 46, 46]⟩, .string ⟨#[46, 46]⟩, .string ⟨#[91, 91]⟩, .string ⟨#[93, 93]⟩, .string ⟨#[123]⟩, .string ⟨#[125]⟩, .string ⟨#[91]⟩, .string ⟨#[93]⟩, .string ⟨#[40]⟩, .string ⟨#[41]⟩, .string ⟨#[44]⟩, .string ⟨#[58]⟩] 9)).drewN m).cell? ⟨w.heap.size, 12, none⟩ = some (.string ⟨#[58]⟩) := h0
      by_cases hlen : 1 ≤ s.size - i
      · have hlenI : (1 : Int) ≤ ((s.size - i : Nat) : Int) := by omega
        have HQ := hide (starts_cut (s := s) (i := i) (n := 1) (x := [58]) (Nat.le_of_lt hi) rfl hlen)
        cases hq : starts s i ⟨#[58]⟩ with
        | true =>
          have hq2 : (((s.extract i s.size).extract 0 1).toList == [58]) = true := (unhide HQ).trans hq
          have HR := hide (show signAt s i = some (6, ⟨#[58]⟩, i + 1) from sign_some (by rw [unhide HFI]; show ((⟨#[58]⟩ : ByteArray) :: signsL.drop 13).find? _ = _; rw [List.find?_cons_of_pos hq]))
          clear hq HQ
          go_wp2
          go_quiet (fail)
          go_wp2
          go_ret
          exact ⟨ret_nat (show 1 = signLen (signAt s i) i by rw [unhide HR]; show 1 = i + 1 - i; omega), ((unhide HKA).drewN _).drewN _⟩
        | false =>
          have hq2 : (((s.extract i s.size).extract 0 1).toList == [58]) = false := (unhide HQ).trans hq
          have HR := hide (show signsL.find? (starts s i) = (signsL.drop 13).find? (starts s i) by rw [unhide HFI]; show ((⟨#[58]⟩ : ByteArray) :: signsL.drop 13).find? _ = _; rw [List.find?_cons_of_neg (by rw [hq]; simp)])
          clear hq HQ
          go_wp2
          go_quiet (fail)
          go_wp2
          go_roundg 0
          case measure => omega
          case rel => exact ⟨13, rfl, by omega, rfl, ⟨_, rfl⟩, unhide HR⟩
      · have hlenI : decide ((1 : Int) ≤ ((s.size - i : Nat) : Int)) = false := decide_eq_false (by omega)
        have hq := starts_short (s := s) (i := i) (x := [58]) (by show s.size - i < 1; omega)
        have HR := hide (show signsL.find? (starts s i) = (signsL.drop 13).find? (starts s i) by rw [unhide HFI]; show ((⟨#[58]⟩ : ByteArray) :: signsL.drop 13).find? _ = _; rw [List.find?_cons_of_neg (by rw [show starts s i ⟨#[58]⟩ = false from hq]; simp)])
        clear hq
        go_wp2
        go_quiet (fail)
        go_wp2
        go_roundg 0
        case measure => omega
        case rel => exact ⟨13, rfl, by omega, rfl, ⟨_, rfl⟩, unhide HR⟩
    have e13 : j = 13 := by omega
    subst e13
    have HR := hide (show signAt s i = none by rw [signAt, unhide HFI]; rfl)
    go_wp2
    go_ret
    exact ⟨ret_nat (show 0 = signLen (signAt s i) i by rw [unhide HR]; rfl), (unhide HKA).drewN _⟩
end Go.Proofs.YtknebkncepgppaaDoor
