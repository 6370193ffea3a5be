/- The contract of octets.Groups. -/
import Derived.Test.YtpogpjnbgdbpfaaOct
namespace Go.Proofs.Ytpogpjnbgdbpfaa
open Go.ChangeShapes Go.WideShapes Go.ChangeAt Go.RowKit

/-- A row of n bytes that the call made itself. -/
def RowRel (w : World) (g : Nat) (wr : World) (n : Nat) (xs : List Int) : Prop :=
  wr.ownsRow w.heap.size 5 1 (.slice (some ⟨g, 0, none⟩) n n) n (xs.map (Value.int .u8)) ∧ xs.length = n ∧ Keeps w wr ∧ w.heap.size ≤ g
theorem row_made (w : World) (n : Nat) (hn : n ≤ 16) : RowRel w w.heap.size (w.alloc (.cells (madeCells #[.int .u8 0] n) 5)) n (List.replicate n 0) :=
  ⟨made_own w n (by omega), by simp, (Keeps.refl _).alloc _, Nat.le_refl _⟩
theorem row_set {w wr : World} {g n : Nat} {xs : List Int} (h : RowRel w g wr n xs) (j : Nat) (x : Int) : RowRel w g (wr.setCell ⟨g, j, none⟩ (.int .u8 x)) n (xs.set j x) := by
  obtain ⟨h1, h2, h3, h4⟩ := h
  have hs := (h1.stored j (.int .u8 x)).1
  rw [← List.map_set] at hs
  exact ⟨hs, by simpa using h2, h3.setCell h4 _, h4⟩
theorem row_cell {w wr : World} {g n : Nat} {xs : List Int} (h : RowRel w g wr n xs) {j : Nat} (hj : j < n) : wr.cell? ⟨g, j, none⟩ = some (.int .u8 (xs.getD j 0)) ∧ wr.frozen? ⟨g, j, none⟩ = false := by
  obtain ⟨h1, h2, h3, h4⟩ := h
  have hc := h1.cellAt j (by omega)
  have hl : j < xs.length := by omega
  exact ⟨by rw [hc, List.getElem?_map, List.getElem?_eq_getElem hl]; simp [hl], h1.frozenAt j⟩

def grpC (v : Int) (n j : Nat) : List Int := List.replicate j 0 ++ grp (n - j) v
theorem grpC_length (v : Int) (n j : Nat) (h : j ≤ n) : (grpC v n j).length = n := by simp [grpC, grp_length]; omega
theorem grpC_step (v : Int) (n j : Nat) (h : j < n) : (grpC v n (j + 1)).set j (v / 128 ^ (n - (j + 1)) % 128 + 128) = grpC v n j := by
  unfold grpC
  rw [show n - j = (n - (j + 1)) + 1 from by omega, grp_head, List.replicate_succ', List.append_assoc, List.set_append]
  simp
theorem grpV_step (v : Int) (n j : Nat) (h : j < n) : v / 128 ^ (n - (j + 1)) / 128 = v / 128 ^ (n - j) := by
  rw [show n - j = (n - (j + 1)) + 1 from by omega, Int.pow_succ, Int.ediv_ediv_of_nonneg (Int.le_of_lt (Int.pow_pos (by omega)))]
theorem grpV_nonneg (v : Int) (k : Nat) (h : 0 ≤ v) : 0 ≤ v / 128 ^ k := Int.ediv_nonneg h (Int.le_of_lt (Int.pow_pos (by omega)))
theorem grpV_le (v : Int) (k : Nat) (h : 0 ≤ v) (h1 : v ≤ 18446744073709551615) : v / 128 ^ k ≤ 18446744073709551615 := by
  have := Int.ediv_le_self (128 ^ k) h
  omega
theorem nat_or128 (a : Nat) : a % 256 ||| 128 = a % 128 + 128 := by
  have h : ∀ x : Fin 256, x.val ||| 128 = x.val % 128 + 128 := by decide +kernel
  have := h ⟨a % 256, by omega⟩
  simp only at this
  rw [this]; omega
theorem u8_or128 (x : Int) (h : 0 ≤ x) : bits .or .u8 (x % 256) 128 = x % 128 + 128 := by
  obtain ⟨a, rfl⟩ := Int.eq_ofNat_of_zero_le h
  have := u8_or_nat (a % 256) 128 (by omega) (by omega)
  rw [nat_or128] at this
  simpa using this
theorem u8_and127 (x : Int) : bits .and .u8 (x % 128 + 128) 127 = x % 128 := by
  obtain ⟨a, ha⟩ := Int.eq_ofNat_of_zero_le (show 0 ≤ x % 128 by omega)
  have ha' : a < 128 := by omega
  have := u8_and_nat (a + 128) 127 (by omega) (by omega)
  rw [show (a + 128) &&& 127 = a from by
    have h : ∀ x : Fin 128, (x.val + 128) &&& 127 = x.val := by decide +kernel
    exact h ⟨a, ha'⟩] at this
  rw [ha]; simpa using this
theorem grp_last (v : Int) (n : Nat) (hn : 0 < n) : (grp n v).getD (n - 1) 0 = v % 128 + 128 := by
  cases n with
  | zero => omega
  | succ n => simp [grp, grp_length]
theorem grp_done (v : Int) (n : Nat) (hn : 0 < n) : (grp n v).set (n - 1) (v % 128) = grp (n - 1) (v / 128) ++ [v % 128] := by
  cases n with
  | zero => omega
  | succ n => simp [grp, grp_length]

set_option maxHeartbeats 2000000 in
theorem groups_any (v : Int) (h1 : 0 ≤ v) (h2 : v ≤ 18446744073709551615) (w : World) :
    Calls Try.prog 23 #[.int .u64 v] w (GivesBytes 5 (gOct v) w) := by
  have h0 : URel 128 10 (gLen v) 9 1 (v / 128) := ⟨by unfold gLen; omega, by omega, by omega, rfl⟩
  have hL := gLen_le v
  have hmk := run_make_bytes (gLen v) (by omega)
  go_enter Try.func23, Try.ntmps23
  go_wp2
  go_loop [3, 4] (fun m r => ∃ (f k : Nat) (q : Int), m = .int .i64 k ∧ r = .int .u64 q ∧ q ≤ 18446744073709551615 ∧ URel 128 10 (gLen v) f k q) (fun m _ => (11 - intOf m).toNat)
  case atStart => exact ⟨9, 1, _, rfl, rfl, by omega, h0⟩
  case round =>
    obtain ⟨f, k, q, rfl, rfl, hq2, hr⟩ := hrel
    have hk8 := urel_k hr
    have hq0 := urel_q hr
    by_cases hq : q = 0
    · have hk := urel_last hr hq
      subst hk
      subst hq
      go_wp2
      clear hmk
      have hn16 : gLen v ≤ 16 := by omega
      generalize hn : gLen v = n at *
      have HN := hide hn
      clear hn
      go_loopw [0, 6] (fun x i wr => ∃ p : Int, -1 ≤ p ∧ p < n ∧ i = .int .i64 p ∧ x = .int .u64 (v / 128 ^ (n - (p + 1).toNat)) ∧ RowRel w w.heap.size wr n (grpC v n (p + 1).toNat)) (fun _ i _ => (intOf i + 1).toNat)
      case atStart => exact ⟨(n : Int) - 1, by omega, by omega, rfl, by simp, by rw [show ((n : Int) - 1 + 1).toNat = n from by omega]; simpa [grpC, grp] using row_made w n hn16⟩
      case round =>
        obtain ⟨p, hp1, hp2, rfl, rfl, hrow⟩ := hrel
        by_cases hp : 0 ≤ p
        · obtain ⟨j, rfl⟩ := Int.eq_ofNat_of_zero_le hp
          have hj : j < n := by omega
          obtain ⟨hc, hf⟩ := row_cell hrow hj
          have hv0 := grpV_nonneg v (n - ((j : Int) + 1).toNat) h1
          have hv1 := grpV_le v (n - ((j : Int) + 1).toNat) h1 h2
          generalize hx : v / 128 ^ (n - ((j : Int) + 1).toNat) = x at *
          have HX := hide hx
          clear hx
          go_wp2
          have hxx : x = v / 128 ^ (n - (j + 1)) := by rw [← unhide HX, show ((j : Int) + 1).toNat = j + 1 from by omega]
          have hstep := row_set hrow j (bits .or .u8 (x % 256) 128)
          rw [u8_or128 x hv0, show ((j : Int) + 1).toNat = j + 1 from by omega, hxx, grpC_step v n j hj] at hstep
          refine ⟨⟨(j : Int) - 1, by omega, by omega, rfl, ?_, ?_⟩, by simp [intOf]⟩
          · rw [show ((j : Int) - 1 + 1).toNat = j from by omega, hxx, grpV_step v n j hj]
          · rw [show ((j : Int) - 1 + 1).toNat = j from by omega, u8_or128 x hv0, hxx]
            exact hstep
        · obtain rfl : p = -1 := by omega
          rw [show ((-1 : Int) + 1).toNat = 0 from rfl] at hrow
          have hg0 : grpC v n 0 = grp n v := by simp [grpC]
          rw [hg0] at hrow
          have hn1 : 0 < n := by have := unhide HN; omega
          obtain ⟨hc, hf⟩ := row_cell hrow (j := n - 1) (by omega)
          rw [grp_last v n hn1] at hc
          have hstep := row_set hrow (n - 1) (v % 128)
          rw [grp_done v n hn1] at hstep
          have HS := hide hstep
          clear hrow hstep hg0 hL
          go_wp2
          go_ret
          obtain ⟨r1, r2, r3, r4⟩ := unhide HS
          rw [u8_and127]
          have hg : grp (n - 1) (v / 128) ++ [v % 128] = gOct v := by rw [← unhide HN]; rfl
          rw [hg] at r1 r2
          exact gives_of r2 (Nat.le_refl _) r1 r3
    · obtain ⟨g, hn⟩ := urel_next (by omega) hr hq
      have e1 : (q != 0) = true := by rw [bne_iff_ne]; omega
      clear hq
      go_wp2
      go_round
      case rel => exact ⟨g, k + 1, q / 128, by go_num, rfl, by omega, hn⟩
      case measure => simp [intOf]; omega

end Go.Proofs.Ytpogpjnbgdbpfaa
