/- The walk of OctetsSizes: how long numbers are. -/
import Derived.Test.YtpogpjnbgdbpfaaAwake02
namespace Go.Proofs.Ytpogpjnbgdbpfaa
open Go.ChangeShapes Go.WideShapes Go.ChangeAt Go.RowKit

theorem sAux_end (f : Nat) : ∀ r : Int, -256 ^ f ≤ r → r < 256 ^ f → r / 256 ^ (sAux f r - 1) = 0 ∨ r / 256 ^ (sAux f r - 1) = -1 := by
  induction f with
  | zero => intro r h1 h2; simp [sAux]; simp at h1 h2; omega
  | succ f ih =>
    intro r h1 h2
    by_cases h : r = 0 ∨ r = -1
    · rw [sAux_last _ r h]; simpa using h
    · rw [sAux, if_neg h]
      rw [Int.pow_succ] at h1 h2
      have := ih (r / 256) (by omega) (by omega)
      have hp := sAux_pos f (r / 256)
      rw [show 1 + sAux f (r / 256) - 1 = (sAux f (r / 256) - 1) + 1 from by omega, Int.pow_succ, Int.mul_comm, ← Int.ediv_ediv_of_nonneg (by omega)]
      exact this
theorem sOct_first (v : Int) (h1 : -9223372036854775808 ≤ v) (h2 : v ≤ 9223372036854775807) : 128 ≤ (sOct v).getD 0 0 ↔ v < 0 := by
  have hp := (sLen_le v).1
  have he := sAux_end 7 (v / 128) (by omega) (by omega)
  have hh : (sOct v).getD 0 0 = v / 256 ^ (sLen v - 1) % 256 := by
    unfold sOct
    obtain ⟨m, hm⟩ : ∃ m, sLen v = m + 1 := ⟨sLen v - 1, by omega⟩
    rw [hm, lo_head]; simp
  rw [hh]
  change v / 128 / 256 ^ (sLen v - 1) = 0 ∨ v / 128 / 256 ^ (sLen v - 1) = -1 at he
  have hpos : (0 : Int) < 256 ^ (sLen v - 1) := Int.pow_pos (by omega)
  have hs : v < 0 ↔ v / 256 ^ (sLen v - 1) < 0 := by
    constructor
    · intro hv; exact Int.ediv_neg_of_neg_of_pos hv hpos
    · intro hv
      apply Int.lt_of_not_ge
      intro hge
      have := Int.ediv_nonneg hge (Int.le_of_lt hpos)
      omega
  have hcomm : v / 128 / 256 ^ (sLen v - 1) = v / 256 ^ (sLen v - 1) / 128 := by
    rw [Int.ediv_ediv_of_nonneg (by omega), Int.ediv_ediv_of_nonneg (Int.le_of_lt hpos), Int.mul_comm]
  rw [hcomm] at he
  rw [hs]
  omega

set_option maxHeartbeats 2000000 in
theorem sizes_any (v u : Int) (h1 : -9223372036854775808 ≤ v) (h2 : v ≤ 9223372036854775807) (h3 : 0 ≤ u) (h4 : u ≤ 18446744073709551615) (w : World) :
    Calls Try.prog 7 #[.int .i64 v, .int .u64 u] w fun e w' => e = .returned (.bool true) ∧ Keeps w w' := by
  have s0 : SRel v 7 1 (v / 128) := srel_start v h1 h2
  have u0 : URel 256 8 (uLen u) 7 1 (u / 256) := ⟨by unfold uLen; omega, by omega, by omega, rfl⟩
  have g0 : URel 128 10 (gLen u) 9 1 (u / 128) := ⟨by unfold gLen; omega, by omega, by omega, rfl⟩
  have hfirst := sOct_first v h1 h2
  have HF := hide hfirst
  clear hfirst
  go_enter Try.func7, Try.ntmps7
  go_wp2
  go_loop [5, 8] (fun m r => ∃ (f k : Nat) (q : Int), m = .int .i64 k ∧ r = .int .i64 q ∧ SRel v f k (q / 128)) (fun m _ => (9 - intOf m).toNat)
  case atStart => exact ⟨7, 1, v, rfl, rfl, s0⟩
  case round =>
    obtain ⟨f, k, q, rfl, rfl, hr⟩ := hrel
    have hk8 := srel_k hr
    by_cases hlo : -128 ≤ q ∧ q ≤ 127
    · have hk := srel_last hr (by omega)
      subst hk
      obtain ⟨q1, q2⟩ := hlo
      go_wp2
      clear hr
      go_loop [6, 9] (fun m r => ∃ (f k : Nat) (q : Int), m = .int .i64 k ∧ r = .int .u64 q ∧ q ≤ 18446744073709551615 ∧ URel 256 8 (uLen u) f k q) (fun m _ => (9 - intOf m).toNat)
      case atStart => exact ⟨7, 1, _, rfl, rfl, by omega, u0⟩
      case round =>
        obtain ⟨f, k, p, rfl, rfl, hp2, hr⟩ := hrel
        have hk8 := urel_k hr
        have hp0 := urel_q hr
        by_cases hp : p = 0
        · have hk := urel_last hr hp
          subst hk
          subst hp
          go_wp2
          clear hr
          go_loop [7, 10] (fun m r => ∃ (f k : Nat) (q : Int), m = .int .i64 k ∧ r = .int .u64 q ∧ q ≤ 18446744073709551615 ∧ URel 128 10 (gLen u) f k q) (fun m _ => (11 - intOf m).toNat)
          case atStart => exact ⟨9, 1, _, rfl, rfl, by omega, g0⟩
          case round =>
            obtain ⟨f, k, p, rfl, rfl, hp2, hr⟩ := hrel
            have hk8 := urel_k hr
            have hp0 := urel_q hr
            by_cases hp : p = 0
            · have hk := urel_last hr hp
              subst hk
              subst hp
              clear hr
              go_wp2_with fail
              refine (signed_any v h1 h2 _).mono ?_
              rintro e w1 ⟨A, c, rfl, hc, hf⟩
              have hh := hf.holds
              have hkeep := hf.2
              clear hf
              have hl0 : 0 < (sOct v).length := by rw [sOct_length]; exact (sLen_le v).1
              rw [sOct_length]
              go_wp2_with fail
              refine (awake02_any _).mono ?_
              rintro e w2 ⟨rfl, hb⟩
              replace hh := hh.keeps hb
              replace hkeep := hkeep.trans hb
              clear hb
              go_wp2_with fail
              refine (unsigned_any u h3 h4 _).mono ?_
              rintro e w3 ⟨A3, c3, rfl, hc3, hf3⟩
              replace hh := hh.keeps hf3.2
              replace hkeep := hkeep.trans hf3.2
              clear hf3
              rw [uOct_length]
              go_wp2_with fail
              refine (groups_any u h3 h4 _).mono ?_
              rintro e w4 ⟨A4, c4, rfl, hc4, hf4⟩
              replace hh := hh.keeps hf4.2
              replace hkeep := hkeep.trans hf4.2
              clear hf4
              rw [gOct_length]
              obtain ⟨b, o, rfl, hcs⟩ := hh.cells hl0
              have k0 := hcs 0 hl0
              rw [Nat.add_zero] at k0
              have hl1 := (sLen_le v).1
              clear hcs hh hl0
              generalize (sOct v).getD 0 0 = x0 at *
              have hb : (decide (128 ≤ x0) == decide (v < 0)) = true := by
                have := unhide HF
                by_cases hv : v < 0
                · rw [decide_eq_true (this.2 hv), decide_eq_true hv]; rfl
                · rw [decide_eq_false (fun e => hv (this.1 e)), decide_eq_false hv]; rfl
              have HB := hide hb
              clear hb
              go_wp2
              go_ret
              exact ⟨ret_bool (unhide HB), hkeep⟩
            · obtain ⟨g, hn⟩ := urel_next (by omega) hr hp
              have e1 : 0 < p := by omega
              clear hp
              go_wp2
              go_round
              case rel => exact ⟨g, k + 1, p / 128, by go_num, rfl, by omega, hn⟩
              case measure => simp [intOf]; omega
        · obtain ⟨g, hn⟩ := urel_next (by omega) hr hp
          have e1 : 0 < p := by omega
          clear hp
          go_wp2
          go_round
          case rel => exact ⟨g, k + 1, p / 256, by go_num, rfl, by omega, hn⟩
          case measure => simp [intOf]; omega
    · obtain ⟨g, hn⟩ := srel_next hr (by omega)
      go_wp2
      all_goals
        go_round
        case rel => exact ⟨g, k + 1, q / 256, by go_num, rfl, by rw [show q / 256 / 128 = q / 128 / 256 from by omega]; exact hn⟩
        case measure => simp [intOf]; omega

end Go.Proofs.Ytpogpjnbgdbpfaa
