/- The contracts of tlv.takeTag and tlv.takeLength. -/
import Derived.Test.YtpogpjnbgdbpfaaTlvHead
import Derived.Test.YtpogpjnbgdbpfaaTakeG
import Derived.Test.YtpogpjnbgdbpfaaBackNum
import Derived.Test.YtpogpjnbgdbpfaaTakeU
import Derived.Handy
namespace Go.Proofs.Ytpogpjnbgdbpfaa
open Go.ChangeShapes Go.WideShapes Go.ChangeAt Go.RowKit

theorem Holds.from_ {w : World} {A : Option Addr} {ys : List Int} (h : Holds w A ys) {m c : Nat} (hm : m ≤ ys.length) (hc : ys.length ≤ c) : Holds w (if c = m then A else A.map (·.add m)) (ys.drop m) := by
  have := Reads.cut h hm hc
  rw [Nat.mul_one, ← List.map_drop] at this
  have e : ys.length - m = (ys.drop m).length := by rw [List.length_drop]
  rw [e] at this
  exact this
theorem Holds.upto {w : World} {A : Option Addr} {ys : List Int} (h : Holds w A ys) (m : Nat) : Holds w A (ys.take m) := by
  refine ⟨by simp, fun hn => ?_⟩
  have h0 : 0 < ys.length := by rw [List.length_take] at hn; omega
  obtain ⟨ad, e, hb, hc⟩ := h.2 h0
  refine ⟨ad, e, hb, fun j u hu => hc j u ?_⟩
  rw [List.map_take, List.getElem?_take] at hu
  split at hu
  · exact hu
  · cases hu

theorem Holds.cell_in {w : World} {b o : Nat} {xs : List Int} (h : Holds w (some ⟨b, o, none⟩) xs) {k : Nat} (hk : k < xs.length) : w.cell? ⟨b, o + k, none⟩ = some (.int .u8 (xs.getD k 0)) := by
  obtain ⟨b', o', e, hc⟩ := h.at_ hk
  injection e with e; injection e with e1 e2
  subst e1; subst e2
  exact hc
theorem add_one_at (b o : Nat) : (⟨b, o, none⟩ : Addr).add 1 = ⟨b, o + 1, none⟩ := by simp [Addr.add]
def takeTagF (xs : List Int) : (Int × Int) × Int × Int :=
  if xs.length = 0 then ((0, 0), 0, 3)
  else if xs.getD 0 0 % 32 ≠ 31 then ((xs.getD 0 0 / 64, xs.getD 0 0 % 32), 1, 0)
  else if (takeG 0 0 (xs.drop 1)).2.2 ≠ 0 then ((0, 0), 0, (takeG 0 0 (xs.drop 1)).2.2)
  else if (takeG 0 0 (xs.drop 1)).1 < 31 ∨ 268435456 < (takeG 0 0 (xs.drop 1)).1 then ((0, 0), 0, 4)
  else ((xs.getD 0 0 / 64, (takeG 0 0 (xs.drop 1)).1), 1 + (takeG 0 0 (xs.drop 1)).2.1, 0)
theorem takeTagF_pos {xs : List Int} (h0 : ¬ xs.length = 0) : takeTagF xs = if xs.getD 0 0 % 32 ≠ 31 then ((xs.getD 0 0 / 64, xs.getD 0 0 % 32), 1, 0)
  else if (takeG 0 0 (xs.drop 1)).2.2 ≠ 0 then ((0, 0), 0, (takeG 0 0 (xs.drop 1)).2.2)
  else if (takeG 0 0 (xs.drop 1)).1 < 31 ∨ 268435456 < (takeG 0 0 (xs.drop 1)).1 then ((0, 0), 0, 4)
  else ((xs.getD 0 0 / 64, (takeG 0 0 (xs.drop 1)).1), 1 + (takeG 0 0 (xs.drop 1)).2.1, 0) := by unfold takeTagF; rw [if_neg h0]
def takeLenF (xs : List Int) : Int × Int × Int :=
  if xs.length = 0 then (0, 0, 3)
  else if xs.getD 0 0 < 128 then (xs.getD 0 0, 1, 0)
  else if xs.getD 0 0 = 128 ∨ 136 < xs.getD 0 0 then (0, 0, 4)
  else if (xs.length : Int) < 1 + (xs.getD 0 0 - 128) then (0, 0, 3)
  else if (takeU ((xs.drop 1).take (xs.getD 0 0 - 128).toNat)).2 ≠ 0 ∨ (takeU ((xs.drop 1).take (xs.getD 0 0 - 128).toNat)).1 < 128 ∨ 2147483647 < (takeU ((xs.drop 1).take (xs.getD 0 0 - 128).toNat)).1 then (0, 0, 4)
  else ((takeU ((xs.drop 1).take (xs.getD 0 0 - 128).toNat)).1, 1 + (xs.getD 0 0 - 128), 0)
theorem u8_and31 (x : Int) (h : 0 ≤ x) (h2 : x ≤ 255) : bits .and .u8 x 31 = x % 32 := by
  obtain ⟨a, rfl⟩ := Int.eq_ofNat_of_zero_le h
  have := u8_and_nat a 31 (by omega) (by omega)
  rw [show a &&& 31 = a % 32 from Nat.and_two_pow_sub_one_eq_mod a 5] at this
  simpa using this
/-- What takeTag answers, as an ending. -/
def tagE (r : (Int × Int) × Int × Int) : Ending := .returned (.tuple #[tagV r.1.1 r.1.2, .int .i64 r.2.1, .int .i64 r.2.2])

theorem tag_load {w : World} {g : Nat} {t : TypeId} {cls num : Int} (hb : Blk w g t #[.int .i64 cls, .int .i64 num]) : (loadVar 52 ⟨g, 0, none⟩).run Try.prog w = .ok (tagV cls num) w :=
  run_loadVar_row w g t 52 _ (0, 0) _ hb Try.underlying52 rfl (by kernel_rfl)
theorem results_tag3 {fn : Func} {c t u : Tmp} {tmps : Array Value} {w : World} {g : Nat} {ty : TypeId} {cls num : Int} (h : fn.results = #[.cell c 52, .tmp t, .tmp u]) (hp : tmps.getD c undef = .pointer (some ⟨g, 0, none⟩)) (hb : Blk w g ty #[.int .i64 cls, .int .i64 num]) :
    (results fn tmps).run Try.prog w = .ok (.tuple #[tagV cls num, tmps.getD t undef, tmps.getD u undef]) w := by
  have hp2 : tmps[c]?.getD undef = .pointer (some ⟨g, 0, none⟩) := by simpa using hp
  simp only [results, h]
  simp [hp2, asAddr, tag_load hb]

set_option maxHeartbeats 2000000 in
theorem takeTag_any (A : Option Addr) (xs : List Int) (c : Nat) (hx : Bytes8 xs) (hl : xs.length ≤ maxLen) (hcap : xs.length ≤ c) (w : World) (hh : Holds w A xs) :
    Calls Try.prog 52 #[.slice A xs.length c] w fun e w' => e = tagE (takeTagF xs) ∧ Keeps w w' := by
  unfold maxLen at hl
  by_cases h0 : xs.length = 0
  · have hz : takeTagF xs = ((0, 0), 0, 3) := by unfold takeTagF; rw [if_pos h0]
    rw [hz, h0]
    go_enter Try.func52, Try.ntmps52
    go_wp2
    refine bodyPost_ret (results_tag3 rfl rfl (Blk.new _ _ _)) rfl ?_
    exact ⟨rfl, (Keeps.refl _).alloc _⟩
  · obtain ⟨b, o, rfl, hcs⟩ := hh.cells (by omega)
    have k0 := hcs 0 (by omega)
    rw [Nat.add_zero] at k0
    have hx0 := bytes8_getD hx 0
    obtain ⟨hx1, hx2⟩ := hx0
    have ha := u8_and31 _ hx1 hx2
    have hnz : 0 < xs.length := by omega
    have hz := takeTagF_pos h0
    have kA := (hh.keeps ((Keeps.refl w).alloc (.cells #[.int .i64 0, .int .i64 0] 52))).cell_in (k := 0) hnz
    rw [Nat.add_zero] at kA
    have HH := hide hh
    clear hcs hh h0
    generalize hq : xs.getD 0 0 = q at *
    generalize hn : xs.length = n at *
    by_cases hlow : q % 32 ≠ 31
    · rw [if_pos hlow] at hz
      rw [hz]
      clear hz
      go_enter Try.func52, Try.ntmps52
      go_wp2
      go_region
      go_wp2
      refine bodyPost_ret (results_tag3 rfl rfl (Blk.new _ _ _).drew) rfl ?_
      exact ⟨rfl, ((Keeps.refl _).alloc _).drew⟩
    · rw [if_neg hlow] at hz
      have e0 : (q % 32 != 31) = false := by rw [bne_eq_false_iff_eq]; omega
      have hds : (xs.drop 1).length = n - 1 := by rw [List.length_drop, hn]
      have hxd : Bytes8 (xs.drop 1) := fun x m => hx x (List.mem_of_mem_drop m)
      have hG : ∀ w', Keeps w w' → Calls Try.prog 33 #[.slice (if c = 1 then some ⟨b, o, none⟩ else (some (⟨b, o, none⟩ : Addr)).map (·.add 1)) (n - 1) (c - 1)] w' fun e w'' => e = .returned (.tuple #[.int .u64 (takeG 0 0 (xs.drop 1)).1, .int .i64 (takeG 0 0 (xs.drop 1)).2.1, .int .i64 (takeG 0 0 (xs.drop 1)).2.2]) ∧ w' = w'' := fun w' hk => by
        have := takeGroups_any _ (xs.drop 1) (c - 1) hxd (by unfold maxLen; omega) w' (((unhide HH).from_ (m := 1) (c := c) (by omega) (by omega)).keeps hk)
        rwa [hds] at this
      have hrd := fun h => takeG_is hxd h
      rw [hds] at hrd
      generalize takeG 0 0 (xs.drop 1) = r at *
      obtain ⟨v, k, e⟩ := r
      simp only at hz hG hrd
      by_cases hc1 : c = 1
      · subst hc1
        obtain rfl : n = 1 := by omega
        rw [if_pos rfl] at hG
        simp only [Nat.sub_self] at hG
        have HG := hide hG
        clear hG
        by_cases he : e = 0
        · subst he
          obtain ⟨m, rfl, hm1, hm2, _, hv0, hv1⟩ := hrd rfl
          omega
        · have HZ : Hid (takeTagF xs = ((0, 0), 0, e)) := by rw [if_pos he] at hz; exact hz
          have e1 : (e != 0) = true := by rw [bne_iff_ne]; exact he
          clear hz hlow hxd hds hx hrd he
          go_enter Try.func52, Try.ntmps52
          go_wp2_with fail
          go_region
          go_wp2_with fail
          refine (unhide HG _ ((Keeps.refl w).alloc _).drew).mono ?_
          rintro e2 w1 ⟨rfl, rfl⟩
          go_wp2
          rw [unhide HZ]
          refine bodyPost_ret (results_tag3 rfl rfl (Blk.new _ _ _).drew) rfl ?_
          exact ⟨rfl, ((Keeps.refl _).alloc _).drew⟩
      · rw [if_neg hc1] at hG
        simp only [Option.map_some, add_one_at] at hG
        have HG := hide hG
        clear hG
        by_cases he : e = 0
        · subst he
          obtain ⟨m, rfl, hm1, hm2, _, hv0, hv1⟩ := hrd rfl
          by_cases hr : v < 31 ∨ 268435456 < v
          · have HZ : Hid (takeTagF xs = ((0, 0), 0, 4)) := by rw [if_neg (by simp), if_pos hr] at hz; exact hz
            clear hz hlow hxd hds hx hrd
            rcases hr with hr | hr
            all_goals
              go_enter Try.func52, Try.ntmps52
              go_wp2_with fail
              go_region
              go_wp2_with fail
              refine (unhide HG _ ((Keeps.refl w).alloc _).drew).mono ?_
              rintro e2 w1 ⟨rfl, rfl⟩
              go_wp2
              rw [unhide HZ]
              refine bodyPost_ret (results_tag3 rfl rfl (Blk.new _ _ _).drew) rfl ?_
              exact ⟨rfl, ((Keeps.refl _).alloc _).drew⟩
          · have HZ : Hid (takeTagF xs = ((q / 64, v), 1 + (m : Int), 0)) := by rw [if_neg (by simp), if_neg hr] at hz; exact hz
            have hr1 : 31 ≤ v := by omega
            have hr2 : v ≤ 268435456 := by omega
            clear hz hlow hxd hds hx hrd hr
            go_enter Try.func52, Try.ntmps52
            go_wp2_with fail
            go_region
            go_wp2_with fail
            refine (unhide HG _ ((Keeps.refl w).alloc _).drew).mono ?_
            rintro e2 w1 ⟨rfl, rfl⟩
            go_wp2
            rw [unhide HZ]
            refine bodyPost_ret (results_tag3 rfl rfl (Blk.new _ _ _).drew) rfl ?_
            exact ⟨rfl, ((Keeps.refl _).alloc _).drew⟩
        · have HZ : Hid (takeTagF xs = ((0, 0), 0, e)) := by rw [if_pos he] at hz; exact hz
          have e1 : (e != 0) = true := by rw [bne_iff_ne]; exact he
          clear hz hlow hxd hds hx hrd he
          go_enter Try.func52, Try.ntmps52
          go_wp2_with fail
          go_region
          go_wp2_with fail
          refine (unhide HG _ ((Keeps.refl w).alloc _).drew).mono ?_
          rintro e2 w1 ⟨rfl, rfl⟩
          go_wp2
          rw [unhide HZ]
          refine bodyPost_ret (results_tag3 rfl rfl (Blk.new _ _ _).drew) rfl ?_
          exact ⟨rfl, ((Keeps.refl _).alloc _).drew⟩
end Go.Proofs.Ytpogpjnbgdbpfaa
