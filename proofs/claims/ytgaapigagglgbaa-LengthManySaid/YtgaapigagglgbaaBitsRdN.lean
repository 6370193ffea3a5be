/- The contract of source.next. -/
import Derived.Test.YtgaapigagglgbaaBitsRd0
namespace Go.Proofs.Ytgaapigagglgbaa
open Go.ChangeShapes Go.WideShapes Go.ChangeAt Go.RowKit

/-- The cells of a source, with what stands behind it in its block. -/
def srcCells (A : Option Addr) (L c at_ : Nat) (rest : List Value) : Array Value := (Value.slice A L c :: Value.int .i64 (at_ : Nat) :: rest).toArray
theorem src_set (A : Option Addr) (L c at_ : Nat) (rest : List Value) (at2 : Nat) : (srcCells A L c at_ rest).setIfInBounds 1 (.int .i64 (at2 : Nat)) = srcCells A L c at2 rest := by simp [srcCells]
theorem Holds.fr {w w' : World} {A : Option Addr} {xs : List Int} {g : Nat} {row : Option Nat} (h : Holds w A xs) (hf : Fr g row w w') (hA : ∀ b, rowOf A = some b → b ≠ g ∧ row ≠ some b) : Holds w' A xs := by
  refine ⟨h.1, fun hn => ?_⟩
  obtain ⟨ad, e, hb, hc⟩ := h.2 hn
  refine ⟨ad, e, Nat.lt_of_lt_of_le hb hf.2.2.2.1, fun j u hu => ?_⟩
  obtain ⟨h1, h2⟩ := hA ad.block (by rw [e]; rfl)
  exact (World.cell?_of_block (a := ad.add j) (by rw [block_of_add]; exact hf.2.2.2.2 _ hb h1 h2)).trans (hc j u hu)

theorem piece_eq2 (v : Int) (j k : Nat) (h0 : 0 ≤ v) (h1 : v ≤ 4294967295) (hk : k ≤ 8) : bits .and .u32 (v / 2 ^ j) (2 ^ k - 1) = v / 2 ^ j % 2 ^ k := by
  have h := piece_eq v j k h0 h1 hk
  have p1 := two_pos k
  have p2 := pow2_le k hk
  rwa [Int.emod_eq_of_lt (by omega) (by omega)] at h

set_option maxRecDepth 100000 in
set_option maxHeartbeats 4000000 in
theorem next_any (g : Nat) (t : TypeId) (A : Option Addr) (xs : List Int) (c at0 n0 : Nat) (rest : List Value) (w : World) (hb : Blk w g t (srcCells A xs.length c at0 rest)) (hh : Holds w A xs) (hx : B8 xs)
    (hA : ∀ b, rowOf A = some b → b ≠ g) (hl : xs.length ≤ 10000000) (h32 : n0 ≤ 32) (hn : at0 + n0 ≤ 8 * xs.length) :
    Calls Try.prog 66 #[.pointer (some ⟨g, 0, none⟩), .int .i64 (n0 : Nat)] w fun e w' => e = .returned (.int .u32 (rd xs at0 n0)) ∧ Blk w' g t (srcCells A xs.length c (at0 + n0) rest) ∧ Fr g none w w' := by
  have HB := hide hb
  have HH := hide hh
  have HX := hide hx
  have HA := hide hA
  have HZ := hide (rd_zero xs at0)
  clear hb hh hx hA
  generalize hL : xs.length = L at *
  have HL := hide hL
  clear hL
  go_enter Try.func66, Try.ntmps66
  go_wp2
  go_loopw [1, 5] (fun n v wr => ∃ j r : Nat, j + r = n0 ∧ n = .int .i64 r ∧ v = .int .u32 (rd xs at0 j) ∧ Blk wr g t (srcCells A L c (at0 + j) rest) ∧ Fr g none w wr) (fun n _ _ => (intOf n).toNat)
  case atStart => exact ⟨0, n0, by omega, rfl, by rw [unhide HZ], unhide HB, Fr.refl _ _ _⟩
  case round =>
    obtain ⟨j, r, hjr, rfl, rfl, hb, hfr⟩ := hrel
    by_cases hr : 0 < r
    · obtain ⟨room, i, hroom, hroom8, hat⟩ : ∃ room i : Nat, 1 ≤ room ∧ room ≤ 8 ∧ at0 + j = 8 * i + (8 - room) := ⟨8 - (at0 + j) % 8, (at0 + j) / 8, by omega, by omega, by omega⟩
      have hi : i < L := by omega
      obtain ⟨b, o, rfl, hc⟩ := (((unhide HH).fr hfr (fun b e => ⟨unhide HA b e, fun h => by cases h⟩))).at_ (k := i) (by rw [unhide HL]; exact hi)
      have hgb : g ≠ b := fun e => unhide HA b rfl e.symm
      have hxr := getD_range xs (unhide HX) i (by rw [unhide HL]; exact hi)
      obtain ⟨hgc, hgf, hgl⟩ := hb.facts
      have hg0 : wr.cell? ⟨g, 0, none⟩ = some (.slice (some ⟨b, o, none⟩) L c) := hgc 0
      have hg1 : wr.cell? ⟨g, 1, none⟩ = some (.int .i64 (at0 + j : Nat)) := hgc 1
      have HB2 := hide hb
      have HFR := hide hfr
      have hbyte := fun k hk => rd_byte xs (unhide HX) i room k (by rw [unhide HL]; exact hi) hroom8 hk
      rw [← hat] at hbyte
      have hround := fun k hk hk2 => rd_round xs at0 j k (by rw [unhide HL]; exact hk) hk2
      have HBY := hide hbyte
      have HRO := hide hround
      clear hb hfr hgc hbyte hround
      generalize hP : at0 + j = P at *
      have HP := hide hP
      have e8 : (P : Int) % 8 = 8 - (room : Int) := by omega
      have e9 : (8 : Int) - (8 - (room : Int)) = room := by omega
      have eq8 : (P : Int) / 8 = (i : Nat) := by omega
      have eqn : P / 8 = i := by omega
      have hPl : P ≤ 80000000 := by omega
      have HPN := hide (show P + r = at0 + n0 from by omega)
      clear hP hat
      by_cases hk : room ≤ r
      · have hk' : (room : Int) ≤ r := by omega
        obtain ⟨r1, r2⟩ := unhide HRO room (by have := unhide HPN; omega) (by omega)
        have hby := unhide HBY room (Nat.le_refl _)
        rw [Nat.sub_self, Int.pow_zero, Int.ediv_one] at hby
        have hand := piece_eq2 (xs.getD i 0) 0 room (by omega) (by omega) (by omega)
        rw [Int.pow_zero, Int.ediv_one, ← hby] at hand
        have hv := rd_range xs P room
        have hvr0 := rd_range xs at0 j
        have hv0 := hvr0.1
        generalize rd xs P room = p at *
        generalize rd xs at0 j = v at *
        have HR2 := hide r2
        have HAND := hide hand
        clear hand
        have hpw := pow2_le room (by omega)
        clear hby hvr0
        generalize xs.getD i 0 = x at *
        go_wp2
        go_region
        go_wp2
        rw [unhide HAND, unhide HR2]
        refine ⟨⟨j + room, r - room, by omega, congrArg (Value.int IntKind.i64) (by omega), rfl, ?_, ?_⟩, by simp [intOf]; omega⟩
        · have := (unhide HB2).set_ 1 (.int .i64 ((P + room : Nat) : Int))
          rw [src_set] at this
          rw [show at0 + (j + room) = P + room from by rw [← unhide HP]; omega]
          exact Blk.drew (by simpa using this)
        · exact ((unhide HFR).setCell _ _ (.inl rfl)).drew
      · have hk' : (r : Int) < room := by omega
        obtain ⟨r1, r2⟩ := unhide HRO r (by have := unhide HPN; omega) (by omega)
        have hby := unhide HBY r (by omega)
        have hand := piece_eq2 (xs.getD i 0) (room - r) r (by omega) (by omega) (by omega)
        rw [← hby] at hand
        have hv := rd_range xs P r
        have hvr0 := rd_range xs at0 j
        have hv0 := hvr0.1
        generalize rd xs P r = p at *
        generalize rd xs at0 j = v at *
        have HR2 := hide r2
        have HAND := hide hand
        clear hand
        have hpw := pow2_le r (by omega)
        clear hby hvr0
        generalize xs.getD i 0 = x at *
        go_wp2
        go_region
        go_wp2
        rw [unhide HAND, unhide HR2]
        refine ⟨⟨j + r, r - r, by omega, congrArg (Value.int IntKind.i64) (by omega), rfl, ?_, ?_⟩, by simp [intOf]; omega⟩
        · have := (unhide HB2).set_ 1 (.int .i64 ((P + r : Nat) : Int))
          rw [src_set] at this
          rw [show at0 + (j + r) = P + r from by rw [← unhide HP]; omega]
          exact Blk.drew (by simpa using this)
        · exact ((unhide HFR).setCell _ _ (.inl rfl)).drew
    · obtain rfl : r = 0 := by omega
      obtain rfl : j = n0 := by omega
      go_wp2
      go_ret
      exact ⟨rfl, hb, hfr⟩
end Go.Proofs.Ytgaapigagglgbaa
