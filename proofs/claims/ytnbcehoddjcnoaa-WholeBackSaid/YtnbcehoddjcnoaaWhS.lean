/- A small number of package whole's writer; awake of layer 17; the walk of WholeNil. -/
import Derived.Test.YtnbcehoddjcnoaaWhW
namespace Go.Proofs.Ytnbcehoddjcnoaa
open Go.ChangeShapes Go.WideShapes Go.ChangeAt Go.RowKit

theorem uOct_bytes (v : Int) : B8 (uOct v) := by unfold uOct; exact lo_range _ _
/-- The bits of a small number. -/
def smN (N m : Int) : Int := if m < 64 then tot (tot N 0 1) m 6 else appB (tot (tot N 1 1) (uLen m) 8) (uOct m)
def smL (m : Int) : Nat := if m < 64 then 7 else 9 + 8 * uLen m
theorem smL_le (m : Int) : smL m ≤ 73 := by
  unfold smL
  have := (uLen_le m).2
  split <;> omega

theorem WrV.keeps_ {base : Nat} {w w' : World} {g : Nat} {N : Int} {n m room : Nat} {A : Option Addr} {c : Nat} (h : WrV base w g N n m room A c) (hk : Keeps w w') : WrV base w' g N n m room A c := ⟨h.1, h.2.1.keeps hk, own_keeps_ h.2.2 hk⟩
set_option maxHeartbeats 1000000 in
theorem wSmall_st (x m : Int) (hm : max x 0 = m) {base : Nat} {w wr : World} {g : Nat} {A0 : Option Addr} {N : Int} {n : Nat} (hS : St base w g A0 N n wr) (hb : base ≤ w.heap.size) (h1 : m ≤ 9223372036854775807) (hn : n ≤ 8000000) :
    Calls Try.prog 17 #[.pointer (some ⟨g, 0, none⟩), .int .i64 x] wr fun e w' => e = .returned (.tuple #[]) ∧ St base w g A0 (smN N m) (n + smL m) w' := by
  have hbw := hS.fr.2.2.2.1
  by_cases hlt : m < 64
  · have H1 := hide (wBit_st 0 hS hb (by omega))
    rw [if_pos rfl] at H1
    have H2 := hide fun (w1 : World) (h : St base w g A0 (tot N 0 1) (n + 1) w1) => wBits_st m 6 6 h hb (by omega) (by omega) (by omega) (by omega)
    unfold smN smL
    rw [if_pos hlt, if_pos hlt]
    clear hS
    have hm0 : 0 ≤ m := by omega
    go_enter Try.func17, Try.ntmps17
    go_wp2_with fail
    refine (unhide H1).mono ?_
    rintro e w1 ⟨rfl, hR⟩
    have HR := hide (unhide H2 _ hR)
    clear hR
    go_wp2_with fail
    refine (unhide HR).mono ?_
    rintro e w2 ⟨rfl, hR⟩
    have HF := hide hR
    clear hR
    go_wp2
    refine bodyPost_ret (results_none rfl _ _ _) rfl ?_
    exact ⟨rfl, unhide HF⟩
  · have hx0 : 0 ≤ m := by omega
    have hl8 := (uLen_le m).2
    obtain ⟨mm, room, A, c, hW, hr, hf, hmv⟩ := hS
    have HU := hide (unsigned_any m hx0 (by omega) wr)
    have HC : Hid (∀ (xa : Option Addr) (xc : Nat) (w1 : World), Fresh 5 wr w1 (.slice xa (uOct m).length xc) (uOct m) → ∀ w3 : World, St base w1 g A (tot (tot N 1 1) (uLen m) 8) (n + 1 + 8) w3 →
        Calls Try.prog 12 #[.pointer (some ⟨g, 0, none⟩), .slice xa (uLen m) xc] w3 fun e w' => e = .returned (.tuple #[]) ∧ St base w g A0 (appB (tot (tot N 1 1) (uLen m) 8) (uOct m)) (n + 1 + 8 + 8 * uLen m) w') := by
      intro xa xc w1 hF w3 h3
      obtain ⟨m3, room3, A3, c3, hW3, hr3, hf3, hm3⟩ := h3
      have hr1 : ∀ b, rowOf A = some b → b < wr.heap.size := fun b e => (hW.row_lt b e).2
      have hg1 : g < wr.heap.size := hW.2.1.lt
      have := wOctets_any xa xc (uLen m) (uOct m) hW3 hr3 (Nat.le_trans hb (Nat.le_trans hbw (Nat.le_trans hF.2.size hf3.2.2.2.1))) (uOct_length m) (uOct_bytes m)
        (fun w' hf4 => by
          have hfa := hf3.trans hf4 hm3.row
          exact Reads.of_own (own_fr hF.1 hfa hg1 hr1)) (by omega)
      refine this.mono ?_
      rintro e w4 ⟨rfl, h4⟩
      exact ⟨rfl, St.step (hf.keeps hF.2) hmv (St.step hf3 hm3 h4)⟩
    have HB := hide fun (w1 : World) (h : Keeps wr w1) => wBit_st 1 (St.start (hW.keeps_ h) hr) (Nat.le_trans hb (Nat.le_trans hbw h.size)) (by omega)
    rw [if_neg (by decide)] at HB
    have HB2 := hide fun (w1 : World) (h : Keeps wr w1) (w2 : World) (h2 : St base w1 g A (tot N 1 1) (n + 1) w2) => wBits_st (uLen m : Nat) 8 8 h2 (Nat.le_trans hb (Nat.le_trans hbw h.size)) (by omega) (by omega) (by omega) (by omega)
    unfold smN smL
    rw [if_neg hlt, if_neg hlt, show n + (9 + 8 * uLen m) = n + 1 + 8 + 8 * uLen m from by omega]
    clear hW hf hmv
    go_enter Try.func17, Try.ntmps17
    go_wp2_with fail
    refine (unhide HU).mono ?_
    rintro e w1 ⟨xa, xc, rfl, hc, hf⟩
    have HB3 := hide (unhide HB _ hf.2)
    have HB4 := hide (unhide HB2 _ hf.2)
    have HC2 := hide (unhide HC xa xc _ hf)
    clear hc hf HB HB2 HC
    rw [uOct_length] at *
    generalize hL : uLen m = L at *
    have HL := hide hL
    clear hL
    go_wp2_with fail
    refine (unhide HB3).mono ?_
    rintro e w2 ⟨rfl, hR⟩
    have HB5 := hide (unhide HB4 _ hR)
    clear hR
    go_wp2_with fail
    refine (unhide HB5).mono ?_
    rintro e w3 ⟨rfl, hR⟩
    have HC3 := hide (unhide HC2 _ hR)
    clear hR
    go_wp2_with fail
    refine (unhide HC3).mono ?_
    rintro e w4 ⟨rfl, hR⟩
    have HF := hide hR
    clear hR
    go_wp2
    go_end0
    have := unhide HF
    rw [← unhide HL] at this
    exact ⟨rfl, this⟩
theorem wh_new (w : World) (base : Nat) : WrV base (w.alloc (.cells #[.slice none 0 0, .int .i64 0] 27)) w.heap.size 0 0 0 0 none 0 := ⟨rfl, Blk.new _ _ _, by simpa [lo] using World.ownsRow_nil _ _ _ _⟩
set_option maxRecDepth 100000 in
set_option maxHeartbeats 2000000 in
theorem awake17_any (w : World) : Calls Try.prog 8 #[] w fun e w' => e = .returned (.bool true) ∧ Keeps w w' := by
  have HB := hide (wBetween_st 5 7 (St.start (wh_new w w.heap.size) (by omega)) (by rw [World.size_alloc]; omega) (by omega) (by omega) (by omega) (by omega) (by omega))
  rw [show Lib.bitLen (7 : Int).toNat = 3 from by decide] at HB
  have HK0 := hide ((Keeps.refl w).alloc (.cells #[.slice none 0 0, .int .i64 0] 27))
  go_enter Try.func8, Try.ntmps8
  go_wp2_with fail
  with_reducible refine (unhide HB).mono ?_
  rintro e w1 ⟨rfl, hS⟩
  have hk1 := fr_keeps (unhide HK0) hS.fr (Nat.le_refl _) (fun b e => by cases e)
  have HBY := hide (wBytes_st hS.ws (by omega))
  rw [show octW (tot 0 (min 5 7) 3) (0 + 3) = [160] from by decide] at HBY
  have HWS := hide hS.ws
  have HK1 := hide hk1
  clear hk1 hS
  go_wp2_with fail
  with_reducible refine (unhide HBY).mono ?_
  rintro e w2 ⟨A, c, rfl, hc, hf⟩
  have hk2 := hf.2
  have HK2 := hide ((unhide HK1).trans hk2)
  have HLN := hide (wLen_st ((unhide HWS).keeps hk2))
  have hh := hf.holds
  obtain ⟨b0, o0, rfl, hc0⟩ := hh.at_ (k := 0) (by simp)
  replace hc0 : w2.cell? ⟨b0, o0, none⟩ = some (.int .u8 160) := hc0
  clear hf hk2 hc hh
  go_wp2_with fail
  refine (unhide HLN).mono ?_
  rintro e w3 ⟨rfl, rfl⟩
  go_wp2
  go_ret
  exact ⟨rfl, unhide HK2⟩
end Go.Proofs.Ytnbcehoddjcnoaa
