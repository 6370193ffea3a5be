/- The walk of TlvTakes. -/
import Derived.Test.YtpogpjnbgdbpfaaTlvRefTake
import Derived.Test.YtpogpjnbgdbpfaaOwn
import Derived.Test.YtpogpjnbgdbpfaaKept
import Derived.Test.YtpogpjnbgdbpfaaSpoil
namespace Go.Proofs.Ytpogpjnbgdbpfaa
open Go.ChangeShapes Go.WideShapes Go.ChangeAt Go.RowKit

theorem own_holds_ {w : World} {g : Nat} {xs : List Int} {x : Int} (h : Blk w g 5 (OwnCells xs x)) : Holds w (some ⟨g, 0, none⟩) xs := by
  refine ⟨by simp, fun _ => ⟨_, rfl, h.lt, fun j u hu => ?_⟩⟩
  rw [add_at_, Nat.zero_add, h.cell]
  have hj : j < xs.length := by
    rcases Nat.lt_or_ge j xs.length with h1 | h1
    · exact h1
    · rw [List.getElem?_eq_none (by simpa using h1)] at hu; cases hu
  unfold OwnCells
  rw [List.getElem?_toArray, List.getElem?_append_left (by simpa using hj)]
  exact hu
theorem Wr.keeps_ {B : Nat} {w w' : World} {A : Option Addr} {xs : List Int} (h : Wr B w A xs.length) (hh : Holds w A xs) (hk : Keeps w w') : Wr B w' A xs.length := fun hn => by
  obtain ⟨g, rfl, hg, hf⟩ := h hn
  have hlt := hh.lt_ hn
  exact ⟨g, rfl, hg, fun i hi => (Below.frozen (p := ⟨g, i, none⟩) hk hlt).trans (hf i hi)⟩

theorem takeF_facts {xs : List Int} (hx : Bytes8 xs) : B8 (takeF xs).2.2.1 ∧ (takeF xs).2.2.1.length ≤ xs.length := by
  unfold takeF
  split
  · exact ⟨fun x h => absurd h (by simp), by simp⟩
  · split
    · exact ⟨fun x h => absurd h (by simp), by simp⟩
    · exact ⟨fun x h => hx x (List.mem_of_mem_drop (List.mem_of_mem_take h)), by simp only [List.length_take, List.length_drop]; omega⟩

set_option maxRecDepth 100000 in
set_option maxHeartbeats 4000000 in
theorem takes_any (A : Option Addr) (xs : List Int) (c : Nat) (hx : B8 xs) (hl : xs.length ≤ maxLen) (hcap : xs.length ≤ c) (w : World) (hh : Holds w A xs) :
    Calls Try.prog 11 #[.slice A xs.length c] w fun e w' => e = .returned (.bool true) ∧ Keeps w w' := by
  unfold maxLen at hl
  by_cases hbad : 3000 < xs.length
  · clear hh hx
    generalize xs.length = n at *
    go_enter Try.func11, Try.ntmps11
    go_wp2_with fail
    refine (awake03_any _).mono ?_
    rintro e w1 ⟨rfl, hk1⟩
    have HK1 := hide hk1
    clear hk1
    go_wp2
    go_ret
    exact ⟨rfl, unhide HK1⟩
  · have h1 : xs.length ≤ 3000 := by omega
    clear hbad
    have HOWN := hide (own_any A xs c 71 (by omega) w hh)
    have HH := hide hh
    have HX := hide hx
    have HTI : Hid (∀ g w', Holds w' (some ⟨g, 0, none⟩) xs → Calls Try.prog 43 #[.slice (some ⟨g, 0, none⟩) xs.length (xs.length + 3)] w' fun e w'' => e = headE (takeHeadF xs) ∧ Keeps w' w'') := fun g w' h => takeHead_any _ xs _ hx (by unfold maxLen; omega) (by omega) w' h
    have HRT : Hid (∀ w', Holds w' A xs → Calls Try.prog 44 #[.slice A xs.length c] w' fun e w'' => e = headE (takeHeadF xs) ∧ Keeps w' w'') := fun w' h => refTakeHead_any _ xs _ hx (by unfold maxLen; omega) hcap w' h
    have HTK : Hid (∀ g w', Holds w' (some ⟨g, 0, none⟩) xs → Calls Try.prog 45 #[.slice (some ⟨g, 0, none⟩) xs.length (xs.length + 3)] w' (GivesT5 (takeF xs) w')) := fun g w' h => take_any _ xs _ hx (by unfold maxLen; omega) (by omega) w' h
    have HRK : Hid (∀ w', Holds w' A xs → Calls Try.prog 46 #[.slice A xs.length c] w' (GivesT5 (takeF xs) w')) := fun w' h => refTake_any _ xs _ hx (by omega) hcap w' h
    have HKE : Hid (∀ g w', Blk w' g 5 (OwnCells xs 71) → Holds w' A xs → Calls Try.prog 28 #[.slice (some ⟨g, 0, none⟩) xs.length (xs.length + 3), .slice A xs.length c, .int .u8 71] w' fun e w'' => e = .returned (.bool true) ∧ Keeps w' w'') := fun g w' h2 h3 => kept_any g A xs c 71 (by omega) w' h2 h3
    have hfa := takeF_facts hx
    clear hh hx
    generalize takeHeadF xs = r at *
    obtain ⟨⟨cl, nu⟩, mm, ll, kk, ee⟩ := r
    unfold headE at HTI HRT
    generalize takeF xs = r2 at *
    obtain ⟨⟨cl2, nu2⟩, mm2, ys, kk2, ee2⟩ := r2
    unfold GivesT5 at HTK HRK
    simp only at HTI HRT HTK HRK hfa
    obtain ⟨hyb, hyl⟩ := hfa
    have hsb : ∀ (Z Y : Option Addr) (z y : Nat) (w' : World), Holds w' Z ys → Holds w' Y ys → Calls Try.prog 18 #[.slice Z ys.length z, .slice Y ys.length y] w' fun e w'' => e = .returned (.bool true) ∧ w' = w'' := fun Z Y z y w' h1 h2 => by
      have := sameBytes_any Z Y _ _ z y w' h1 h2 hyb hyb
      rwa [decide_eq_true rfl] at this
    have HSB := hide hsb
    have hsp : ∀ (Z : Option Addr) (z B : Nat) (w' : World), Holds w' Z ys → Wr B w' Z ys.length → Calls Try.prog 37 #[.slice Z ys.length z] w' fun e w'' => e = .returned (.tuple #[]) ∧ Below B w' w'' := fun Z z B w' h1 h2 => spoil_any Z ys z B w' h1 hyb h2 (by omega)
    have HSP := hide hsp
    clear hsb hsp hyb
    have hml : ∃ m, ys.length = m := ⟨_, rfl⟩
    obtain ⟨m, hm⟩ := hml
    have HM := hide hm
    simp only [hm] at HTK HRK HSB HSP
    clear hm hyl
    generalize hn : xs.length = n at *
    have HN := hide hn
    clear hn
    go_enter Try.func11, Try.ntmps11
    go_wp2_with fail
    with_reducible refine (unhide HOWN).mono ?_
    rintro e w1 ⟨g, rfl, hbg, hg, hk1⟩
    rw [unhide HN]
    have HIN := hide hbg
    have HK1 := hide hk1
    clear hbg hk1 hg
    go_wp2_with fail
    with_reducible refine (unhide HTI g _ (own_holds_ (unhide HIN))).mono ?_
    rintro e w2 ⟨rfl, hk2⟩
    have HK2 := hide hk2
    have HT1 := hide (Blk.new w2 52 #[.int .i64 cl, .int .i64 nu])
    clear hk2
    go_wp2_with fail
    with_reducible refine (unhide HRT _ ((unhide HH).keeps (((unhide HK1).trans (unhide HK2)).alloc _))).mono ?_
    rintro e w3 ⟨rfl, hk3⟩
    have HK3 := hide (((unhide HK2).alloc _).trans hk3)
    have HT1b := hide ((unhide HT1).keeps hk3)
    have HT2 := hide (Blk.new w3 52 #[.int .i64 cl, .int .i64 nu])
    clear hk3
    go_wp2_with fail
    with_reducible refine (unhide HTK g _ (own_holds_ ((unhide HIN).keeps ((unhide HK3).alloc _)))).mono ?_
    rintro e w4 ⟨C1, c1, rfl, hc1, hC1, hW1, hk4⟩
    have HKT := hide ((unhide HK3).alloc (.cells #[.int .i64 cl, .int .i64 nu] 52))
    have HK4 := hide hk4
    have HT1c := hide (((unhide HT1b).alloc (.cells #[.int .i64 cl, .int .i64 nu] 52)).keeps hk4)
    have HT2b := hide ((unhide HT2).keeps hk4)
    have HT3 := hide (Blk.new w4 52 #[.int .i64 cl2, .int .i64 nu2])
    have HC1 := hide hC1
    have HW1 := hide hW1
    clear hk4 hC1 hW1
    go_wp2_with fail
    with_reducible refine (unhide HRK _ ((unhide HH).keeps ((((unhide HK1).trans (unhide HKT)).trans (unhide HK4)).alloc _))).mono ?_
    rintro e w5 ⟨C2, c2, rfl, hc2, hC2, _, hk5⟩
    have HK5 := hide (((Keeps.refl w4).alloc (.cells #[.int .i64 cl2, .int .i64 nu2] 52)).trans hk5)
    have HT3b := hide ((unhide HT3).keeps hk5)
    have HT4 := hide (Blk.new w5 52 #[.int .i64 cl2, .int .i64 nu2])
    have HC2 := hide hC2
    clear hk5 hC2
    go_wp2_with fail
    refine (awake03_any _).mono ?_
    rintro e w6 ⟨rfl, hk6⟩
    have hk56 : Keeps w5 w6 := ((Keeps.refl w5).alloc _).trans hk6
    have hk46 : Keeps w4 w6 := (unhide HK5).trans hk56
    have hT1 := (unhide HT1c).keeps hk46
    have hT2 := (unhide HT2b).keeps hk46
    have hT3 := (unhide HT3b).keeps hk56
    have hT4 := (unhide HT4).keeps hk6
    have a10 : w6.cell? ⟨w2.heap.size, 0, none⟩ = some (.int .i64 cl) := hT1.cell 0
    have a11 : w6.cell? ⟨w2.heap.size, 1, none⟩ = some (.int .i64 nu) := hT1.cell 1
    have a20 : w6.cell? ⟨w3.heap.size, 0, none⟩ = some (.int .i64 cl) := hT2.cell 0
    have a21 : w6.cell? ⟨w3.heap.size, 1, none⟩ = some (.int .i64 nu) := hT2.cell 1
    have a30 : w6.cell? ⟨w4.heap.size, 0, none⟩ = some (.int .i64 cl2) := hT3.cell 0
    have a31 : w6.cell? ⟨w4.heap.size, 1, none⟩ = some (.int .i64 nu2) := hT3.cell 1
    have a40 : w6.cell? ⟨w5.heap.size, 0, none⟩ = some (.int .i64 cl2) := hT4.cell 0
    have a41 : w6.cell? ⟨w5.heap.size, 1, none⟩ = some (.int .i64 nu2) := hT4.cell 1
    have HC16 := hide ((unhide HC1).keeps hk46)
    have HC26 := hide ((unhide HC2).keeps hk56)
    have hw := (unhide HW1)
    rw [← unhide HM] at hw
    have hw6 := hw.keeps_ (unhide HC1) hk46
    rw [unhide HM] at hw6
    have HW6 := hide hw6
    have HKT6 := hide ((unhide HK4).trans hk46)
    clear hk6 hk56 hk46 hT1 hT2 hT3 hT4 hw hw6
    go_wp2_with fail
    with_reducible refine (unhide HSB C1 C2 c1 c2 _ (unhide HC16) (unhide HC26)).mono ?_
    rintro e w7 ⟨rfl, rfl⟩
    go_wp2_with fail
    with_reducible refine (unhide HSP C1 c1 _ _ (unhide HC16) (unhide HW6)).mono ?_
    rintro e w8 ⟨rfl, hbel⟩
    have hkT8 : Keeps (w3.alloc (.cells #[.int .i64 cl, .int .i64 nu] 52)) w8 := Below.trans (unhide HKT6) hbel
    have HK8 := hide (((unhide HK1).trans (unhide HKT)).trans hkT8)
    have HIN8 := hide ((unhide HIN).keeps ((unhide HKT).trans hkT8))
    clear hbel hkT8
    go_wp2_with fail
    with_reducible refine (unhide HKE g _ (unhide HIN8) ((unhide HH).keeps (unhide HK8))).mono ?_
    rintro e w9 ⟨rfl, hk9⟩
    have HK9 := hide ((unhide HK8).trans hk9)
    clear hk9
    go_wp2
    go_ret
    exact ⟨rfl, unhide HK9⟩
end Go.Proofs.Ytpogpjnbgdbpfaa
