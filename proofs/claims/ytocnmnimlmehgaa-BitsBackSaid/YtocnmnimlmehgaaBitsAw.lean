/- Writer.Octets as awake calls it. -/
import Derived.Test.YtocnmnimlmehgaaBitsB
namespace Go.Proofs.Ytocnmnimlmehgaa
open Go.ChangeShapes Go.WideShapes Go.ChangeAt Go.RowKit

theorem own_keeps_ {w w' : World} {base : Nat} {e : TypeId} {size : Nat} {v : Value} {n : Nat} {xs : List Value} (h : w.ownsRow base e size v n xs) (hk : Keeps w w') : w'.ownsRow base e size v n xs := own_kept h fun b hb => hk.block b (h.lt b hb).2
theorem fr_blk {g b : Nat} {row : Option Nat} {w w' : World} {t : TypeId} {cs : Array Value} (h : Fr g row w w') (hb : Blk w b t cs) (hg : b ≠ g) (hr : row ≠ some b) : Blk w' b t cs := (h.2.2.2.2 b hb.lt hg hr).trans hb

set_option maxRecDepth 100000 in
set_option maxHeartbeats 2000000 in
theorem octets255_any (g base n m room c P B : Nat) (N : Int) (A : Option Addr) (w : World) (hb : base ≤ w.heap.size) (hW : WrV base w g N n m room A c) (hr0 : 0 < room) (hr1 : room < 8) (hn : n ≤ 1000)
    (hP : Blk w P 23 #[.slice (some ⟨B, 0, none⟩) 1 1, .slice none 0 0]) (hB : Blk w B 5 #[.int .u8 255]) (hPg : P ≠ g) (hPr : rowOf A ≠ some P) :
    Calls Try.prog 13 #[.pointer (some ⟨g, 0, none⟩), .slice (some ⟨P, 0, none⟩) 2 2] w fun e w' => e = .returned (.tuple #[]) ∧ BitsR base w g N 255 n 8 A 0 w' := by
  have HBI := hide (bits_any 255 8 g base N n m room 8 A c (by omega) (by omega) (by omega) (by omega) w hb hW hr1)
  have h8 := hW.1
  have hw1 : w.cell? ⟨g, 1, none⟩ = some (.int .i64 n) := hW.2.1.cell 1
  have hp0 : w.cell? ⟨P, 0, none⟩ = some (.slice (some ⟨B, 0, none⟩) 1 1) := hP.cell 0
  have hb0 : w.cell? ⟨B, 0, none⟩ = some (.int .u8 255) := hB.cell 0
  have e1 : ((n : Int) % 8 == 0) = false := by rw [beq_eq_false_iff_ne]; omega
  have HP := hide hP
  clear hW hP hB
  go_enter Try.func13, Try.ntmps13
  go_wp2
  go_loopw [12] (fun i wr => (i = .int .i64 0 ∧ wr = w) ∨ ((i = .int .i64 1 ∨ i = .int .i64 2) ∧ BitsR base w g N 255 n 8 A 0 wr)) (fun i _ => (3 - intOf i).toNat)
  case atStart => exact .inl ⟨rfl, rfl⟩
  case round =>
    rcases hrel with ⟨rfl, rfl⟩ | ⟨rfl | rfl, hR⟩
    · go_wp2
      go_loopw [43] (fun j wr' => (j = .int .i64 0 ∧ wr' = wr) ∨ (j = .int .i64 1 ∧ BitsR base wr g N 255 n 8 A 0 wr')) (fun j _ => (2 - intOf j).toNat)
      case atStart => exact .inl ⟨rfl, rfl⟩
      case round =>
        rcases hrel with ⟨rfl, rfl⟩ | ⟨rfl, hR⟩
        · go_wp2_with fail
          with_reducible refine (unhide HBI).mono ?_
          rintro e w3 ⟨rfl, hR⟩
          have HR := hide hR
          clear hR
          go_wp2
          exact ⟨.inr ⟨rfl, unhide HR⟩, by simp [intOf]⟩
        · have HR := hide hR
          clear hR
          go_wp2
          exact ⟨.inr ⟨.inl rfl, unhide HR⟩, by simp [intOf]⟩
    · have HR := hide hR
      obtain ⟨n2, m2, room2, A2, c2, hW2, _, _, hn2, hfr, _⟩ := hR
      have h82 := hW2.1
      have hw2 : wr.cell? ⟨g, 1, none⟩ = some (.int .i64 n2) := hW2.2.1.cell 1
      have hp1 : wr.cell? ⟨P, 1, none⟩ = some (.slice none 0 0) := (fr_blk hfr (unhide HP) hPg hPr).cell 1
      have e2 : ((n2 : Int) % 8 == 0) = false := by rw [beq_eq_false_iff_ne]; omega
      clear hW2 hfr
      go_wp2
      go_loopw [43] (fun j wr' => j = .int .i64 0 ∧ wr' = wr) (fun j _ => (2 - intOf j).toNat)
      case atStart => exact ⟨rfl, rfl⟩
      case round =>
        obtain ⟨rfl, rfl⟩ := hrel
        go_wp2
        exact ⟨.inr ⟨.inr rfl, unhide HR⟩, by simp [intOf]⟩
    · have HR := hide hR
      clear hR
      go_wp2
      go_end0
      exact ⟨rfl, unhide HR⟩
theorem fr_keeps {g : Nat} {row : Option Nat} {w wA wB : World} (hk : Keeps w wA) (h : Fr g row wA wB) (hg : w.heap.size ≤ g) (hrow : ∀ b, row = some b → w.heap.size ≤ b) : Keeps w wB := by
  obtain ⟨h1, h2, h3, h4, h5⟩ := h
  refine ⟨h1.trans hk.os, h2.trans hk.tape, h3.trans hk.output, Nat.le_trans hk.size h4, fun b hb => (h5 b (Nat.lt_of_lt_of_le hb hk.size) (by omega) (fun e => by have := hrow b e; omega)).trans (hk.block b hb)⟩
theorem WrV.alloc_ {base : Nat} {w : World} {g : Nat} {N : Int} {n m room : Nat} {A : Option Addr} {c : Nat} (h : WrV base w g N n m room A c) (o : Obj) : WrV base (w.alloc o) g N n m room A c := ⟨h.1, h.2.1.alloc o, h.2.2.alloc o⟩
theorem WrV.row_lt {base : Nat} {w : World} {g : Nat} {N : Int} {n m room : Nat} {A : Option Addr} {c : Nat} (h : WrV base w g N n m room A c) : ∀ b, rowOf A = some b → base ≤ b ∧ b < w.heap.size := fun b e => h.2.2.lt b ((own_row rfl).trans e)

set_option maxRecDepth 100000 in
set_option maxHeartbeats 2000000 in
theorem awake01_any (w : World) : Calls Try.prog 9 #[] w fun e w' => e = .returned (.bool true) ∧ Keeps w w' := by
  have h0 : WrV w.heap.size (w.alloc (.cells #[.slice none 0 0, .int .i64 0] 25)) w.heap.size 0 0 0 0 none 0 := ⟨rfl, Blk.new _ _ _, by simpa [lo] using World.ownsRow_nil _ _ _ _⟩
  have HB := hide (bits_any 5 3 w.heap.size w.heap.size 0 0 0 0 3 none 0 (by omega) (by omega) (by omega) (by omega) _ (by rw [World.size_alloc]; omega) h0 (by omega))
  have HK0 := hide ((Keeps.refl w).alloc (.cells #[.slice none 0 0, .int .i64 0] 25))
  clear h0
  go_enter Try.func9, Try.ntmps9
  go_wp2_with fail
  with_reducible refine (unhide HB).mono ?_
  rintro e w1 ⟨rfl, n1, m1, room1, A1, c1, hW1, hr1, _, hn1, hf1, hm1⟩
  have hk1 := fr_keeps (unhide HK0) hf1 (Nat.le_refl _) (fun b e => by cases e)
  obtain rfl : n1 = 3 := by omega
  have h81 := hW1.1
  obtain rfl : m1 = 1 := by omega
  obtain rfl : room1 = 5 := by omega
  rw [show tot 0 5 3 / 2 ^ 0 = 5 from by decide] at hW1
  have hrl := hW1.row_lt
  have hW2 := (hW1.alloc_ (.cells #[.int .u8 255] 5)).alloc_ (.cells #[.slice (some ⟨w1.heap.size, 0, none⟩) 1 1, .slice none 0 0] 23)
  have hgl := hW1.2.1.lt
  have hBb := (Blk.new w1 5 #[.int .u8 255]).alloc (.cells #[.slice (some ⟨w1.heap.size, 0, none⟩) 1 1, .slice none 0 0] 23)
  have hPb := Blk.new (w1.alloc (.cells #[.int .u8 255] 5)) 23 #[.slice (some ⟨w1.heap.size, 0, none⟩) 1 1, .slice none 0 0]
  rw [World.size_alloc] at hPb
  have hk2 := (hk1.alloc (.cells #[.int .u8 255] 5)).alloc (.cells #[.slice (some ⟨w1.heap.size, 0, none⟩) 1 1, .slice none 0 0] 23)
  have HO := hide (octets255_any w.heap.size w.heap.size 3 1 5 c1 (w1.heap.size + 1) w1.heap.size 5 A1 _ hk2.size hW2 (by omega) (by omega) (by omega) hPb hBb (by omega) (fun e => by have := (hrl _ e).2; omega))
  have HK2 := hide hk2
  have HRL := hide hrl
  clear hk2 hW2 hW1 hPb hBb hk1 hf1 hm1 hrl
  go_wp2_with fail
  with_reducible refine (unhide HO).mono ?_
  rintro e w3 ⟨rfl, n3, m3, room3, A3, c3, hW3, hr3, _, hn3, hf3, hm3⟩
  have hk3 := fr_keeps (unhide HK2) hf3 (Nat.le_refl _) (fun b e => (unhide HRL b e).1)
  obtain rfl : n3 = 11 := by omega
  have h83 := hW3.1
  obtain rfl : m3 = 2 := by omega
  obtain rfl : room3 = 5 := by omega
  have HBY := hide (bytes_any w.heap.size w.heap.size _ 11 2 5 A3 c3 (by omega) w3 hW3)
  rw [show lo 2 (tot 5 255 8 / 2 ^ 0 * 2 ^ 5) = [191, 224] from by decide] at HBY
  have hg31 : w3.cell? ⟨w.heap.size, 1, none⟩ = some (.int .i64 11) := hW3.2.1.cell 1
  have HW3 := hide hW3
  have HK3 := hide hk3
  clear hW3 hk3 hf3 hm3
  go_wp2_with fail
  with_reducible refine (unhide HBY).mono ?_
  rintro e w4 ⟨C, c4, rfl, hc4, hf4⟩
  obtain ⟨b, o, rfl, hcs⟩ := by
    have hh := hf4.holds
    exact (show ∃ b o, C = some ⟨b, o, none⟩ ∧ w4.cell? ⟨b, o, none⟩ = some (.int .u8 191) ∧ w4.cell? ⟨b, o + 1, none⟩ = some (.int .u8 224) from by
      obtain ⟨b, o, e, h0⟩ := hh.at_ (k := 0) (by simp)
      obtain ⟨b2, o2, e2, h1⟩ := hh.at_ (k := 1) (by simp)
      rw [e] at e2
      injection e2 with e2; injection e2 with e3 e4
      subst e3; subst e4
      exact ⟨b, o, e, by simpa using h0, by simpa using h1⟩)
  obtain ⟨k0, k1⟩ := hcs
  have HLEN := hide (len_any w.heap.size w.heap.size _ 11 2 5 A3 c3 w4 ⟨(unhide HW3).1, (unhide HW3).2.1.keeps hf4.2, own_keeps_ (unhide HW3).2.2 hf4.2⟩)
  have HK4 := hide ((unhide HK3).trans hf4.2)
  clear hf4
  simp only [List.length_cons, List.length_nil] at hc4 ⊢
  go_wp2_with fail
  with_reducible refine (unhide HLEN).mono ?_
  rintro e w5 ⟨rfl, rfl⟩
  go_wp2
  go_ret
  exact ⟨rfl, unhide HK4⟩
end Go.Proofs.Ytocnmnimlmehgaa
