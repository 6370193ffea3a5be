/- The contract of Writer.Bits. -/
import Derived.Test.YtgaapigagglgbaaBitsNum
import Derived.Deep.RegionHeld3
namespace Go.Proofs.Ytgaapigagglgbaa
open Go.ChangeShapes Go.WideShapes Go.ChangeAt Go.RowKit

theorem within_any (n m : Int) (w : World) : Calls Try.prog 55 #[.int .i64 n, .int .i64 m] w fun e w' => e = .returned (.int .i64 (min (max n 0) m)) ∧ w' = w := by
  go_enter Try.func55, Try.ntmps55
  go_wp2
  all_goals
    go_ret
    exact ⟨ret_int (by omega), rfl⟩
theorem bitsNil_any (v k : Int) (w : World) : Calls Try.prog 35 #[.pointer none, .int .u32 v, .int .i64 k] w fun e w' => e = .returned (.tuple #[]) ∧ w' = w := by
  go_enter Try.func35, Try.ntmps35
  go_wp2
  refine bodyPost_ret (results_none rfl _ _ _) rfl ?_
  exact ⟨rfl, rfl⟩

theorem own_kept {w w' : World} {base : Nat} {e : TypeId} {size : Nat} {v : Value} {n : Nat} {xs : List Value} (h : w.ownsRow base e size v n xs) (hb : ∀ b, v.ownBlock = some b → w'.heap[b]? = w.heap[b]?) : w'.ownsRow base e size v n xs := by
  refine ⟨h.1, ?_⟩
  rcases h.2 with hn | ⟨g, cap, cur, rfl, hbb, hgg, rest⟩
  · exact .inl hn
  · exact .inr ⟨g, cap, cur, rfl, hbb, (hb g rfl).trans hgg, rest⟩
/-- The writer at g holds the n bits of N; its octets, in the slice A, are its own, from base on. -/
def WrV (base : Nat) (wr : World) (g : Nat) (N : Int) (n m room : Nat) (A : Option Addr) (c : Nat) : Prop :=
  8 * m = n + room ∧ Blk wr g 32 #[.slice A m c, .int .i64 n] ∧ wr.ownsRow base 5 1 (.slice A m c) m ((lo m (N * 2 ^ room)).map (Value.int .u8))
def rowOf (A : Option Addr) : Option Nat := A.map (·.block)
/-- What a call on the writer at g keeps: all but the writer and its octets. -/
def Fr (g : Nat) (row : Option Nat) (w w' : World) : Prop :=
  w'.os = w.os ∧ w'.tape = w.tape ∧ w'.output = w.output ∧ w.heap.size ≤ w'.heap.size ∧ ∀ b, b < w.heap.size → b ≠ g → row ≠ some b → w'.heap[b]? = w.heap[b]?
/-- Its octets lie where they lay, or in new memory. -/
def Moved (w : World) (A A' : Option Addr) : Prop := rowOf A' = rowOf A ∨ ∃ b, rowOf A' = some b ∧ w.heap.size ≤ b
theorem own_row {v : Value} {A : Option Addr} {n c : Nat} (h : v = .slice A n c) : v.ownBlock = rowOf A := by
  subst h; cases A <;> rfl

theorem own_last {w : World} {base : Nat} {A : Option Addr} {M c : Nat} {X : Int} (h : w.ownsRow base 5 1 (.slice A M c) M ((lo M X).map (Value.int .u8))) (hM : 0 < M) :
    ∃ b, A = some ⟨b, 0, none⟩ ∧ base ≤ b ∧ b < w.heap.size ∧ w.cell? ⟨b, M - 1, none⟩ = some (.int .u8 (X % 256)) ∧ w.frozen? ⟨b, M - 1, none⟩ = false ∧ M ≤ c ∧ ∃ cur, w.heap[b]? = some (.cells cur 5 (0, 0)) := by
  obtain ⟨b, cap, hv, hb, hlt⟩ := h.form hM
  injection hv with h1 h2 h3
  subst h1
  subst h3
  refine ⟨b, rfl, hb, hlt, ?_, h.frozenAt _, ?_, ?_⟩
  · rw [h.cellAt (M - 1) (by omega), List.getElem?_map]
    have hl : M - 1 < (lo M X).length := by rw [lo_length]; omega
    have := lo_last M hM X
    rw [List.getElem?_eq_getElem hl]
    rw [List.getD, List.getElem?_eq_getElem hl] at this
    simp at this
    simp [this]
  · rcases h.2 with ⟨e, _⟩ | ⟨_, _, _, e, _, _, h1, _⟩
    · simp at e
    · injection e with _ _ e3; omega
  · rcases h.2 with ⟨e, _⟩ | ⟨b', _, cur, e, _, h1, _⟩
    · simp at e
    · injection e with e1 _ _; injection e1 with e1; injection e1 with e1; subst e1; exact ⟨cur, h1⟩
theorem wr_step {base : Nat} {w : World} {g b c n M room k : Nat} {N p : Int} (h8 : 8 * M = n + room) (hr : room ≤ 8) (hk : k ≤ room) (hM : 0 < M) (h0 : 0 ≤ p) (h1 : p < 2 ^ k) (hbg : b ≠ g)
    (hb : Blk w g 32 #[.slice (some ⟨b, 0, none⟩) M c, .int .i64 n]) (ho : w.ownsRow base 5 1 (.slice (some ⟨b, 0, none⟩) M c) M ((lo M (N * 2 ^ room)).map (Value.int .u8))) :
    WrV base ((w.setCell ⟨b, M - 1, none⟩ (.int .u8 ((N * 2 ^ room) % 256 + p * 2 ^ (room - k)))).setCell ⟨g, 1, none⟩ (.int .i64 ((n : Int) + k))) g (N * 2 ^ k + p) (n + k) M (room - k) (some ⟨b, 0, none⟩) c := by
  obtain ⟨f1, f2, f3, f4, f5⟩ := room_free N p room k hr hk h0 h1
  refine ⟨by omega, ?_, ?_⟩
  · have := (hb.far (p := ⟨b, M - 1, none⟩) (fun e => hbg e.symm) (.int .u8 ((N * 2 ^ room) % 256 + p * 2 ^ (room - k)))).set_ 1 (.int .i64 ((n : Int) + k))
    simpa using this
  · have hs := (ho.stored (M - 1) (.int .u8 ((N * 2 ^ room) % 256 + p * 2 ^ (room - k)))).1
    rw [← List.map_set, lo_set_last M hM _ _ f1 f3, f5] at hs
    exact own_kept hs (fun b' e => Below.heap_setCell _ ⟨g, 1, none⟩ _ b' (by injection e with e; subst e; exact hbg))

theorem piece_eq (v : Int) (j k : Nat) (h0 : 0 ≤ v) (h1 : v ≤ 4294967295) (hk : k ≤ 8) : bits .and .u32 (v / 2 ^ j) ((2 ^ k - 1) % 4294967296) = v / 2 ^ j % 2 ^ k := by
  have p1 := two_pos k
  have p2 := pow2_le k hk
  have hq0 : 0 ≤ v / 2 ^ j := Int.ediv_nonneg h0 (Int.le_of_lt (two_pos j))
  have hq1 : v / 2 ^ j ≤ v := Int.ediv_le_self _ h0
  obtain ⟨x, hx⟩ := Int.eq_ofNat_of_zero_le hq0
  rw [show ((2 : Int) ^ k - 1) % 4294967296 = ((2 ^ k - 1 : Nat) : Int) from by
    rw [Int.emod_eq_of_lt (by omega) (by omega), Int.natCast_sub (Nat.one_le_two_pow), Int.natCast_pow]; rfl]
  have hkn : 2 ^ k - 1 < 4294967296 := by
    have : (2 : Nat) ^ k ≤ 256 := (by decide +kernel : ∀ j : Fin 9, (2 : Nat) ^ j.val ≤ 256) ⟨k, by omega⟩
    omega
  have := u32_and_nat x (2 ^ k - 1) (by omega) hkn
  rw [Nat.and_two_pow_sub_one_eq_mod] at this
  rw [hx]
  have e : ((x % 2 ^ k : Nat) : Int) = (x : Int) % 2 ^ k := by rw [Int.natCast_emod, Int.natCast_pow]; rfl
  rw [← e]
  exact this
theorem or_room (X y : Int) (room : Nat) (hr : room ≤ 8) (h0 : 0 ≤ X) (h1 : X ≤ 255) (hm : X % 2 ^ room = 0) (hy0 : 0 ≤ y) (hy1 : y < 2 ^ room) : bits .or .u8 X y = X + y := by
  have p2 := pow2_le room hr
  obtain ⟨a, rfl⟩ := Int.eq_ofNat_of_zero_le h0
  obtain ⟨b, rfl⟩ := Int.eq_ofNat_of_zero_le hy0
  have e1 : a % 2 ^ room = 0 := by
    have : ((a % 2 ^ room : Nat) : Int) = 0 := by rw [Int.natCast_emod, Int.natCast_pow]; exact hm
    omega
  have e2 : b < 2 ^ room := by
    have : ((b : Nat) : Int) < ((2 ^ room : Nat) : Int) := by rw [Int.natCast_pow]; exact hy1
    omega
  rw [u8_or_nat a b (by omega) (by omega), nat_join room a b e1 e2]
  omega

theorem Fr.refl (g : Nat) (row : Option Nat) (w : World) : Fr g row w w := ⟨rfl, rfl, rfl, Nat.le_refl _, fun _ _ _ _ => rfl⟩
theorem Fr.drew {g : Nat} {row : Option Nat} {w w' : World} (h : Fr g row w w') : Fr g row w w'.drew := ⟨h.1, h.2.1, h.2.2.1, h.2.2.2.1, h.2.2.2.2⟩
theorem Fr.setCell {g : Nat} {row : Option Nat} {w w' : World} (h : Fr g row w w') (p : Addr) (v : Value) (hp : p.block = g ∨ row = some p.block ∨ w.heap.size ≤ p.block) : Fr g row w (w'.setCell p v) := by
  obtain ⟨h1, h2, h3, h4, h5⟩ := h
  refine ⟨h1, h2, h3, by simpa [World.setCell] using h4, fun b hb hg hr => (Below.heap_setCell w' p v b ?_).trans (h5 b hb hg hr)⟩
  rintro rfl
  rcases hp with hp | hp | hp
  · exact hg hp
  · exact hr hp
  · omega
theorem Fr.grown {g : Nat} {row row' : Option Nat} {w w' w'' : World} (h : Fr g row w w') (hg : w'.grownBy w'' row') (hr : ∀ b, row' = some b → row = some b ∨ w.heap.size ≤ b) : Fr g row w w'' := by
  obtain ⟨h1, h2, h3, h4, h5⟩ := h
  refine ⟨hg.os.trans h1, hg.tape.trans h2, hg.output.trans h3, Nat.le_trans h4 hg.size, fun b hb hbg hbr => (hg.block b (by omega) ?_).trans (h5 b hb hbg hbr)⟩
  rintro e
  rcases hr b e.symm with h | h
  · exact hbr h
  · omega
theorem Fr.alloc {g : Nat} {row : Option Nat} {w w' : World} (h : Fr g row w w') (o : Obj) : Fr g row w (w'.alloc o) := h.grown (row' := none) (World.grownBy_alloc w' o none) (fun b e => by cases e)

theorem WrV.drew {base : Nat} {w : World} {g : Nat} {N : Int} {n m room : Nat} {A : Option Addr} {c : Nat} (h : WrV base w g N n m room A c) : WrV base w.drew g N n m room A c := ⟨h.1, h.2.1.drew, h.2.2.drew⟩
theorem moved_row {w : World} {A0 : Option Addr} {b : Nat} (h : Moved w A0 (some ⟨b, 0, none⟩)) : rowOf A0 = some b ∨ w.heap.size ≤ b := by
  rcases h with h | ⟨b', h, hb⟩
  · exact .inl h.symm
  · have h2 : some b = some b' := h
    injection h2 with h2
    subst h2
    exact .inr hb
theorem moved_step {w wr : World} {A0 A : Option Addr} {b : Nat} (hsz : w.heap.size ≤ wr.heap.size) (h : Moved w A0 A) (h3 : rowOf A = some b ∨ wr.heap.size ≤ b) : Moved w A0 (some ⟨b, 0, none⟩) := by
  rcases h3 with h3 | h3
  · rcases h with h | ⟨b', h, hb⟩
    · exact .inl (h3.symm.trans h)
    · rw [h3] at h
      injection h with h
      subst h
      exact .inr ⟨b, rfl, hb⟩
  · exact .inr ⟨b, rfl, by omega⟩
theorem set_own {base : Nat} {w : World} {g b M c : Nat} {n : Int} {u S : Value} {xs : List Value} (hbg : b ≠ g) (hG : Blk w g 32 #[u, .int .i64 n]) (ho : w.ownsRow base 5 1 (.slice (some ⟨b, 0, none⟩) M c) M xs) :
    Blk (w.setCell ⟨g, 0, none⟩ S) g 32 #[S, .int .i64 n] ∧ (w.setCell ⟨g, 0, none⟩ S).ownsRow base 5 1 (.slice (some ⟨b, 0, none⟩) M c) M xs := by
  refine ⟨by simpa using hG.set_ 0 S, own_kept ho fun b' e => Below.heap_setCell _ ⟨g, 0, none⟩ _ b' ?_⟩
  injection e with e
  subst e
  exact hbg
theorem moved_own {w : World} {A0 A : Option Addr} {m c : Nat} (h : Moved w A0 A) : ∀ b, (Value.slice A m c).ownBlock = some b → rowOf A0 = some b ∨ w.heap.size ≤ b := fun b e => by
  rw [own_row rfl] at e
  rcases h with h | ⟨b', h, hb⟩
  · exact .inl (h.symm.trans e)
  · rw [h] at e
    injection e with e
    subst e
    exact .inr hb
/-- Behind the append of a zero. -/
theorem after_append {base g n m c : Nat} {N : Int} {A : Option Addr} {w w3 : World} {v' : Value} (hg : Blk w g 32 #[.slice A m c, .int .i64 n])
    (hown : w3.ownsRow base 5 1 v' (m + 1) ((lo m (N * 2 ^ 0)).map (Value.int .u8) ++ [.int .u8 0])) (hgr : (w.alloc (.cells #[.int .u8 0] 5)).grownBy w3 (Value.slice A m c).ownBlock)
    (hat : v'.ownBlock = (Value.slice A m c).ownBlock ∨ v'.ownBlock = some (w.alloc (.cells #[.int .u8 0] 5)).heap.size) (hne : rowOf A ≠ some g) :
    ∃ b c3, v' = .slice (some ⟨b, 0, none⟩) (m + 1) c3 ∧ w3.ownsRow base 5 1 (.slice (some ⟨b, 0, none⟩) (m + 1) c3) (m + 1) ((lo (m + 1) (N * 2 ^ 8)).map (Value.int .u8)) ∧ b ≠ g ∧ Blk w3 g 32 #[.slice A m c, .int .i64 n] ∧ (rowOf A = some b ∨ w.heap.size ≤ b) := by
  have hG3 := (hg.alloc (.cells #[.int .u8 0] 5)).grown hgr (fun e => hne ((own_row rfl).symm.trans e.symm))
  have hl : (lo m (N * 2 ^ 0)).map (Value.int .u8) ++ [.int .u8 0] = (lo (m + 1) (N * 2 ^ 8)).map (Value.int .u8) := by
    rw [show N * 2 ^ 8 = N * 2 ^ 0 * 256 from by omega, ← lo_zero_more, List.map_append]; rfl
  rw [hl] at hown
  obtain ⟨b, cap, hv, hb, hlt⟩ := hown.form (by omega)
  subst hv
  refine ⟨b, cap, rfl, hown, ?_, hG3, ?_⟩
  · rintro rfl
    obtain ⟨_, hb1, _, _, _, _, _, cur, hcur⟩ := own_last hown (by omega)
    injection hb1 with hb1; injection hb1 with hb1; subst hb1
    unfold Blk at hG3
    rw [hcur] at hG3
    injection hG3 with hG3; injection hG3 with _ ht; exact absurd ht (by decide)
  · rcases hat with h | h
    · exact .inl ((own_row rfl).symm.trans h.symm)
    · right
      have h2 : some b = some (w.alloc (.cells #[.int .u8 0] 5)).heap.size := h
      injection h2 with h2
      rw [h2, World.size_alloc]; omega
/-- The state of the loop. -/
def BitsR (base : Nat) (w : World) (g : Nat) (N0 v : Int) (n0 K : Nat) (A0 : Option Addr) (r : Nat) (wr : World) : Prop :=
  ∃ n m room A c, WrV base wr g (tot N0 v K / 2 ^ r) n m room A c ∧ room < 8 ∧ r ≤ K ∧ n + r = n0 + K ∧ Fr g (rowOf A0) w wr ∧ Moved w A0 A

set_option maxRecDepth 100000 in
set_option maxHeartbeats 4000000 in
theorem bits_any (v k : Int) (g base : Nat) (N0 : Int) (n0 m0 room0 K : Nat) (A0 : Option Addr) (c0 : Nat) (hv0 : 0 ≤ v) (hv1 : v ≤ 4294967295) (hK : min (max k 0) 32 = (K : Int)) (hn0 : n0 ≤ 10000000) (w : World) (hb : base ≤ w.heap.size) (hg : WrV base w g N0 n0 m0 room0 A0 c0) (hroom : room0 < 8) :
    Calls Try.prog 35 #[.pointer (some ⟨g, 0, none⟩), .int .u32 v, .int .i64 k] w fun e w' => e = .returned (.tuple #[]) ∧ BitsR base w g N0 v n0 K A0 0 w' := by
  obtain ⟨i0, hi0, hz0, hz1, hz2⟩ := info_parts u8_info
  have hst : BitsR base w g N0 v n0 K A0 K w := ⟨n0, m0, room0, A0, c0, by rw [tot_start]; exact hg, hroom, Nat.le_refl _, rfl, Fr.refl _ _ _, .inl rfl⟩
  have HST := hide hst
  have hK32 : K ≤ 32 := by omega
  have HK := hide hK
  clear hg hst hK
  go_enter Try.func35, Try.ntmps35
  go_wp2_with (go_at_call 55; refine (within_any _ _ _).mono ?_; rintro e w1 ⟨rfl, hw1⟩; rw [hw1, unhide HK]; clear hw1)
  go_loopw [2] (fun i wr => ∃ r : Nat, i = .int .i64 r ∧ BitsR base w g N0 v n0 K A0 r wr) (fun i _ => (intOf i).toNat)
  case atStart => exact ⟨K, rfl, unhide HST⟩
  case round =>
    obtain ⟨r, rfl, hR⟩ := hrel
    have HR := hide hR
    obtain ⟨n, m, room, A, c, hW, hroom2, hrK, hnr, hfr, hmv⟩ := hR
    obtain ⟨h8, hg, hown⟩ := hW
    have HFR := hide hfr
    have HMV := hide hmv
    have hsz : w.heap.size ≤ wr.heap.size := hfr.2.2.2.1
    clear hfr hmv
    obtain ⟨hgc, hgf, hgl⟩ := hg.facts
    have hg0 : wr.cell? ⟨g, 0, none⟩ = some (.slice A m c) := hgc 0
    have hg1 : wr.cell? ⟨g, 1, none⟩ = some (.int .i64 n) := hgc 1
    by_cases hr : 0 < r
    · have hts := fun k hk => tot_step N0 v K r k hk hrK
      generalize tot N0 v K / 2 ^ r = N at *
      have HTS := hide hts
      clear hts
      by_cases hz : room = 0
      · subst hz
        have e8 : (n : Int) % 8 = 0 := by omega
        have hne : rowOf A ≠ some g := fun e => by
          rcases hown.2 with ⟨h, _⟩ | ⟨b, _, cur, h, _, hcur, _⟩
          · injection h with h1; subst h1; cases e
          · injection h with h1; subst h1
            injection e with e
            change b = g at e
            subst e
            unfold Blk at hg
            rw [hcur] at hg
            injection hg with hg; injection hg with _ ht; exact absurd ht (by decide)
        have hown1 := hown.alloc (.cells #[.int .u8 0] 5)
        have hnew : (wr.alloc (.cells #[.int .u8 0] 5)).ownsRow wr.heap.size 5 1 (.slice (some ⟨wr.heap.size, 0, none⟩) 1 1) 1 [.int .u8 0] := by
          simpa using World.ownsRow_lit (base := wr.heap.size) (e := 5) (size := 1) wr #[.int .u8 0] 1 (Nat.le_refl _) (by simp only [maxLen]; omega) (by simp)
        have hrd := Reads.of_own hnew
        have hbs : base ≤ (wr.alloc (.cells #[.int .u8 0] 5)).heap.size := by simp; omega
        have HG := hide hg
        have HOWN := hide hown
        by_cases hk : 8 ≤ r
        · have hand := piece_eq v (r - 8) 8 hv0 hv1 (by omega)
          rw [show ((2 : Int) ^ 8 - 1) % 4294967296 = 255 from by decide] at hand
          have p0 := Int.emod_nonneg (v / 2 ^ (r - 8)) (Int.ne_of_gt (two_pos 8))
          have p1 := Int.emod_lt_of_pos (v / 2 ^ (r - 8)) (two_pos 8)
          have p2 := pow2_le 8 (by omega)
          obtain ⟨f1, f2, f3, f4, f5⟩ := room_free N (v / 2 ^ (r - 8) % 2 ^ 8) 8 8 (by omega) (by omega) p0 p1
          have hor := or_room ((N * 2 ^ 8) % 256) (v / 2 ^ (r - 8) % 2 ^ 8) 8 (by omega) (by omega) (by omega) f4 (by simpa using f1) (by simpa using f2)
          have x0 : 0 ≤ (N * 2 ^ 8) % 256 := by omega
          have x1 : (N * 2 ^ 8) % 256 ≤ 255 := by omega
          have hpw : v / 2 ^ (r - 8) % 2 ^ 8 ≤ 255 := by have := f3; simp at f2 ⊢; omega
          have hpw0 : 0 ≤ v / 2 ^ (r - 8) % 2 ^ 8 := by simpa using f1
          have hts := unhide HTS 8 (by omega)
          generalize v / 2 ^ (r - 8) % 2 ^ 8 = p at *
          have hp255 : p ≤ 255 := by omega
          have HP1 := hide p1
          have HTS2 := hide hts
          have HOWN1 := hide hown1
          have HRD := hide hrd
          clear f1 f2 f3 f4 f5 p1 p2 hown hts hown1 hrd hnew
          generalize hX : N * 2 ^ 8 % 256 = X at *
          have HX := hide hX
          clear hX
          go_wp2_with (at_builtin; refine wpList_append_any _ rfl (.tmp 27) (.tmp 28) _ rfl base 5 i0 _ 1 1 Try.underlying28 hi0 hz0 hz1 hz2 rfl (by omega) _ m _ rfl (unhide HOWN1) _ _ 1 1 [.int .u8 0] rfl (unhide HRD) (by intro u hu; simp at hu; subst hu; rfl) (by simp only [maxLen]; omega) (by omega) hbs ?_; intro v' w3 hown3 hg3 hat3; have haf := after_append (unhide HG) hown3 hg3 hat3 hne; obtain ⟨b, c3, rfl, hown4, hbg, hG3, hmv3⟩ := haf; obtain ⟨_, hb1, hbb, hbl, hbc, hbf, hMc, cur, hcur⟩ := own_last hown4 (by omega); injection hb1 with hb1; injection hb1 with hb1; subst hb1; rw [Nat.add_sub_cancel] at hbc hbf; obtain ⟨hgc3, hgf3, hgl3⟩ := hG3.facts; have hg30 : w3.cell? ⟨g, 0, none⟩ = some (.slice A m c) := hgc3 0; have hg31 : w3.cell? ⟨g, 1, none⟩ = some (.int .i64 n) := hgc3 1; have hgb : g ≠ b := fun e => hbg e.symm; have HG3 := hide hG3; have HOWN4 := hide hown4; have HGR := hide hg3; have HMV3 := hide hmv3; clear hG3 hown4 hown3 hg3 hat3 hmv3)
          rw [unhide HX] at hbc
          go_region
          go_wp2
          go_region
          go_wp2
          have hmv5 := moved_step hsz (unhide HMV) (unhide HMV3)
          obtain ⟨hb4, hown5⟩ := set_own (S := .slice (some ⟨b, 0, none⟩) (m + 1) c3) hbg (unhide HG3) (unhide HOWN4)
          have hfin := wr_step (k := 8) (by omega) (by omega) (by omega) (by omega) p0 (unhide HP1) hbg hb4 hown5
          rw [unhide HTS2, unhide HX, Nat.add_sub_cancel] at hfin
          refine ⟨⟨r - 8, congrArg (Value.int IntKind.i64) (by omega), n + 8, m + 1, 8 - 8, some ⟨b, 0, none⟩, c3, ?_, by omega, by omega, by omega, ?_, hmv5⟩, by simp [intOf]; omega⟩
          · exact WrV.drew (WrV.drew (by simpa using hfin))
          · exact ((((((unhide HFR).alloc _).grown (unhide HGR) (moved_own (unhide HMV))).setCell _ _ (.inl rfl)).setCell _ _ (.inr (moved_row hmv5))).setCell _ _ (.inl rfl)).drew.drew
        · have hk' : (r : Int) < 8 := by omega
          have hand := piece_eq v 0 r hv0 hv1 (by omega)
          rw [Int.pow_zero, Int.ediv_one] at hand
          have p0 := Int.emod_nonneg (v) (Int.ne_of_gt (two_pos r))
          have p1 := Int.emod_lt_of_pos (v) (two_pos r)
          have p2 := pow2_le r (by omega)
          obtain ⟨f1, f2, f3, f4, f5⟩ := room_free N (v % 2 ^ r) 8 r (by omega) (by omega) p0 p1
          have hor := or_room ((N * 2 ^ 8) % 256) (v % 2 ^ r * 2 ^ (8 - r)) 8 (by omega) (by omega) (by omega) f4 (by simpa using f1) (by simpa using f2)
          have x0 : 0 ≤ (N * 2 ^ 8) % 256 := by omega
          have x1 : (N * 2 ^ 8) % 256 ≤ 255 := by omega
          have hpw : v % 2 ^ r * 2 ^ (8 - r) ≤ 255 := by have := f3; simp at f2 ⊢; omega
          have hpw0 : 0 ≤ v % 2 ^ r * 2 ^ (8 - r) := by simpa using f1
          have hts := unhide HTS r (by omega)
          rw [Nat.sub_self, Int.pow_zero, Int.ediv_one] at hts
          generalize v % 2 ^ r = p at *
          have hp255 : p ≤ 255 := by omega
          have e11 : (p * 2 ^ (8 - r)) % 256 = p * 2 ^ (8 - r) := Int.emod_eq_of_lt hpw0 (by omega)
          have HP1 := hide p1
          have HTS2 := hide hts
          have HOWN1 := hide hown1
          have HRD := hide hrd
          clear f1 f2 f3 f4 f5 p1 p2 hown hts hown1 hrd hnew
          generalize hX : N * 2 ^ 8 % 256 = X at *
          have HX := hide hX
          clear hX
          go_wp2_with (at_builtin; refine wpList_append_any _ rfl (.tmp 27) (.tmp 28) _ rfl base 5 i0 _ 1 1 Try.underlying28 hi0 hz0 hz1 hz2 rfl (by omega) _ m _ rfl (unhide HOWN1) _ _ 1 1 [.int .u8 0] rfl (unhide HRD) (by intro u hu; simp at hu; subst hu; rfl) (by simp only [maxLen]; omega) (by omega) hbs ?_; intro v' w3 hown3 hg3 hat3; have haf := after_append (unhide HG) hown3 hg3 hat3 hne; obtain ⟨b, c3, rfl, hown4, hbg, hG3, hmv3⟩ := haf; obtain ⟨_, hb1, hbb, hbl, hbc, hbf, hMc, cur, hcur⟩ := own_last hown4 (by omega); injection hb1 with hb1; injection hb1 with hb1; subst hb1; rw [Nat.add_sub_cancel] at hbc hbf; obtain ⟨hgc3, hgf3, hgl3⟩ := hG3.facts; have hg30 : w3.cell? ⟨g, 0, none⟩ = some (.slice A m c) := hgc3 0; have hg31 : w3.cell? ⟨g, 1, none⟩ = some (.int .i64 n) := hgc3 1; have hgb : g ≠ b := fun e => hbg e.symm; have HG3 := hide hG3; have HOWN4 := hide hown4; have HGR := hide hg3; have HMV3 := hide hmv3; clear hG3 hown4 hown3 hg3 hat3 hmv3)
          rw [unhide HX] at hbc
          go_region
          go_wp2
          go_region
          go_wp2
          have hmv5 := moved_step hsz (unhide HMV) (unhide HMV3)
          obtain ⟨hb4, hown5⟩ := set_own (S := .slice (some ⟨b, 0, none⟩) (m + 1) c3) hbg (unhide HG3) (unhide HOWN4)
          have hfin := wr_step (k := r) (by omega) (by omega) (by omega) (by omega) p0 (unhide HP1) hbg hb4 hown5
          rw [unhide HTS2, unhide HX, Nat.add_sub_cancel] at hfin
          refine ⟨⟨0, congrArg (Value.int IntKind.i64) (by omega), n + r, m + 1, 8 - r, some ⟨b, 0, none⟩, c3, ?_, by omega, by omega, by omega, ?_, hmv5⟩, by simp [intOf]; omega⟩
          · exact WrV.drew (WrV.drew (by simpa using hfin))
          · exact ((((((unhide HFR).alloc _).grown (unhide HGR) (moved_own (unhide HMV))).setCell _ _ (.inl rfl)).setCell _ _ (.inr (moved_row hmv5))).setCell _ _ (.inl rfl)).drew.drew
      · obtain ⟨b, rfl, hbb, hbl, hbc, hbf, hMc, cur, hcur⟩ := own_last hown (by omega)
        have hbg : b ≠ g := by
          rintro rfl
          unfold Blk at hg
          rw [hcur] at hg
          injection hg with hg; injection hg with _ ht; exact absurd ht (by decide)
        have e8 : (n : Int) % 8 = 8 - (room : Int) := by omega
        have e9 : (8 : Int) - (8 - (room : Int)) = room := by omega
        have e10 : ((room : Int) == 8) = false := by rw [beq_eq_false_iff_ne]; omega
        by_cases hk : room ≤ r
        · have hk' : (room : Int) ≤ r := by omega
          have hand := piece_eq v (r - room) room hv0 hv1 (by omega)
          have p0 := Int.emod_nonneg (v / 2 ^ (r - room)) (Int.ne_of_gt (two_pos room))
          have p1 := Int.emod_lt_of_pos (v / 2 ^ (r - room)) (two_pos room)
          have p2 := pow2_le room (by omega)
          obtain ⟨f1, f2, f3, f4, f5⟩ := room_free N (v / 2 ^ (r - room) % 2 ^ room) room room (by omega) (by omega) p0 p1
          have hor := or_room ((N * 2 ^ room) % 256) (v / 2 ^ (r - room) % 2 ^ room) room (by omega) (by omega) (by omega) f4 (by simpa using f1) (by simpa using f2)
          have x0 : 0 ≤ (N * 2 ^ room) % 256 := by omega
          have x1 : (N * 2 ^ room) % 256 ≤ 255 := by omega
          have hpw : v / 2 ^ (r - room) % 2 ^ room ≤ 255 := by have := f3; have hp8 := pow2_le room (by omega); simp at f2 ⊢; omega
          have hpw0 : 0 ≤ v / 2 ^ (r - room) % 2 ^ room := by simpa using f1
          have hts := unhide HTS room (by omega)
          rw [show v / 2 ^ (r - room) % 2 ^ room = v / 2 ^ (r - room) % 2 ^ room from rfl] at hts
          generalize v / 2 ^ (r - room) % 2 ^ room = p at *
          have hp255 : p ≤ 255 := by omega
          have HP1 := hide p1
          have HG := hide hg
          have HOWN := hide hown
          have HTS2 := hide hts
          clear f1 f2 f3 f4 f5 p1 p2 hown hts
          go_wp2
          go_region
          go_wp2
          go_region
          go_wp2
          have hfin := wr_step (k := room) h8 (by omega) (by omega) (by omega) p0 (unhide HP1) hbg (unhide HG) (unhide HOWN)
          rw [unhide HTS2] at hfin
          refine ⟨⟨r - room, congrArg (Value.int IntKind.i64) (by omega), n + room, m, room - room, some ⟨b, 0, none⟩, c, ?_, by omega, by omega, by omega, ?_, unhide HMV⟩, by simp [intOf]; omega⟩
          · exact WrV.drew (WrV.drew (by simpa using hfin))
          · exact ((((unhide HFR).setCell _ _ (.inr (moved_row (unhide HMV)))).setCell _ _ (.inl rfl)).drew).drew
        · have hk' : (r : Int) < room := by omega
          have hand := piece_eq v 0 r hv0 hv1 (by omega)
          rw [Int.pow_zero, Int.ediv_one] at hand
          have p0 := Int.emod_nonneg (v) (Int.ne_of_gt (two_pos r))
          have p1 := Int.emod_lt_of_pos (v) (two_pos r)
          have p2 := pow2_le r (by omega)
          obtain ⟨f1, f2, f3, f4, f5⟩ := room_free N (v % 2 ^ r) room r (by omega) (by omega) p0 p1
          have hor := or_room ((N * 2 ^ room) % 256) (v % 2 ^ r * 2 ^ (room - r)) room (by omega) (by omega) (by omega) f4 (by simpa using f1) (by simpa using f2)
          have x0 : 0 ≤ (N * 2 ^ room) % 256 := by omega
          have x1 : (N * 2 ^ room) % 256 ≤ 255 := by omega
          have hpw : v % 2 ^ r * 2 ^ (room - r) ≤ 255 := by have := f3; have hp8 := pow2_le room (by omega); simp at f2 ⊢; omega
          have hpw0 : 0 ≤ v % 2 ^ r * 2 ^ (room - r) := by simpa using f1
          have hts := unhide HTS r (by omega)
          rw [Nat.sub_self, Int.pow_zero, Int.ediv_one] at hts
          generalize v % 2 ^ r = p at *
          have e11 : (p * 2 ^ (room - r)) % 256 = p * 2 ^ (room - r) := Int.emod_eq_of_lt hpw0 (by omega)
          have hp255 : p ≤ 255 := by omega
          have HP1 := hide p1
          have HG := hide hg
          have HOWN := hide hown
          have HTS2 := hide hts
          clear f1 f2 f3 f4 f5 p1 p2 hown hts
          go_wp2
          go_region
          go_wp2
          go_region
          go_wp2
          have hfin := wr_step (k := r) h8 (by omega) (by omega) (by omega) p0 (unhide HP1) hbg (unhide HG) (unhide HOWN)
          rw [unhide HTS2] at hfin
          refine ⟨⟨r - r, congrArg (Value.int IntKind.i64) (by omega), n + r, m, room - r, some ⟨b, 0, none⟩, c, ?_, by omega, by omega, by omega, ?_, unhide HMV⟩, by simp [intOf]; omega⟩
          · exact WrV.drew (WrV.drew (by simpa using hfin))
          · exact ((((unhide HFR).setCell _ _ (.inr (moved_row (unhide HMV)))).setCell _ _ (.inl rfl)).drew).drew
    · obtain rfl : r = 0 := by omega
      go_wp2
      go_end0
      exact ⟨rfl, unhide HR⟩
end Go.Proofs.Ytgaapigagglgbaa
