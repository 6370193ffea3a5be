/- The reference's Writer: a list of zeros and ones. -/
import Derived.Test.YtgaapigagglgbaaBitsOct1
namespace Go.Proofs.Ytgaapigagglgbaa
open Go.ChangeShapes Go.WideShapes Go.ChangeAt Go.RowKit

/-- The n bits of N, the highest first. -/
def bl : Nat → Int → List Int
  | 0, _ => []
  | n + 1, N => bl n (N / 2) ++ [N % 2]
theorem bl_length (n : Nat) : ∀ N, (bl n N).length = n := by
  induction n with
  | zero => intro N; rfl
  | succ n ih => intro N; simp [bl, ih]
theorem bl_bytes (n : Nat) : ∀ N, B8 (bl n N) := by
  induction n with
  | zero => intro N x hx; simp [bl] at hx
  | succ n ih =>
    intro N x hx
    simp only [bl, List.mem_append, List.mem_singleton] at hx
    rcases hx with hx | rfl
    · exact ih _ x hx
    · omega
theorem bl_one (n : Nat) (N b : Int) (h0 : 0 ≤ b) (h1 : b ≤ 1) : bl n N ++ [b] = bl (n + 1) (N * 2 + b) := by
  simp only [bl]
  rw [show (N * 2 + b) / 2 = N from by omega, show (N * 2 + b) % 2 = b from by omega]
theorem bl_getD (n : Nat) : ∀ (N : Int) (i : Nat), i < n → (bl n N).getD i 0 = N / 2 ^ (n - 1 - i) % 2 := by
  induction n with
  | zero => intro N i h; omega
  | succ n ih =>
    intro N i hi
    simp only [bl]
    rcases Nat.lt_or_ge i n with h | h
    · rw [List.getD_eq_getElem?_getD, List.getElem?_append_left (by rw [bl_length]; exact h), ← List.getD_eq_getElem?_getD, ih _ i h, Int.ediv_ediv_of_nonneg (by omega)]
      rw [show n + 1 - 1 - i = (n - 1 - i) + 1 from by omega, Int.pow_succ, Int.mul_comm]
    · obtain rfl : i = n := by omega
      simp [bl_length]
/-- The reference's writer at g holds the n bits of N; its list lies at A, its own, from base on. -/
def RefV (base : Nat) (wr : World) (g : Nat) (N : Int) (n : Nat) (A : Option Addr) (c : Nat) : Prop :=
  Blk wr g 37 #[.slice A n c] ∧ wr.ownsRow base 5 1 (.slice A n c) n ((bl n N).map (Value.int .u8))
/-- .. behind some calls, from a world on. -/
def RSt (base : Nat) (w : World) (g : Nat) (A0 : Option Addr) (N : Int) (n : Nat) (wr : World) : Prop := ∃ A c, RefV base wr g N n A c ∧ Fr g (rowOf A0) w wr ∧ Moved w A0 A
def RWS (base : Nat) (wr : World) (g : Nat) (N : Int) (n : Nat) : Prop := ∃ A c, RefV base wr g N n A c
theorem RSt.ws {base : Nat} {w wr : World} {g : Nat} {A0 : Option Addr} {N : Int} {n : Nat} (h : RSt base w g A0 N n wr) : RWS base wr g N n := by
  obtain ⟨A, c, h1, _⟩ := h
  exact ⟨A, c, h1⟩
theorem RSt.fr {base : Nat} {w wr : World} {g : Nat} {A0 : Option Addr} {N : Int} {n : Nat} (h : RSt base w g A0 N n wr) : Fr g (rowOf A0) w wr := by
  obtain ⟨A, c, h1, h2, _⟩ := h
  exact h2
theorem RSt.start {base : Nat} {w : World} {g : Nat} {A0 : Option Addr} {N : Int} {n c : Nat} (h : RefV base w g N n A0 c) : RSt base w g A0 N n w := ⟨A0, c, h, Fr.refl _ _ _, .inl rfl⟩
theorem own_row_ne {w : World} {base : Nat} {A : Option Addr} {m c : Nat} {xs : List Value} (h : w.ownsRow base 5 1 (.slice A m c) m xs) {g' : Nat} {t : TypeId} {cs : Array Value} (hb : Blk w g' t cs) (ht : 5 ≠ t) : rowOf A ≠ some g' := fun e => by
  rcases h.2 with ⟨h, _⟩ | ⟨b, _, cur, h, _, hcur, _⟩
  · injection h with h1; subst h1; cases e
  · injection h with h1; subst h1
    injection e with e
    change b = g' at e
    subst e
    unfold Blk at hb
    rw [hcur] at hb
    injection hb with hb; injection hb with _ h2; exact ht h2
theorem RefV.row_lt {base : Nat} {w : World} {g : Nat} {N : Int} {n : Nat} {A : Option Addr} {c : Nat} (h : RefV base w g N n A c) : ∀ b, rowOf A = some b → base ≤ b ∧ b < w.heap.size := fun b e => h.2.lt b ((own_row rfl).trans e)
theorem RefV.fr {base : Nat} {w w' : World} {g g' : Nat} {row' : Option Nat} {N : Int} {n : Nat} {A : Option Addr} {c : Nat} (h : RefV base w g N n A c) (hf : Fr g' row' w w') (h1 : g ≠ g') (h2 : row' ≠ some g)
    (h3 : rowOf A ≠ some g') (h4 : ∀ b, rowOf A = some b → row' ≠ some b) : RefV base w' g N n A c := by
  refine ⟨fr_blk hf h.1 h1 h2, own_kept h.2 fun b e => ?_⟩
  rw [own_row rfl] at e
  exact hf.2.2.2.2 b (h.row_lt b e).2 (fun e2 => h3 (e2 ▸ e)) (h4 b e)
theorem RWS.keeps {base : Nat} {w w' : World} {g : Nat} {N : Int} {n : Nat} (h : RWS base w g N n) (hk : Keeps w w') : RWS base w' g N n := by
  obtain ⟨A, c, h1, h2⟩ := h
  exact ⟨A, c, h1.keeps hk, own_keeps_ h2 hk⟩

/-- One bit more. -/
theorem ref_append {base g n c : Nat} {N b : Int} {A A0 : Option Addr} {w wr w3 : World} {v' : Value} (hb0 : 0 ≤ b) (hb1 : b ≤ 1) (hg : Blk wr g 37 #[.slice A n c]) (hownA : wr.ownsRow base 5 1 (.slice A n c) n ((bl n N).map (Value.int .u8))) (hfr : Fr g (rowOf A0) w wr) (hmv : Moved w A0 A)
    (hown : w3.ownsRow base 5 1 v' (n + 1) ((bl n N).map (Value.int .u8) ++ [.int .u8 b])) (hgr : (wr.alloc (.cells #[.int .u8 b] 5)).grownBy w3 (Value.slice A n c).ownBlock)
    (hat : v'.ownBlock = (Value.slice A n c).ownBlock ∨ v'.ownBlock = some (wr.alloc (.cells #[.int .u8 b] 5)).heap.size) :
    ∃ A3 c3, v' = .slice A3 (n + 1) c3 ∧ w3.cell? ⟨g, 0, none⟩ = some (.slice A n c) ∧ w3.frozen? ⟨g, 0, none⟩ = false ∧ RSt base w g A0 (N * 2 + b) (n + 1) (w3.setCell ⟨g, 0, none⟩ v') := by
  have hne := own_row_ne hownA hg (by decide)
  have hG3 := (hg.alloc (.cells #[.int .u8 b] 5)).grown hgr (fun e => hne ((own_row rfl).symm.trans e.symm))
  have hl : (bl n N).map (Value.int .u8) ++ [.int .u8 b] = (bl (n + 1) (N * 2 + b)).map (Value.int .u8) := by
    rw [← bl_one n N b hb0 hb1, List.map_append]; rfl
  rw [hl] at hown
  obtain ⟨A3, c3, rfl, _⟩ := own_form hown
  rw [own_row rfl, own_row rfl, World.size_alloc] at hat
  have hne3 : rowOf A3 ≠ some g := by
    rcases hat with h | h
    · rw [h]; exact hne
    · rw [h]; intro e; injection e with e; have := hg.lt; omega
  refine ⟨A3, c3, rfl, hG3.cell 0, hG3.frozen 0, A3, c3, ⟨by simpa using hG3.set_ 0 (.slice A3 (n + 1) c3), own_kept hown fun x e => ?_⟩, ?_, ?_⟩
  · rw [own_row rfl] at e
    exact Below.heap_setCell _ ⟨g, 0, none⟩ _ x (by rintro rfl; exact hne3 e)
  · refine ((hfr.alloc _).grown hgr ?_).setCell _ _ (.inl rfl)
    intro x e
    rw [own_row rfl] at e
    exact hmv.row x e
  · have hsz := hfr.2.2.2.1
    rcases hat with h | h
    · rcases hmv with h2 | ⟨x, h2, hx⟩
      · exact .inl (h.trans h2)
      · exact .inr ⟨x, h.trans h2, hx⟩
    · exact .inr ⟨_, h, by omega⟩

theorem and_one32 (v : Int) (q : Nat) (h0 : 0 ≤ v) (h1 : v ≤ 4294967295) : bits .and .u32 (v / 2 ^ q) 1 = v / 2 ^ q % 2 := by
  have := piece_eq v q 1 h0 h1 (by omega)
  rw [show ((2 : Int) ^ 1 - 1) % 4294967296 = 1 from by decide, show (2 : Int) ^ 1 = 2 from by decide] at this
  exact this

set_option maxRecDepth 100000 in
set_option maxHeartbeats 2000000 in
theorem refBits_st (v k : Int) (K : Nat) {base : Nat} {w wr0 : World} {g : Nat} {A0 : Option Addr} {N : Int} {n : Nat} (hS : RSt base w g A0 N n wr0) (hb : base ≤ w.heap.size) (hv0 : 0 ≤ v) (hv1 : v ≤ 4294967295) (hK : max 0 (min k 32) = (K : Int)) (hn : n ≤ 10000000) :
    Calls Try.prog 68 #[.pointer (some ⟨g, 0, none⟩), .int .u32 v, .int .i64 k] wr0 fun e w' => e = .returned (.tuple #[]) ∧ RSt base w g A0 (tot N v K) (n + K) w' := by
  obtain ⟨i0, hi0, hz0, hz1, hz2⟩ := info_parts u8_info
  have HS := hide (show RSt base w g A0 (tot N v K / 2 ^ K) (n + K - K) wr0 from by rw [tot_start, Nat.add_sub_cancel]; exact hS)
  have hK32 : K ≤ 32 := by omega
  have HK := hide hK
  clear hS hK
  go_enter Try.func68, Try.ntmps68
  go_wp2
  all_goals first
    | (exfalso; omega)
    | skip
  all_goals
    go_loopw [6] (fun i wr => ∃ (r : Nat) (z : Int), r ≤ K ∧ i = .int .i64 z ∧ Hid (z = (r : Int) - 1) ∧ RSt base w g A0 (tot N v K / 2 ^ r) (n + K - r) wr) (fun i _ => (intOf i + 1).toNat)
    case atStart => exact ⟨K, _, Nat.le_refl _, rfl, hide (by have := unhide HK; omega), unhide HS⟩
    case round =>
      obtain ⟨r, z, hr, rfl, hz, hR⟩ := hrel
      by_cases h0 : 0 < r
      · obtain ⟨q, rfl⟩ : ∃ q, r = q + 1 := ⟨r - 1, by omega⟩
        obtain rfl : z = (q : Int) := by have := unhide hz; omega
        have hts := tot_step N v K (q + 1) 1 (by omega) hr
        rw [Nat.add_sub_cancel, show (2 : Int) ^ 1 = 2 from by decide] at hts
        have HTS := hide hts
        have hb0 := Int.emod_nonneg (v / 2 ^ q) (show (2 : Int) ≠ 0 by omega)
        have hb1 := Int.emod_lt_of_pos (v / 2 ^ q) (show (0 : Int) < 2 by omega)
        have hand := and_one32 v q hv0 hv1
        obtain ⟨A, c, ⟨hg, hown⟩, hfr, hmv⟩ := hR
        have hbw := hfr.2.2.2.1
        have hg0 : wr.cell? ⟨g, 0, none⟩ = some (.slice A (n + K - (q + 1)) c) := hg.cell 0
        have hown1 := hown.alloc (.cells #[.int .u8 (v / 2 ^ q % 2)] 5)
        have hnew : (wr.alloc (.cells #[.int .u8 (v / 2 ^ q % 2)] 5)).ownsRow wr.heap.size 5 1 (.slice (some ⟨wr.heap.size, 0, none⟩) 1 1) 1 [.int .u8 (v / 2 ^ q % 2)] := by
          simpa using World.ownsRow_lit (base := wr.heap.size) (e := 5) (size := 1) wr #[.int .u8 (v / 2 ^ q % 2)] 1 (Nat.le_refl _) (by simp only [maxLen]; omega) (by simp)
        have hrd := Reads.of_own hnew
        have HRD := hide hrd
        have HOWN1 := hide hown1
        have HG := hide hg
        have HOWN := hide hown
        have HFR := hide hfr
        have HMV := hide hmv
        clear hg hown hfr hmv hown1 hnew hrd hts
        generalize tot N v K / 2 ^ (q + 1) = M at *
        generalize hnn : n + K - (q + 1) = nn at *
        have hnl : nn ≤ 10000032 := by omega
        have HNN := hide hnn
        clear hnn
        generalize v / 2 ^ q % 2 = b at *
        go_wp2_with (at_builtin; refine wpList_append_any _ rfl (.tmp 20) (.tmp 27) _ rfl base 5 i0 _ 1 1 Try.underlying28 hi0 hz0 hz1 hz2 rfl (by omega) _ nn _ rfl (unhide HOWN1) _ _ 1 1 [.int .u8 b] rfl (unhide HRD) (by intro u hu; simp at hu; subst hu; rfl) (by simp only [maxLen]; omega) (by omega) (by simp; omega) ?_; intro v' w3 hown3 hg3 hat3; obtain ⟨A3, c3, rfl, hc3, hf3, hS3⟩ := ref_append hb0 (by omega) (unhide HG) (unhide HOWN) (unhide HFR) (unhide HMV) hown3 hg3 hat3; have HS3 := hide hS3; clear hS3 hown3 hg3 hat3)
        refine ⟨⟨q, _, by omega, rfl, hide rfl, ?_⟩, by simp [intOf]⟩
        have := unhide HS3
        rw [unhide HTS] at this
        rw [show n + K - q = nn + 1 from by have := unhide HNN; omega]
        exact this
      · have hzn : z < 0 := by have := unhide hz; omega
        obtain rfl : r = 0 := by omega
        have HR := hide hR
        clear hR h0 hr
        go_wp2
        go_end0
        have := unhide HR
        rw [Int.pow_zero, Int.ediv_one, Nat.sub_zero] at this
        exact ⟨rfl, this⟩
end Go.Proofs.Ytgaapigagglgbaa
