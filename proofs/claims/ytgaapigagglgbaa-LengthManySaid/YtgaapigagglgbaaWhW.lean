/- The writer of package whole: each method's contract. -/
import Derived.Test.YtgaapigagglgbaaWhNil
namespace Go.Proofs.Ytgaapigagglgbaa
open Go.ChangeShapes Go.WideShapes Go.ChangeAt Go.RowKit

set_option maxHeartbeats 1000000 in
theorem wBits_st (v k : Int) (J : Nat) {base : Nat} {w wr : World} {g : Nat} {A0 : Option Addr} {N : Int} {n : Nat} (hS : St base w g A0 N n wr) (hb : base ≤ w.heap.size) (hv0 : 0 ≤ v) (hv1 : v ≤ 18446744073709551615) (hJ : min (max k 0) 64 = (J : Int)) (hn : n ≤ 9000000) :
    Calls Try.prog 11 #[.pointer (some ⟨g, 0, none⟩), .int .u64 v, .int .i64 k] wr fun e w' => e = .returned (.tuple #[]) ∧ St base w g A0 (tot N v J) (n + J) w' := by
  have hJ64 : J ≤ 64 := by omega
  have HJ := hide hJ
  have H1 := hide (bits_st (v / 4294967296) ((J : Int) - 32) (J - 32) hS (Nat.le_trans hb hS.fr.2.2.2.1) (by omega) (by omega) (by omega) (by omega))
  have H2 := hide fun (w1 : World) (h : St base w g A0 (tot N (v / 4294967296) (J - 32)) (n + (J - 32)) w1) => bits_st (v % 4294967296) (J : Int) (min J 32) h (Nat.le_trans hb h.fr.2.2.2.1) (by omega) (by omega) (by omega) (by omega)
  clear hS hJ
  go_enter Try.func11, Try.ntmps11
  go_wp2_with (go_at_call 34; refine (wWithin_any _ _ _).mono ?_; rintro e w1 ⟨rfl, hw1⟩; rw [hw1, unhide HJ]; clear hw1)
  have ev : v / 4294967296 % 4294967296 = v / 4294967296 := by omega
  refine (unhide H1).mono ?_
  rintro e w1 ⟨rfl, hR⟩
  have HR := hide (unhide H2 _ hR)
  clear hR
  go_wp2_with fail
  refine (unhide HR).mono ?_
  rintro e w2 ⟨rfl, hR⟩
  have HF := hide hR
  clear hR
  go_wp2
  go_end0
  refine ⟨rfl, ?_⟩
  have := unhide HF
  rw [tot_64, show n + (J - 32) + min J 32 = n + J from by omega] at this
  exact this
theorem wLen_st {base : Nat} {wr : World} {g : Nat} {N : Int} {n : Nat} (h : WS base wr g N n) :
    Calls Try.prog 15 #[.pointer (some ⟨g, 0, none⟩)] wr fun e w' => e = .returned (.int .i64 (n : Nat)) ∧ w' = wr := by
  have H := hide (len_st h)
  clear h
  go_enter Try.func15, Try.ntmps15
  go_wp2_with fail
  with_reducible refine (unhide H).mono ?_
  rintro e w1 ⟨rfl, rfl⟩
  go_wp2
  go_ret
  exact ⟨rfl, rfl⟩
/-- The octets of n bits, one at least. -/
def octW (N : Int) (n : Nat) : List Int := if n = 0 then [0] else oct N n
theorem octW_bytes (N : Int) (n : Nat) : B8 (octW N n) := by
  unfold octW
  split
  · intro x hx; simp at hx; omega
  · exact oct_bytes N n
theorem octW_length (N : Int) (n : Nat) : (octW N n).length = (max n 1 + 7) / 8 := by
  unfold octW
  split
  · subst_vars; rfl
  · rw [oct_length]; congr 2; omega
theorem wBytes_st {base : Nat} {wr : World} {g : Nat} {N : Int} {n : Nat} (h : WS base wr g N n) (hn : n ≤ 70000000) :
    Calls Try.prog 18 #[.pointer (some ⟨g, 0, none⟩)] wr (GivesBytes 5 (octW N n) wr) := by
  have HL := hide (wLen_st h)
  have HB := hide (bytes_st h hn)
  clear h
  unfold octW
  by_cases h0 : n = 0
  · subst h0
    rw [if_pos rfl]
    have HO := hide (World.ownsRow_lit (base := wr.heap.size) (e := 5) (size := 1) wr #[.int .u8 0] 1 (Nat.le_refl _) (by simp only [maxLen]; omega) (by simp))
    have HK := hide ((Keeps.refl wr).alloc (.cells #[.int .u8 0] 5))
    go_enter Try.func18, Try.ntmps18
    go_wp2_with fail
    with_reducible refine (unhide HL).mono ?_
    rintro e w1 ⟨rfl, rfl⟩
    go_wp2
    go_ret
    exact gives_of rfl (by simp) (by simpa using unhide HO) (unhide HK)
  · rw [if_neg h0]
    have hn0 : (n : Int) ≠ 0 := by omega
    go_enter Try.func18, Try.ntmps18
    go_wp2_with fail
    with_reducible refine (unhide HL).mono ?_
    rintro e w1 ⟨rfl, rfl⟩
    go_wp2_with fail
    with_reducible refine (unhide HB).mono ?_
    rintro e w1 ⟨A, c, rfl, hc, hf⟩
    have HF := hide hf
    have HC := hide hc
    clear hf hc
    go_wp2
    go_ret
    exact ⟨A, c, rfl, unhide HC, unhide HF⟩
theorem Fr.keeps {g : Nat} {row : Option Nat} {w w' w'' : World} (h : Fr g row w w') (hk : Keeps w' w'') : Fr g row w w'' := by
  obtain ⟨h1, h2, h3, h4, h5⟩ := h
  exact ⟨hk.os.trans h1, hk.tape.trans h2, hk.output.trans h3, Nat.le_trans h4 hk.size, fun b hb hg hr => (hk.block b (by omega)).trans (h5 b hb hg hr)⟩
theorem own_fr {base : Nat} {g : Nat} {row : Option Nat} {w w' : World} {e : TypeId} {size : Nat} {v : Value} {n : Nat} {xs : List Value} (h : w.ownsRow base e size v n xs) (hf : Fr g row w w') (hg : g < base) (hr : ∀ b, row = some b → b < base) : w'.ownsRow base e size v n xs :=
  own_kept h fun b e => hf.2.2.2.2 b (h.lt b e).2 (by have := (h.lt b e).1; omega) (fun e2 => by have := hr b e2; have := (h.lt b e).1; omega)
set_option maxHeartbeats 1000000 in
theorem wOctets_any (xa : Option Addr) (xc l : Nat) (xs : List Int) {base : Nat} {wr : World} {g : Nat} {N : Int} {n m room c : Nat} {A : Option Addr} (hW : WrV base wr g N n m room A c) (hr : room < 8) (hb : base ≤ wr.heap.size) (hl : xs.length = l) (hx : B8 xs)
    (hst : ∀ w', Fr g (rowOf A) wr w' → Holds w' xa xs) (hn : n + 8 * l ≤ 10000000) :
    Calls Try.prog 39 #[.pointer (some ⟨g, 0, none⟩), .slice xa l xc] wr fun e w' => e = .returned (.tuple #[]) ∧ St base wr g A (appB N xs) (n + 8 * l) w' := by
  subst hl
  have HO := octets_st (some ⟨wr.heap.size, 0, none⟩) [(xa, xc, xs)] 1 1 (base := base) (w := wr.alloc (.cells #[.slice xa xs.length xc] 28)) (g := g) (A0 := A) (N := N) (n := n) rfl
    (St.start (hW.alloc_ _) hr) (by rw [World.size_alloc]; omega)
    (fun w' hf => by
      have hB : Blk w' wr.heap.size 28 #[.slice xa xs.length xc] := fr_blk hf (Blk.new _ _ _) (by have := hW.2.1.lt; omega) (fun e => by have := (hW.row_lt _ e).2; omega)
      refine .inr ⟨wr.heap.size, 0, rfl, hB.lt, ?_⟩
      intro i q hq
      match i with
      | 0 =>
        simp at hq
        subst hq
        exact ⟨hB.cell 0, hst w' (((Fr.refl g (rowOf A) wr).alloc _).trans hf (fun x e => .inl e)), hx⟩
      | j + 1 => simp at hq)
    (by simpa [flat] using hn) (by omega)
  have HK := hide ((Fr.refl g (rowOf A) wr).alloc (.cells #[.slice xa xs.length xc] 28))
  clear hW hst
  have hfl : flat [((xa, xc, xs) : Part)] = xs := by simp [flat]
  rw [hfl] at HO
  have HO2 := hide HO
  clear HO hfl
  generalize xs.length = l at *
  go_enter Try.func39, Try.ntmps39
  go_wp2_with fail
  refine (unhide HO2).mono ?_
  rintro e w1 ⟨rfl, hR⟩
  have HF := hide hR
  clear hR
  go_wp2
  go_end0
  exact ⟨rfl, St.step (unhide HK) (.inl rfl) (unhide HF)⟩
end Go.Proofs.Ytgaapigagglgbaa
