/- The contract of tlv.Head. -/
import Derived.Test.YtpogpjnbgdbpfaaTlvLen
import Derived.Laws.Bits128
namespace Go.Proofs.Ytpogpjnbgdbpfaa
open Go.ChangeShapes Go.WideShapes Go.ChangeAt Go.RowKit

/-- A tag as a value. -/
abbrev tagV (cls num : Int) : Value := .agg #[.int .i64 cls, .int .i64 num]
/-- The first octet of a head, without the number. -/
def fB (cls : Int) (made : Bool) : Int := cls % 4 * 64 + (if made then 32 else 0)
def tOct (cls num : Int) (made : Bool) : List Int := if num < 31 then [fB cls made + num] else (fB cls made + 31) :: gOct num
/-- The octets of a head; the number and the length are not below 0. -/
def hOct (cls num : Int) (made : Bool) (l : Int) : List Int := tOct cls num made ++ lOct l

theorem i64_and3 (n : Int) : bits .and .i64 n 3 = n % 4 := by
  have h127 : (BitVec.ofInt 64 3).toNat = 2 ^ 2 - 1 := by decide
  have key : (BitVec.ofInt 64 n &&& BitVec.ofInt 64 3).toNat = (n % ((2 ^ 64 : Nat) : Int)).toNat % 2 ^ 2 := by
    rw [BitVec.toNat_and, BitVec.toNat_ofInt, h127, Nat.and_two_pow_sub_one_eq_mod]
  show IntKind.i64.wrap ((BitVec.ofInt 64 n &&& BitVec.ofInt 64 3).toNat : Nat) = n % 4
  rw [key, IntKind.wrap_i64]
  omega
theorem u8_or_low (a n : Int) (h0 : 0 ≤ a) (h1 : a ≤ 224) (hm : a % 32 = 0) (hn : 0 ≤ n) (hn2 : n ≤ 31) : bits .or .u8 a n = a + n := by
  obtain ⟨x, rfl⟩ := Int.eq_ofNat_of_zero_le h0
  obtain ⟨y, rfl⟩ := Int.eq_ofNat_of_zero_le hn
  rw [u8_or_nat x y (by omega) (by omega), nat_join 5 x y (by omega) (by omega)]
  omega
theorem u8_or_made (a : Int) (h0 : 0 ≤ a) (h1 : a ≤ 3) : bits .or .u8 (a * 64) 32 = a * 64 + 32 := by
  obtain ⟨x, rfl⟩ := Int.eq_ofNat_of_zero_le h0
  have := u8_or_nat (x * 64) 32 (by omega) (by omega)
  rw [nat_join 6 (x * 64) 32 (by omega) (by omega)] at this
  simpa using this
theorem fB_facts (cls : Int) (made : Bool) : 0 ≤ fB cls made ∧ fB cls made ≤ 224 ∧ fB cls made % 32 = 0 := by
  unfold fB; cases made <;> simp <;> omega
theorem grp_range8 (k : Nat) : ∀ v, ∀ x ∈ grp k v, 0 ≤ x ∧ x ≤ 255 := by
  induction k with
  | zero => intro v x hx; simp [grp] at hx
  | succ k ih =>
    intro v x hx
    simp only [grp, List.mem_append, List.mem_singleton] at hx
    rcases hx with hx | rfl
    · exact ih _ x hx
    · omega
theorem gOct_bytes8 (u : Int) : B8 (gOct u) := by
  intro x hx
  simp only [gOct, List.mem_append, List.mem_singleton] at hx
  rcases hx with hx | rfl
  · exact grp_range8 _ _ x hx
  · omega

theorem parts_lit2 {wA w2 : World} {g : Nat} {t : TypeId} (x : Int) (hb : Blk wA g t #[.int .u8 x]) (hk : Keeps wA w2) (hx0 : 0 ≤ x) (hx1 : x ≤ 255) (A : Option Addr) (ys : List Int) (c : Nat) (hh : Holds w2 A ys) (hy : B8 ys) :
    PartsAny (w2.alloc (.cells #[.slice (some ⟨g, 0, none⟩) 1 1, .slice A ys.length c] 24)) (some ⟨w2.heap.size, 0, none⟩) [(some ⟨g, 0, none⟩, 1, [x]), (A, c, ys)] := by
  have hk2 : Keeps w2 (w2.alloc (.cells #[.slice (some ⟨g, 0, none⟩) 1 1, .slice A ys.length c] 24)) := (Keeps.refl _).alloc _
  refine parts_of (Blk.new w2 24 #[.slice (some ⟨g, 0, none⟩) 1 1, .slice A ys.length c]) fun q hq => ?_
  simp only [List.mem_cons, List.not_mem_nil, or_false] at hq
  rcases hq with rfl | rfl
  · exact ⟨(holds_blk1 x hb).keeps (hk.trans hk2), B8_one x hx0 hx1⟩
  · exact ⟨hh.keeps hk2, hy⟩
theorem parts_lit3 {wA w2 : World} {g : Nat} {t : TypeId} (x : Int) (hb : Blk wA g t #[.int .u8 x]) (hk : Keeps wA w2) (hx0 : 0 ≤ x) (hx1 : x ≤ 255) (A B : Option Addr) (ys zs : List Int) (c d : Nat) (hh : Holds w2 A ys) (hy : B8 ys) (hh2 : Holds w2 B zs) (hz : B8 zs) :
    PartsAny (w2.alloc (.cells #[.slice (some ⟨g, 0, none⟩) 1 1, .slice A ys.length c, .slice B zs.length d] 24)) (some ⟨w2.heap.size, 0, none⟩) [(some ⟨g, 0, none⟩, 1, [x]), (A, c, ys), (B, d, zs)] := by
  have hk2 : Keeps w2 (w2.alloc (.cells #[.slice (some ⟨g, 0, none⟩) 1 1, .slice A ys.length c, .slice B zs.length d] 24)) := (Keeps.refl _).alloc _
  refine parts_of (Blk.new w2 24 #[.slice (some ⟨g, 0, none⟩) 1 1, .slice A ys.length c, .slice B zs.length d]) fun q hq => ?_
  simp only [List.mem_cons, List.not_mem_nil, or_false] at hq
  rcases hq with rfl | rfl | rfl
  · exact ⟨(holds_blk1 x hb).keeps (hk.trans hk2), B8_one x hx0 hx1⟩
  · exact ⟨hh.keeps hk2, hy⟩
  · exact ⟨hh2.keeps hk2, hz⟩
theorem flat2 (A B : Option Addr) (c d : Nat) (xs ys : List Int) : flat [(A, c, xs), (B, d, ys)] = xs ++ ys := by simp [flat]
theorem flat_3 (A B C : Option Addr) (c d f : Nat) (xs ys zs : List Int) : flat [(A, c, xs), (B, d, ys), (C, f, zs)] = xs ++ (ys ++ zs) := by simp [flat]
theorem gOct_len (v : Int) : (gOct v).length ≤ 10 := by rw [gOct_length]; exact (gLen_le v).2

/-- How a head ends: its last parts are joined. -/
theorem head_small (w1 w2 w : World) (cls num k x : Int) (made : Bool) (A : Option Addr) (c g : Nat) (hs : num < 31) (hn : 0 ≤ num) (hk : 0 ≤ k) (hb : Blk w1 g 5 #[.int .u8 x]) (hx : x = fB cls made + num) (h1 : Keeps w w1) (h2 : Keeps w1 w2) (hh : Holds w2 A (lOct k)) :
    Calls Try.prog 25 #[.slice (some ⟨w2.heap.size, 0, none⟩) 2 2] (w2.alloc (.cells #[.slice (some ⟨g, 0, none⟩) 1 1, .slice A (lOct k).length c] 24)) (GivesH (hOct cls num made k) w) := by
  obtain ⟨f0, f1, f2⟩ := fB_facts cls made
  have hP := parts_lit2 x hb h2 (by omega) (by omega) A (lOct k) c hh (lOct_bytes k hk)
  have hl := lOct_len k
  refine (join_any _ 2 2 _ _ rfl (Nat.le_refl _) hP (by rw [flat2]; simp; omega) (by omega)).mono ?_
  rw [flat2, show [x] ++ lOct k = hOct cls num made k from by unfold hOct tOct; rw [if_pos hs, hx]]
  rintro e w' ⟨B, d, rfl, h3, h4, _, h5⟩
  exact ⟨B, d, rfl, h3, h4, ((h1.trans h2).alloc _).trans h5⟩
theorem head_big (w1 w2 w : World) (cls num k x : Int) (made : Bool) (A B : Option Addr) (c d g : Nat) (hs : ¬ num < 31) (hk : 0 ≤ k) (hb : Blk w1 g 5 #[.int .u8 x]) (hx : x = fB cls made + 31) (h1 : Keeps w w1) (h2 : Keeps w1 w2) (hh2 : Holds w2 B (gOct num)) (hh : Holds w2 A (lOct k)) :
    Calls Try.prog 25 #[.slice (some ⟨w2.heap.size, 0, none⟩) 3 3] (w2.alloc (.cells #[.slice (some ⟨g, 0, none⟩) 1 1, .slice B (gOct num).length d, .slice A (lOct k).length c] 24)) (GivesH (hOct cls num made k) w) := by
  obtain ⟨f0, f1, f2⟩ := fB_facts cls made
  have hP := parts_lit3 x hb h2 (by omega) (by omega) B A (gOct num) (lOct k) d c hh2 (gOct_bytes8 num) hh (lOct_bytes k hk)
  have hl := lOct_len k
  have hl2 := gOct_len num
  refine (join_any _ 3 3 _ _ rfl (Nat.le_refl _) hP (by rw [flat_3]; simp; omega) (by omega)).mono ?_
  rw [flat_3, show [x] ++ (gOct num ++ lOct k) = hOct cls num made k from by unfold hOct tOct; rw [if_neg hs, hx]; rfl]
  rintro e w' ⟨B, d, rfl, h3, h4, _, h5⟩
  exact ⟨B, d, rfl, h3, h4, ((h1.trans h2).alloc _).trans h5⟩

set_option maxHeartbeats 2000000 in
theorem headtrue_any (cls num l : Int) (hn : num ≤ 9223372036854775807) (hl : l ≤ 9223372036854775807) (w : World) :
    Calls Try.prog 39 #[tagV cls num, .bool true, .int .i64 l] w (GivesH (hOct cls (max num 0) true (max l 0)) w) := by
  have hand := i64_and3 cls
  have hLen : Hid (∀ w, Calls Try.prog 51 #[.int .i64 l] w (GivesH (lOct (max l 0)) w)) := lengthOf_any l hl
  have hG : Hid (∀ w, Calls Try.prog 23 #[.int .u64 (max num 0)] w (GivesBytes 5 (gOct (max num 0)) w)) := groups_any (max num 0) (by omega) (by omega)
  have hk0 : Hid (0 ≤ max l 0) := by show 0 ≤ max l 0; omega
  have hm0 : Hid (0 ≤ max num 0) := by show 0 ≤ max num 0; omega
  have hq0 : 0 ≤ cls % 4 := by omega
  have hq1 : cls % 4 ≤ 3 := by omega
  have hmd := u8_or_made (cls % 4) hq0 hq1
  have hfb : Hid (fB cls true = cls % 4 * 64 + 32) := rfl
  have hor1 := u8_or_low (cls % 4 * 64 + 32) 31 (by omega) (by omega) (by omega) (by omega) (by omega)
  by_cases hs : max num 0 < 31
  · have hor2 := u8_or_low (cls % 4 * 64 + 32) (max num 0) (by omega) (by omega) (by omega) (by omega) (by omega)
    go_enter Try.func39, Try.ntmps39
    go_wp2_with fail
    have hb := Blk.new (w.alloc (.cells #[.int .i64 cls, .int .i64 num] 52)) 5 #[.int .u8 (cls % 4 * 64 + 32 + max num 0)]
    rw [size_alloc1] at hb
    refine (unhide hLen _).mono ?_
    rintro e w2 ⟨A, c, rfl, hc, hh, hk⟩
    have HK := hide hk
    have HB := hide hb
    have HH := hide hh
    clear hb hk hh
    generalize hln : (lOct (max l 0)).length = n at *
    have HLN := hide hln
    clear hln
    go_wp2_with fail
    rw [← unhide HLN]
    refine (head_small _ w2 w cls (max num 0) (max l 0) _ true A c _ hs (unhide hm0) (unhide hk0) (unhide HB) (by rw [unhide hfb]) (((Keeps.refl w).alloc _).alloc _) (unhide HK) (unhide HH)).mono ?_
    rintro e w3 ⟨B, d, rfl, hd, hh3, hk3⟩
    go_wp2
    go_ret
    exact ⟨B, d, rfl, hd, hh3, hk3⟩
  · have HS := hide hs
    go_enter Try.func39, Try.ntmps39
    go_wp2_with fail
    have hb := Blk.new (w.alloc (.cells #[.int .i64 cls, .int .i64 num] 52)) 5 #[.int .u8 (cls % 4 * 64 + 32 + 31)]
    rw [size_alloc1] at hb
    refine (unhide hG _).mono ?_
    rintro e w1 ⟨B, d, rfl, hd, hf⟩
    have HF := hide hf
    have HB := hide hb
    clear hb hf
    generalize hgn : (gOct (max num 0)).length = m at *
    have HGN := hide hgn
    clear hgn
    go_wp2_with fail
    refine (unhide hLen _).mono ?_
    rintro e w2 ⟨A, c, rfl, hc, hh, hk⟩
    have HK := hide hk
    have HH := hide hh
    clear hk hh
    generalize hln : (lOct (max l 0)).length = n at *
    have HLN := hide hln
    clear hln
    go_wp2_with fail
    rw [← unhide HLN, ← unhide HGN]
    refine (head_big _ w2 w cls (max num 0) (max l 0) _ true A B c d _ (Int.not_lt.2 (unhide HS)) (unhide hk0) (unhide HB) (by rw [unhide hfb]) (((Keeps.refl w).alloc _).alloc _) ((unhide HF).2.trans (unhide HK)) ((unhide HF).holds.keeps (unhide HK)) (unhide HH)).mono ?_
    rintro e w3 ⟨B, d, rfl, hd, hh3, hk3⟩
    go_wp2
    go_ret
    exact ⟨B, d, rfl, hd, hh3, hk3⟩

set_option maxHeartbeats 2000000 in
theorem headfalse_any (cls num l : Int) (hn : num ≤ 9223372036854775807) (hl : l ≤ 9223372036854775807) (w : World) :
    Calls Try.prog 39 #[tagV cls num, .bool false, .int .i64 l] w (GivesH (hOct cls (max num 0) false (max l 0)) w) := by
  have hand := i64_and3 cls
  have hLen : Hid (∀ w, Calls Try.prog 51 #[.int .i64 l] w (GivesH (lOct (max l 0)) w)) := lengthOf_any l hl
  have hG : Hid (∀ w, Calls Try.prog 23 #[.int .u64 (max num 0)] w (GivesBytes 5 (gOct (max num 0)) w)) := groups_any (max num 0) (by omega) (by omega)
  have hk0 : Hid (0 ≤ max l 0) := by show 0 ≤ max l 0; omega
  have hm0 : Hid (0 ≤ max num 0) := by show 0 ≤ max num 0; omega
  have hq0 : 0 ≤ cls % 4 := by omega
  have hq1 : cls % 4 ≤ 3 := by omega
  have hmd := u8_or_made (cls % 4) hq0 hq1
  have hfb : Hid (fB cls false = cls % 4 * 64) := by show fB cls false = cls % 4 * 64; unfold fB; simp
  have hor1 := u8_or_low (cls % 4 * 64) 31 (by omega) (by omega) (by omega) (by omega) (by omega)
  by_cases hs : max num 0 < 31
  · have hor2 := u8_or_low (cls % 4 * 64) (max num 0) (by omega) (by omega) (by omega) (by omega) (by omega)
    go_enter Try.func39, Try.ntmps39
    go_wp2_with fail
    have hb := Blk.new (w.alloc (.cells #[.int .i64 cls, .int .i64 num] 52)) 5 #[.int .u8 (cls % 4 * 64 + max num 0)]
    rw [size_alloc1] at hb
    refine (unhide hLen _).mono ?_
    rintro e w2 ⟨A, c, rfl, hc, hh, hk⟩
    have HK := hide hk
    have HB := hide hb
    have HH := hide hh
    clear hb hk hh
    generalize hln : (lOct (max l 0)).length = n at *
    have HLN := hide hln
    clear hln
    go_wp2_with fail
    rw [← unhide HLN]
    refine (head_small _ w2 w cls (max num 0) (max l 0) _ false A c _ hs (unhide hm0) (unhide hk0) (unhide HB) (by rw [unhide hfb]) (((Keeps.refl w).alloc _).alloc _) (unhide HK) (unhide HH)).mono ?_
    rintro e w3 ⟨B, d, rfl, hd, hh3, hk3⟩
    go_wp2
    go_ret
    exact ⟨B, d, rfl, hd, hh3, hk3⟩
  · have HS := hide hs
    go_enter Try.func39, Try.ntmps39
    go_wp2_with fail
    have hb := Blk.new (w.alloc (.cells #[.int .i64 cls, .int .i64 num] 52)) 5 #[.int .u8 (cls % 4 * 64 + 31)]
    rw [size_alloc1] at hb
    refine (unhide hG _).mono ?_
    rintro e w1 ⟨B, d, rfl, hd, hf⟩
    have HF := hide hf
    have HB := hide hb
    clear hb hf
    generalize hgn : (gOct (max num 0)).length = m at *
    have HGN := hide hgn
    clear hgn
    go_wp2_with fail
    refine (unhide hLen _).mono ?_
    rintro e w2 ⟨A, c, rfl, hc, hh, hk⟩
    have HK := hide hk
    have HH := hide hh
    clear hk hh
    generalize hln : (lOct (max l 0)).length = n at *
    have HLN := hide hln
    clear hln
    go_wp2_with fail
    rw [← unhide HLN, ← unhide HGN]
    refine (head_big _ w2 w cls (max num 0) (max l 0) _ false A B c d _ (Int.not_lt.2 (unhide HS)) (unhide hk0) (unhide HB) (by rw [unhide hfb]) (((Keeps.refl w).alloc _).alloc _) ((unhide HF).2.trans (unhide HK)) ((unhide HF).holds.keeps (unhide HK)) (unhide HH)).mono ?_
    rintro e w3 ⟨B, d, rfl, hd, hh3, hk3⟩
    go_wp2
    go_ret
    exact ⟨B, d, rfl, hd, hh3, hk3⟩

theorem head_any (cls num l : Int) (made : Bool) (hn : num ≤ 9223372036854775807) (hl : l ≤ 9223372036854775807) (w : World) :
    Calls Try.prog 39 #[tagV cls num, .bool made, .int .i64 l] w (GivesH (hOct cls (max num 0) made (max l 0)) w) := by
  cases made
  · exact headfalse_any cls num l hn hl w
  · exact headtrue_any cls num l hn hl w
end Go.Proofs.Ytpogpjnbgdbpfaa
