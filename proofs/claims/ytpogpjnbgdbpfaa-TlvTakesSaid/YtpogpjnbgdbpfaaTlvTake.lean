/- The contracts of tlv.Element and tlv.Take. -/
import Derived.Test.YtpogpjnbgdbpfaaTlvNum
import Derived.Deep.RegionHeld3
namespace Go.Proofs.Ytpogpjnbgdbpfaa
open Go.ChangeShapes Go.WideShapes Go.ChangeAt Go.RowKit

/-- The octets of an element. -/
def eOct (cls num : Int) (made : Bool) (xs : List Int) : List Int := hOct cls (max num 0) made xs.length ++ xs
theorem eOct_len (cls num : Int) (made : Bool) (xs : List Int) : 2 ≤ (eOct cls num made xs).length ∧ (eOct cls num made xs).length ≤ 20 + xs.length ∧ xs.length + 2 ≤ (eOct cls num made xs).length := by
  have := hOct_len cls (max num 0) xs.length made
  unfold eOct
  rw [List.length_append]
  omega
theorem eOct_bytes (cls num : Int) (made : Bool) (xs : List Int) (hx : B8 xs) : B8 (eOct cls num made xs) := by
  intro x h
  rcases List.mem_append.1 h with h | h
  · exact hOct_bytes cls (max num 0) xs.length made (by omega) (by omega) x h
  · exact hx x h
theorem parts_pair {w : World} (A B : Option Addr) (xs ys : List Int) (c d : Nat) (hh : Holds w A xs) (hx : B8 xs) (hh2 : Holds w B ys) (hy : B8 ys) :
    PartsAny (w.alloc (.cells #[.slice A xs.length c, .slice B ys.length d] 24)) (some ⟨w.heap.size, 0, none⟩) [(A, c, xs), (B, d, ys)] := by
  have hk2 : Keeps w (w.alloc (.cells #[.slice A xs.length c, .slice B ys.length d] 24)) := (Keeps.refl _).alloc _
  refine parts_of (Blk.new w 24 #[.slice A xs.length c, .slice B ys.length d]) fun q hq => ?_
  simp only [List.mem_cons, List.not_mem_nil, or_false] at hq
  rcases hq with rfl | rfl
  · exact ⟨hh.keeps hk2, hx⟩
  · exact ⟨hh2.keeps hk2, hy⟩
theorem parts_single {w : World} (A : Option Addr) (xs : List Int) (c : Nat) (hh : Holds w A xs) (hx : B8 xs) :
    PartsAny (w.alloc (.cells #[.slice A xs.length c] 24)) (some ⟨w.heap.size, 0, none⟩) [(A, c, xs)] := by
  have hk2 : Keeps w (w.alloc (.cells #[.slice A xs.length c] 24)) := (Keeps.refl _).alloc _
  refine parts_of (Blk.new w 24 #[.slice A xs.length c]) fun q hq => ?_
  simp only [List.mem_cons, List.not_mem_nil, or_false] at hq
  subst hq
  exact ⟨hh.keeps hk2, hx⟩
theorem flat1 (A : Option Addr) (c : Nat) (xs : List Int) : flat [(A, c, xs)] = xs := by simp [flat]
theorem PartsAny.bytes {w : World} {A : Option Addr} {ps : List Part} (h : PartsAny w A ps) : B8 (flat ps) := by
  rcases h with rfl | ⟨b, o, _, _, h⟩
  · intro x hx; simp [flat] at hx
  · exact flat_bytes h
theorem PartsAny.keeps_ {w w' : World} {A : Option Addr} {ps : List Part} (h : PartsAny w A ps) (hk : Keeps w w') : PartsAny w' A ps := by
  rcases h with h | ⟨b, o, e, hb, h⟩
  · exact .inl h
  · refine .inr ⟨b, o, e, Nat.lt_of_lt_of_le hb hk.size, fun i q hq => ?_⟩
    obtain ⟨h1, h2, h3⟩ := h i q hq
    exact ⟨(Below.cell (p := ⟨b, o + i, none⟩) hk hb).trans h1, h2.keeps hk, h3⟩

theorem elem_join (w : World) (A B : Option Addr) (cls num : Int) (made : Bool) (xs : List Int) (c d n m : Nat) (hl : xs.length ≤ 1000000) (hn : (hOct cls (max num 0) made xs.length).length = n) (hm : xs.length = m) (hh : Holds w A (hOct cls (max num 0) made xs.length)) (hh2 : Holds w B xs) (hx : B8 xs) :
    Calls Try.prog 25 #[.slice (some ⟨w.heap.size, 0, none⟩) 2 2] (w.alloc (.cells #[.slice A n c, .slice B m d] 24)) (fun e w' => GivesJ (eOct cls num made xs) w e w') := by
  subst hn; subst hm
  have hP := parts_pair A B _ xs c d hh (hOct_bytes cls (max num 0) xs.length made (by omega) (by omega)) hh2 hx
  have h0 := hOct_len cls (max num 0) xs.length made
  refine (join_any _ 2 2 _ _ rfl (Nat.le_refl _) hP (by rw [flat2, List.length_append]; omega) (by omega)).mono ?_
  rw [flat2]
  rintro e w' ⟨C, f, rfl, h1, h2, h3, h4⟩
  refine ⟨C, f, rfl, h1, h2, fun h => ?_, ((Keeps.refl w).alloc _).trans h4⟩
  obtain ⟨g, e, hg, hf⟩ := h3 h
  exact ⟨g, e, by rw [size_alloc1] at hg; omega, hf⟩

set_option maxHeartbeats 2000000 in
theorem element_any (A : Option Addr) (n c : Nat) (ps : List Part) (cls num : Int) (made : Bool) (hn47 : num ≤ 9223372036854775807) (w : World) (hn : ps.length = n) (hc : n ≤ c) (hP : PartsAny w A ps) (hl : (flat ps).length ≤ 1000000) (hn2 : n ≤ 1000000) :
    Calls Try.prog 41 #[tagV cls num, .bool made, .slice A n c] w (GivesH (eOct cls num made (flat ps)) w) := by
  have HJ := hide (join_any A n c ps (w.alloc (.cells #[.int .i64 cls, .int .i64 num] 52)) hn hc (hP.keeps_ ((Keeps.refl _).alloc _)) (by omega) (by omega))
  have HB := hide hP.bytes
  clear hP hn hc hn2
  generalize flat ps = xs at *
  have HH : Hid (∀ w, Calls Try.prog 39 #[tagV cls num, .bool made, .int .i64 (xs.length : Nat)] w (GivesH (hOct cls (max num 0) made xs.length) w)) := fun w => by
    have := head_any cls num (xs.length : Nat) made hn47 (by omega) w
    rwa [show max ((xs.length : Nat) : Int) 0 = (xs.length : Nat) from by omega] at this
  go_enter Try.func41, Try.ntmps41
  go_wp2_with fail
  refine (unhide HJ).mono ?_
  rintro e w1 ⟨A1, c1, rfl, hc1, hh1, _, hk1⟩
  have hb := (Blk.new w 52 #[.int .i64 cls, .int .i64 num]).keeps hk1
  obtain ⟨hbc, hbf, hbl⟩ := hb.facts
  have hb0 : w1.cell? ⟨w.heap.size, 0, none⟩ = some (.int .i64 cls) := hbc 0
  have hb1 : w1.cell? ⟨w.heap.size, 1, none⟩ = some (.int .i64 num) := hbc 1
  have HK1 := hide (((Keeps.refl w).alloc _).trans hk1)
  have HH1 := hide hh1
  clear hk1 hh1 hb
  have HL := hide hl
  generalize hln : xs.length = m at *
  have HLN := hide hln
  clear hln
  go_wp2_with fail
  refine (unhide HH _).mono ?_
  rintro e w2 ⟨A2, c2, rfl, hc2, hh2, hk2⟩
  have HK2 := hide ((unhide HK1).trans hk2)
  have HH2 := hide hh2
  have HH3 := hide ((unhide HH1).keeps hk2)
  clear hk2 hh2
  generalize hhn : (hOct cls (max num 0) made m).length = k at *
  have HHN := hide hhn
  clear hhn
  go_wp2_with fail
  refine (elem_join w2 A2 A1 cls num made xs c2 c1 k m (by rw [unhide HLN]; exact unhide HL) (by rw [unhide HLN]; exact unhide HHN) (unhide HLN) (by rw [unhide HLN]; exact unhide HH2) (unhide HH3) (unhide HB)).mono ?_
  rintro e w3 ⟨A3, c3, rfl, hc3, hh4, _, hk3⟩
  have HK3 := hide ((unhide HK2).trans hk3)
  have HH4 := hide hh4
  clear hk3 hh4
  go_wp2
  go_ret
  exact ⟨A3, c3, rfl, hc3, unhide HH4, unhide HK3⟩

def takeF (xs : List Int) : (Int × Int) × Bool × List Int × Int × Int :=
  if (takeHeadF xs).2.2.2.2 ≠ 0 then ((0, 0), false, [], 0, (takeHeadF xs).2.2.2.2)
  else if (xs.length : Int) - (takeHeadF xs).2.2.2.1 < (takeHeadF xs).2.2.1 then ((0, 0), false, [], 0, 3)
  else ((takeHeadF xs).1, (takeHeadF xs).2.1, (xs.drop (takeHeadF xs).2.2.2.1.toNat).take (takeHeadF xs).2.2.1.toNat, (takeHeadF xs).2.2.2.1 + (takeHeadF xs).2.2.1, 0)
theorem takeHeadF_n {xs : List Int} (hx : Bytes8 xs) (h : (takeHeadF xs).2.2.2.2 = 0) : ∃ m k : Nat, (takeHeadF xs).2.2.2.1 = m ∧ (takeHeadF xs).2.2.1 = k ∧ 2 ≤ m ∧ m ≤ xs.length ∧ k ≤ 2147483647 := by
  unfold takeHeadF at h ⊢
  split at h
  · rename_i h1; exact absurd h h1
  · rename_i h1
    rw [if_neg h1]
    obtain ⟨m, hm, hm1, hm2, hm3⟩ := takeTagF_n hx (Decidable.not_not.1 h1)
    split at h
    · rename_i h2; exact absurd h h2
    · rename_i h2
      rw [if_neg h2]
      obtain ⟨k, hk, hk1, hk2, hk3, hk4⟩ := takeLenF_n (fun x m => hx x (List.mem_of_mem_drop m)) (Decidable.not_not.1 h2)
      rw [hm, Int.toNat_natCast] at hk hk2 hk3 hk4
      rw [List.length_drop] at hk2
      refine ⟨m + k, (takeLenF (xs.drop m)).1.toNat, ?_, ?_, by omega, by omega, by omega⟩
      · show (takeTagF xs).2.1 + (takeLenF (xs.drop (takeTagF xs).2.1.toNat)).2.1 = _
        rw [hm, Int.toNat_natCast, hk]; simp
      · show (takeLenF (xs.drop (takeTagF xs).2.1.toNat)).1 = _
        rw [hm, Int.toNat_natCast]; omega
/-- The post of a call that gives back an element's parts. -/
def GivesT5 (r : (Int × Int) × Bool × List Int × Int × Int) (w : World) (e : Ending) (w' : World) : Prop :=
  ∃ A c, e = .returned (.tuple #[tagV r.1.1 r.1.2, .bool r.2.1, .slice A r.2.2.1.length c, .int .i64 r.2.2.2.1, .int .i64 r.2.2.2.2]) ∧ r.2.2.1.length ≤ c ∧ Holds w' A r.2.2.1 ∧ Wr w.heap.size w' A r.2.2.1.length ∧ Keeps w w'
theorem Wr.zero {B : Nat} {w : World} {A : Option Addr} : Wr B w A 0 := fun h => absurd h (by omega)

theorem Wr.mono_ {B C : Nat} {w : World} {A : Option Addr} {n : Nat} (h : Wr B w A n) (hc : C ≤ B) : Wr C w A n := fun hn => by
  obtain ⟨g, e, hg, hf⟩ := h hn
  exact ⟨g, e, Nat.le_trans hc hg, hf⟩
theorem take_join (w w1 : World) (o : Obj) (P : Option Addr) (ys : List Int) (d n : Nat) (hk : Keeps w w1) (hh : Holds w P ys) (hy : B8 ys) (hn : ys.length = n) (hl : n ≤ 2147483647) :
    Calls Try.prog 25 #[.slice (some ⟨w1.heap.size + 1, 0, none⟩) 1 1] ((w1.alloc o).alloc (.cells #[.slice P n d] 24)).drew
      fun e w' => ∃ C f, e = .returned (.slice C n f) ∧ n ≤ f ∧ Holds w' C ys ∧ Wr w1.heap.size w' C n ∧ Keeps ((w1.alloc o).alloc (.cells #[.slice P n d] 24)).drew w' := by
  subst hn
  have hP := (parts_single P ys d (hh.keeps (hk.alloc o)) hy).keeps_ ((Keeps.refl _).drew)
  rw [size_alloc1] at hP
  refine (join_any _ 1 1 _ _ rfl (Nat.le_refl _) hP (by rw [flat1]; omega) (by omega)).mono ?_
  rw [flat1]
  rintro e w' ⟨C, f, rfl, h1, h2, h3, h4⟩
  refine ⟨C, f, rfl, h1, h2, h3.mono_ ?_, h4⟩
  show w1.heap.size ≤ ((w1.alloc o).alloc _).heap.size
  rw [size_alloc1, size_alloc1]; omega
theorem holds_set2 {w : World} {B g n : Nat} {C : Option Addr} {ys : List Int} (h : Holds w C ys) (hw : Wr B w C n) (hn : ys.length = n) (hg : g < B) (x y : Value) :
    Holds ((w.setCell ⟨g, 0, none⟩ x).setCell ⟨g, 1, none⟩ y) C ys ∧ Wr B ((w.setCell ⟨g, 0, none⟩ x).setCell ⟨g, 1, none⟩ y) C n := by
  subst hn
  refine ⟨⟨by simp, fun h0 => ?_⟩, fun h0 => ?_⟩
  · obtain ⟨g', rfl, hg', _⟩ := hw h0
    obtain ⟨ad, e, hb, hc⟩ := h.2 h0
    injection e with e
    subst e
    refine ⟨_, rfl, by simpa [World.setCell] using hb, fun j u hu => ?_⟩
    have := hc j u hu
    rw [add_at_] at this ⊢
    rw [World.cell?_setCell_other _ _ _ _ (fun e => by injection e with e; omega), World.cell?_setCell_other _ _ _ _ (fun e => by injection e with e; omega)]
    exact this
  · obtain ⟨g', e, hg', hf⟩ := hw h0
    exact ⟨g', e, hg', fun i hi => by simpa using hf i hi⟩
/-- What the last region of Take finds, in whatever order. -/
def TakeS (w0 : World) (g gt : Nat) (w' : World) : Prop := (∃ p q, Blk w' g 52 #[p, q]) ∧ gt < w'.heap.size ∧ g < gt ∧ w0.heap.size ≤ g ∧ Keeps w0 w'
theorem take_step {w0 w w' : World} {g gt : Nat} {u v : Value} (h : w.cell? ⟨gt, 0, none⟩ = some u ∧ w.cell? ⟨gt, 1, none⟩ = some v ∧ TakeS w0 g gt w) (hk : Keeps w w') :
    w'.cell? ⟨gt, 0, none⟩ = some u ∧ w'.cell? ⟨gt, 1, none⟩ = some v ∧ TakeS w0 g gt w' := by
  obtain ⟨h1, h2, ⟨p, q, h3⟩, h4, h5, h6, h7⟩ := h
  exact ⟨(Below.cell (p := ⟨gt, 0, none⟩) hk h4).trans h1, (Below.cell (p := ⟨gt, 1, none⟩) hk h4).trans h2, ⟨p, q, h3.keeps hk⟩, Nat.lt_of_lt_of_le h4 hk.size, h5, h6, h7.trans hk⟩
theorem take_store {w0 w : World} {g gt : Nat} {u v : Value} (h : w.cell? ⟨gt, 0, none⟩ = some u ∧ w.cell? ⟨gt, 1, none⟩ = some v ∧ TakeS w0 g gt w) (x y : Value) :
    ((w.setCell ⟨g, 0, none⟩ x).setCell ⟨g, 1, none⟩ y).cell? ⟨gt, 0, none⟩ = some u ∧ ((w.setCell ⟨g, 0, none⟩ x).setCell ⟨g, 1, none⟩ y).cell? ⟨gt, 1, none⟩ = some v ∧ TakeS w0 g gt ((w.setCell ⟨g, 0, none⟩ x).setCell ⟨g, 1, none⟩ y) := by
  obtain ⟨h1, h2, ⟨p, q, h3⟩, h4, h5, h6, h7⟩ := h
  refine ⟨?_, ?_, ⟨x, y, h3.set2 x y⟩, by simpa [World.setCell] using h4, h5, h6, h7.set2 h6 x y⟩
  · rw [World.cell?_setCell_other _ _ _ _ (fun e => by injection e with e; omega), World.cell?_setCell_other _ _ _ _ (fun e => by injection e with e; omega)]; exact h1
  · rw [World.cell?_setCell_other _ _ _ _ (fun e => by injection e with e; omega), World.cell?_setCell_other _ _ _ _ (fun e => by injection e with e; omega)]; exact h2

set_option maxRecDepth 100000 in
set_option maxHeartbeats 8000000 in
theorem take_any (A : Option Addr) (xs : List Int) (c : Nat) (hx : Bytes8 xs) (hl : xs.length ≤ maxLen) (hcap : xs.length ≤ c) (w : World) (hh : Holds w A xs) :
    Calls Try.prog 45 #[.slice A xs.length c] w (GivesT5 (takeF xs) w) := by
  have HT : Hid (∀ w', Keeps w w' → Calls Try.prog 43 #[.slice A xs.length c] w' fun e w'' => e = headE (takeHeadF xs) ∧ Keeps w' w'') := fun w' hk => takeHead_any A xs c hx hl hcap w' (hh.keeps hk)
  by_cases he : (takeHeadF xs).2.2.2.2 = 0
  · obtain ⟨m, kl, hm, hkl, hm1, hm2, hm3⟩ := takeHeadF_n hx he
    have hz : takeF xs = if (xs.length : Int) - m < (kl : Int) then ((0, 0), false, [], 0, 3) else ((takeHeadF xs).1, (takeHeadF xs).2.1, (xs.drop m).take kl, (m : Int) + kl, 0) := by
      unfold takeF
      rw [if_neg (by simp [he]), hm, hkl, Int.toNat_natCast, Int.toNat_natCast]
    generalize takeHeadF xs = r at *
    obtain ⟨⟨cl, nu⟩, mm, ll, k, e⟩ := r
    simp only at he hm hkl hz HT
    subst he
    subst hm
    subst hkl
    unfold headE at HT
    have HH := hide hh
    have HX := hide hx
    clear hh hx
    unfold maxLen at hl
    generalize hn : xs.length = n at *
    by_cases hs : (n : Int) - m < (kl : Int)
    · rw [if_pos hs] at hz
      have HZ := hide hz
      clear hz
      go_enter Try.func45, Try.ntmps45
      go_wp2_with fail
      refine (unhide HT _ ((Keeps.refl w).alloc _)).mono ?_
      rintro e9 w1 ⟨rfl, hk⟩
      have hb := (Blk.new w 52 #[.int .i64 0, .int .i64 0]).keeps hk
      obtain ⟨hbc, hbf, hbl⟩ := hb.facts
      have HB := hide hb
      have HK := hide (((Keeps.refl w).alloc _).trans hk)
      clear hk hb
      go_wp2
      rw [unhide HZ]
      refine bodyPost_ret (results_tag5 rfl rfl (((unhide HB).set2 _ _).alloc _)) rfl ?_
      exact ⟨none, 0, rfl, Nat.le_refl _, Holds.nil _, Wr.zero, ((unhide HK).set2 (Nat.le_refl _) _ _).alloc _⟩
    · rw [if_neg hs] at hz
      have HZ := hide hz
      clear hz
      obtain ⟨b, o, rfl, -⟩ := (unhide HH).cells (by omega)
      have hwr : IntKind.i64.wrap ((m : Int) + kl) = (m : Int) + kl := by rw [IntKind.wrap_i64]; omega
      have htn : ((m : Int) + kl).toNat = m + kl := by omega
      have hle : (m : Int) + kl ≤ c := by omega
      have h0le : 0 ≤ (m : Int) + kl := by omega
      have hadd := add_at_ b o m
      by_cases hcm : c = m
      · obtain rfl : kl = 0 := by omega
        obtain rfl : n = m := by omega
        subst hcm
        have hwr2 : IntKind.i64.wrap (c : Int) = (c : Int) := by rw [IntKind.wrap_i64]; omega
        have htn2 : ((c : Int)).toNat = c := by omega
        go_enter Try.func45, Try.ntmps45
        go_wp2_with fail
        refine (unhide HT _ ((Keeps.refl w).alloc _)).mono ?_
        rintro e9 w1 ⟨rfl, hk⟩
        have hb := (Blk.new w 52 #[.int .i64 0, .int .i64 0]).keeps hk
        obtain ⟨hbc, hbf, hbl⟩ := hb.facts
        have HB := hide hb
        have HK := hide (((Keeps.refl w).alloc _).trans hk)
        clear hk hb
        have hyd : Bytes8 ((xs.drop c).take 0) := fun x h => (unhide HX) x (List.mem_of_mem_drop (List.mem_of_mem_take h))
        have HPB := hide hyd
        have HPL := hide (show ((xs.drop c).take 0).length = 0 from by rw [List.length_take, List.length_drop, hn]; omega)
        have hp := ((unhide HH).from_ (m := c) (c := c) (by omega) (by omega)).upto 0
        rw [if_pos rfl] at hp
        have HP := hide hp
        clear hyd hp
        have HS0 := hide (show ((w1.alloc (.cells #[.int .i64 cl, .int .i64 nu] 52)).drew).cell? ⟨w1.heap.size, 0, none⟩ = some (.int .i64 cl) ∧ ((w1.alloc (.cells #[.int .i64 cl, .int .i64 nu] 52)).drew).cell? ⟨w1.heap.size, 1, none⟩ = some (.int .i64 nu) ∧ TakeS w w.heap.size w1.heap.size (w1.alloc (.cells #[.int .i64 cl, .int .i64 nu] 52)).drew from
          ⟨(Blk.new w1 52 #[.int .i64 cl, .int .i64 nu]).drew.cell 0, (Blk.new w1 52 #[.int .i64 cl, .int .i64 nu]).drew.cell 1, ⟨_, _, ((unhide HB).alloc _).drew⟩, by show _ < (w1.alloc _).heap.size; rw [size_alloc1]; omega, hbl, Nat.le_refl _, ((unhide HK).alloc _).drew⟩)
        go_wp2
        refine wp_region_held_drew (S := fun w' => w'.cell? ⟨w1.heap.size, 0, none⟩ = some (.int .i64 cl) ∧ w'.cell? ⟨w1.heap.size, 1, none⟩ = some (.int .i64 nu) ∧ TakeS w w.heap.size w1.heap.size w') (by kernel_rfl) ?_ (fun hHeld => ?_)
        · exact unhide HS0
        refine wpAnyH_take (i := 0) (oi := { dst := some 34, op := Op.load 52 (Operand.tmp 7), type := 52, pos := "tlv.go:109", after := #[], guard := none }) (v := ?_) rfl (by kernel_rfl) (by kernel_rfl) (by kernel_rfl) (fun _ _ _ h => h) (Or.inl ⟨by rfl, ?_⟩) (by assumption) ?_
        rotate_left
        · intro w hSw
          go_simp
          try with_reducible rfl
        try simp only [Act.put, List.setIfInBounds_toArray, List.set_cons_zero, List.set_cons_succ]
        refine wpAnyH_take (i := 1) (oi := { dst := some 35, op := Op.move (Operand.tmp 8), type := 4, pos := "tlv.go:109", after := #[{ on := 13, ground := Ground.gcOnly Departure.lateStores }], guard := none }) (v := ?_) rfl (by kernel_rfl) (by kernel_rfl) (by kernel_rfl) (fun _ _ _ h => h) (Or.inl ⟨by rfl, ?_⟩) (by assumption) ?_
        rotate_left
        · intro w hSw
          go_simp
          try with_reducible rfl
        try simp only [Act.put, List.setIfInBounds_toArray, List.set_cons_zero, List.set_cons_succ]
        refine wpAnyH_take (i := 2) (oi := { dst := some 36, op := Op.move (Operand.tmp 0), type := 24, pos := "tlv.go:109", after := #[], guard := none }) (v := ?_) rfl (by kernel_rfl) (by kernel_rfl) (by kernel_rfl) (fun _ _ _ h => h) (Or.inl ⟨by rfl, ?_⟩) (by assumption) ?_
        rotate_left
        · intro w hSw
          go_simp
          try with_reducible rfl
        try simp only [Act.put, List.setIfInBounds_toArray, List.set_cons_zero, List.set_cons_succ]
        refine wpAnyH_take (i := 3) (oi := { dst := some 37, op := Op.move (Operand.tmp 10), type := 3, pos := "tlv.go:109", after := #[], guard := none }) (v := ?_) rfl (by kernel_rfl) (by kernel_rfl) (by kernel_rfl) (fun _ _ _ h => h) (Or.inl ⟨by rfl, ?_⟩) (by assumption) ?_
        rotate_left
        · intro w hSw
          go_simp
          try with_reducible rfl
        try simp only [Act.put, List.setIfInBounds_toArray, List.set_cons_zero, List.set_cons_succ]
        refine wpAnyH_take (i := 4) (oi := { dst := some 38, op := Op.move (Operand.tmp 10), type := 3, pos := "tlv.go:109", after := #[], guard := none }) (v := ?_) rfl (by kernel_rfl) (by kernel_rfl) (by kernel_rfl) (fun _ _ _ h => h) (Or.inl ⟨by rfl, ?_⟩) (by assumption) ?_
        rotate_left
        · intro w hSw
          go_simp
          try with_reducible rfl
        try simp only [Act.put, List.setIfInBounds_toArray, List.set_cons_zero, List.set_cons_succ]
        refine wpAnyH_take (i := 5) (oi := { dst := some 39, op := Op.move (Operand.tmp 9), type := 3, pos := "tlv.go:109", after := #[], guard := none }) (v := ?_) rfl (by kernel_rfl) (by kernel_rfl) (by kernel_rfl) (fun _ _ _ h => h) (Or.inl ⟨by rfl, ?_⟩) (by assumption) ?_
        rotate_left
        · intro w hSw
          go_simp
          try with_reducible rfl
        try simp only [Act.put, List.setIfInBounds_toArray, List.set_cons_zero, List.set_cons_succ]
        refine wpAnyH_take (i := 6) (oi := { dst := some 40, op := Op.binOp BinOp.add 3 (Operand.tmp 38) (Operand.tmp 39) 3, type := 3, pos := "tlv.go:109", after := #[{ on := 4, ground := Ground.data }, { on := 5, ground := Ground.data }], guard := none }) (v := ?_) rfl (by kernel_rfl) (by kernel_rfl) (by kernel_rfl) (fun _ _ _ h => h) (Or.inl ⟨by rfl, ?_⟩) (by assumption) ?_
        rotate_left
        · intro w hSw
          go_simp
          try with_reducible rfl
        try simp only [Act.put, List.setIfInBounds_toArray, List.set_cons_zero, List.set_cons_succ]
        refine wpAnyH_take (i := 7) (oi := { dst := some 41, op := Op.slice 24 (Operand.tmp 36) (some (Operand.tmp 37)) (some (Operand.tmp 40)) none, type := 24, pos := "tlv.go:109", after := #[{ on := 2, ground := Ground.data }, { on := 3, ground := Ground.data }, { on := 6, ground := Ground.data }], guard := none }) (v := ?_) rfl (by kernel_rfl) (by kernel_rfl) (by kernel_rfl) (fun _ _ _ h => h) (Or.inl ⟨by rfl, ?_⟩) (by assumption) ?_
        rotate_left
        · intro w hSw
          go_simp
          try with_reducible rfl
        try simp only [Act.put, List.setIfInBounds_toArray, List.set_cons_zero, List.set_cons_succ]
        refine wpAnyH_take (i := 10) (oi := { dst := some 44, op := Op.move (Operand.tmp 10), type := 3, pos := "tlv.go:109", after := #[{ on := 15, ground := Ground.gcOnly Departure.lateStores }], guard := none }) (v := ?_) rfl (by kernel_rfl) (by kernel_rfl) (by kernel_rfl) (fun _ _ _ h => h) (Or.inl ⟨by rfl, ?_⟩) (by assumption) ?_
        rotate_left
        · intro w hSw
          go_simp
          try with_reducible rfl
        try simp only [Act.put, List.setIfInBounds_toArray, List.set_cons_zero, List.set_cons_succ]
        refine wpAnyH_take (i := 11) (oi := { dst := some 45, op := Op.move (Operand.tmp 9), type := 3, pos := "tlv.go:109", after := #[{ on := 15, ground := Ground.gcOnly Departure.lateStores }], guard := none }) (v := ?_) rfl (by kernel_rfl) (by kernel_rfl) (by kernel_rfl) (fun _ _ _ h => h) (Or.inl ⟨by rfl, ?_⟩) (by assumption) ?_
        rotate_left
        · intro w hSw
          go_simp
          try with_reducible rfl
        try simp only [Act.put, List.setIfInBounds_toArray, List.set_cons_zero, List.set_cons_succ]
        refine wpAnyH_take (i := 12) (oi := { dst := some 46, op := Op.binOp BinOp.add 3 (Operand.tmp 44) (Operand.tmp 45) 3, type := 3, pos := "tlv.go:109", after := #[{ on := 10, ground := Ground.data }, { on := 11, ground := Ground.data }, { on := 15, ground := Ground.gcOnly Departure.lateStores }], guard := none }) (v := ?_) rfl (by kernel_rfl) (by kernel_rfl) (by kernel_rfl) (fun _ _ _ h => h) (Or.inl ⟨by rfl, ?_⟩) (by assumption) ?_
        rotate_left
        · intro w hSw
          go_simp
          try with_reducible rfl
        try simp only [Act.put, List.setIfInBounds_toArray, List.set_cons_zero, List.set_cons_succ]
        refine wpAnyH_ready (rs := [8]) (by kernel_rfl) (by simp) ?_
        refine AllReadyH.cons (o := { dst := some 42, op := Op.buildSlice 23 1 #[(0, Operand.tmp 41)], type := 23, pos := "tlv.go:109", after := #[{ on := 7, ground := Ground.data }], guard := none }) rfl (fun K hK => ?_) AllReadyH.nil
        go_simp
        refine hK.out _ _ ?_ (fun hHeld => ?_)
        · exact take_step hHeld ((Keeps.refl _).alloc _)
        clear hK K
        try simp only [Act.put, List.setIfInBounds_toArray, List.set_cons_zero, List.set_cons_succ]
        refine wpAnyH_ready (rs := [9]) (by kernel_rfl) (by simp) ?_
        refine AllReadyH.cons (o := { dst := some 43, op := Op.call { callee := Callee.value (Operand.func 25), args := #[Operand.tmp 42], argTypes := #[23] }, type := 24, pos := "tlv.go:109", after := #[{ on := 8, ground := Ground.data }], guard := none }) rfl (fun K hK => ?_) AllReadyH.nil
        go_simp
        go_at_call 25
        refine (take_join w w1 _ _ ((xs.drop c).take 0) _ 0 (unhide HK) (unhide HP) (unhide HPB) (unhide HPL) hm3).mono ?_
        rintro e5 wn ⟨C, f, rfl, hcf, hch, hcw, hkn⟩
        have HCH := hide hch
        have HCW := hide hcw
        clear hch hcw
        go_wp2_with fail
        refine hK.out _ _ ?_ (fun hHeld2 => ?_)
        · exact take_step hHeld hkn
        clear hK K hHeld
        try simp only [Act.put, List.setIfInBounds_toArray, List.set_cons_zero, List.set_cons_succ]
        obtain ⟨hH1, hH2, ⟨p, q, hBn⟩, hH4, hH5, hH6, hH7⟩ := hHeld2
        obtain ⟨hbc2, hbf2, hbl2⟩ := hBn.facts
        have hb0 : wn.cell? ⟨w.heap.size, 0, none⟩ = some p := hbc2 0
        have hb1 : wn.cell? ⟨w.heap.size, 1, none⟩ = some q := hbc2 1
        have hb2 := hbf2 0
        have hb3 := hbf2 1
        have HBN := hide hBn
        clear hBn hkn
        refine wpAnyH_ready (rs := [13]) (by kernel_rfl) (by simp) ?_
        refine AllReadyH.cons (o := { dst := none, op := Op.store 52 (Operand.tmp 2) (Operand.tmp 34), type := 0, pos := "tlv.go:109", after := #[{ on := 0, ground := Ground.data }, { on := 9, ground := Ground.chain }, { on := 0, ground := Ground.phase }, { on := 1, ground := Ground.textOnly Departure.lateStores }, { on := 2, ground := Ground.textOnly Departure.lateStores }, { on := 3, ground := Ground.textOnly Departure.lateStores }, { on := 4, ground := Ground.textOnly Departure.lateStores }, { on := 5, ground := Ground.textOnly Departure.lateStores }, { on := 6, ground := Ground.textOnly Departure.lateStores }, { on := 7, ground := Ground.textOnly Departure.lateStoresUnsure }, { on := 8, ground := Ground.textOnly Departure.lateStores }, { on := 9, ground := Ground.textOnly Departure.lateStoresUnsure }, { on := 10, ground := Ground.textOnly Departure.lateStores }, { on := 11, ground := Ground.textOnly Departure.lateStores }, { on := 12, ground := Ground.textOnly Departure.lateStores }], guard := none }) rfl (fun K hK => ?_) AllReadyH.nil
        go_simp
        refine hK.out _ _ ?_ (fun hHeld3 => ?_)
        · exact take_store ⟨hH1, hH2, ⟨p, q, unhide HBN⟩, hH4, hH5, hH6, hH7⟩ _ _
        clear hK K
        try simp only [Act.put, List.setIfInBounds_toArray, List.set_cons_zero, List.set_cons_succ]
        have hfin := holds_set2 (unhide HCH) (unhide HCW) (unhide HPL) hH5 (.int .i64 cl) (.int .i64 nu)
        have HFIN := hide hfin
        have HBF := hide ((unhide HBN).set2 (.int .i64 cl) (.int .i64 nu))
        have HKF := hide hHeld3.2.2.2.2.2.2
        clear hfin hbc2 hbf2 hb0 hb1 hb2 hb3 hH1 hH2
        refine wpAnyH_take (i := 14) (oi := { dst := some 3, op := Op.assign (Operand.tmp 35), type := 4, pos := "tlv.go:109", after := #[{ on := 1, ground := Ground.data }, { on := 13, ground := Ground.chain }, { on := 0, ground := Ground.phase }, { on := 1, ground := Ground.phase }, { on := 2, ground := Ground.textOnly Departure.lateStores }, { on := 3, ground := Ground.textOnly Departure.lateStores }, { on := 4, ground := Ground.textOnly Departure.lateStores }, { on := 5, ground := Ground.textOnly Departure.lateStores }, { on := 6, ground := Ground.textOnly Departure.lateStores }, { on := 7, ground := Ground.textOnly Departure.lateStoresUnsure }, { on := 8, ground := Ground.textOnly Departure.lateStores }, { on := 9, ground := Ground.textOnly Departure.lateStoresUnsure }, { on := 10, ground := Ground.textOnly Departure.lateStores }, { on := 11, ground := Ground.textOnly Departure.lateStores }, { on := 12, ground := Ground.textOnly Departure.lateStores }, { on := 13, ground := Ground.phase }], guard := none }) (v := ?_) rfl (by kernel_rfl) (by kernel_rfl) (by kernel_rfl) (fun _ _ _ h => h) (Or.inl ⟨by rfl, ?_⟩) (by assumption) ?_
        rotate_left
        · intro w hSw
          go_simp
          try with_reducible rfl
        try simp only [Act.put, List.setIfInBounds_toArray, List.set_cons_zero, List.set_cons_succ]
        refine wpAnyH_take (i := 15) (oi := { dst := some 4, op := Op.assign (Operand.tmp 43), type := 24, pos := "tlv.go:109", after := #[{ on := 9, ground := Ground.data }, { on := 14, ground := Ground.chain }, { on := 0, ground := Ground.phase }, { on := 1, ground := Ground.phase }, { on := 2, ground := Ground.phase }, { on := 3, ground := Ground.phase }, { on := 4, ground := Ground.phase }, { on := 5, ground := Ground.phase }, { on := 6, ground := Ground.phase }, { on := 7, ground := Ground.phase }, { on := 8, ground := Ground.phase }, { on := 9, ground := Ground.phase }, { on := 10, ground := Ground.textOnly Departure.lateStores }, { on := 11, ground := Ground.textOnly Departure.lateStores }, { on := 12, ground := Ground.textOnly Departure.lateStores }, { on := 13, ground := Ground.phase }, { on := 14, ground := Ground.phase }], guard := none }) (v := ?_) rfl (by kernel_rfl) (by kernel_rfl) (by kernel_rfl) (fun _ _ _ h => h) (Or.inl ⟨by rfl, ?_⟩) (by assumption) ?_
        rotate_left
        · intro w hSw
          go_simp
          try with_reducible rfl
        try simp only [Act.put, List.setIfInBounds_toArray, List.set_cons_zero, List.set_cons_succ]
        refine wpAnyH_take (i := 16) (oi := { dst := some 5, op := Op.assign (Operand.tmp 46), type := 3, pos := "tlv.go:109", after := #[{ on := 12, ground := Ground.data }, { on := 15, ground := Ground.chain }, { on := 0, ground := Ground.phase }, { on := 1, ground := Ground.phase }, { on := 2, ground := Ground.phase }, { on := 3, ground := Ground.phase }, { on := 4, ground := Ground.phase }, { on := 5, ground := Ground.phase }, { on := 6, ground := Ground.phase }, { on := 7, ground := Ground.phase }, { on := 8, ground := Ground.phase }, { on := 9, ground := Ground.phase }, { on := 10, ground := Ground.phase }, { on := 11, ground := Ground.phase }, { on := 12, ground := Ground.phase }, { on := 13, ground := Ground.phase }, { on := 14, ground := Ground.phase }, { on := 15, ground := Ground.phase }], guard := none }) (v := ?_) rfl (by kernel_rfl) (by kernel_rfl) (by kernel_rfl) (fun _ _ _ h => h) (Or.inl ⟨by rfl, ?_⟩) (by assumption) ?_
        rotate_left
        · intro w hSw
          go_simp
          try with_reducible rfl
        try simp only [Act.put, List.setIfInBounds_toArray, List.set_cons_zero, List.set_cons_succ]
        refine wpAnyH_take (i := 17) (oi := { dst := some 6, op := Op.assign (Operand.const (Value.int IntKind.i64 0)), type := 34, pos := "tlv.go:109", after := #[{ on := 16, ground := Ground.chain }, { on := 0, ground := Ground.phase }, { on := 1, ground := Ground.phase }, { on := 2, ground := Ground.phase }, { on := 3, ground := Ground.phase }, { on := 4, ground := Ground.phase }, { on := 5, ground := Ground.phase }, { on := 6, ground := Ground.phase }, { on := 7, ground := Ground.phase }, { on := 8, ground := Ground.phase }, { on := 9, ground := Ground.phase }, { on := 10, ground := Ground.phase }, { on := 11, ground := Ground.phase }, { on := 12, ground := Ground.phase }, { on := 13, ground := Ground.phase }, { on := 14, ground := Ground.phase }, { on := 15, ground := Ground.phase }, { on := 16, ground := Ground.phase }], guard := none }) (v := ?_) rfl (by kernel_rfl) (by kernel_rfl) (by kernel_rfl) (fun _ _ _ h => h) (Or.inl ⟨by rfl, ?_⟩) (by assumption) ?_
        rotate_left
        · intro w hSw
          go_simp
          try with_reducible rfl
        try simp only [Act.put, List.setIfInBounds_toArray, List.set_cons_zero, List.set_cons_succ]
        refine wpAnyH_done (by kernel_rfl) ?_ _
        go_wp2
        rw [unhide HZ]
        refine bodyPost_ret (results_tag5 rfl rfl (unhide HBF)) rfl ?_
        have hpl := unhide HPL
        refine ⟨C, f, ?_, by rw [hpl]; exact hcf, (unhide HFIN).1, by rw [hpl]; exact (unhide HFIN).2.mono_ (Nat.le_of_lt hH5), unhide HKF⟩
        simp only [hpl]
        rfl
      · have hcm2 : (c = m) = False := eq_false hcm
        go_enter Try.func45, Try.ntmps45
        go_wp2_with fail
        refine (unhide HT _ ((Keeps.refl w).alloc _)).mono ?_
        rintro e9 w1 ⟨rfl, hk⟩
        have hb := (Blk.new w 52 #[.int .i64 0, .int .i64 0]).keeps hk
        obtain ⟨hbc, hbf, hbl⟩ := hb.facts
        have HB := hide hb
        have HK := hide (((Keeps.refl w).alloc _).trans hk)
        clear hk hb
        have hyd : Bytes8 ((xs.drop m).take kl) := fun x h => (unhide HX) x (List.mem_of_mem_drop (List.mem_of_mem_take h))
        have HPB := hide hyd
        have HPL := hide (show ((xs.drop m).take kl).length = kl from by rw [List.length_take, List.length_drop, hn]; omega)
        have hp := ((unhide HH).from_ (m := m) (c := c) (by omega) (by omega)).upto kl
        rw [if_neg hcm, Option.map_some, hadd] at hp
        have HP := hide hp
        clear hyd hp
        have HS0 := hide (show ((w1.alloc (.cells #[.int .i64 cl, .int .i64 nu] 52)).drew).cell? ⟨w1.heap.size, 0, none⟩ = some (.int .i64 cl) ∧ ((w1.alloc (.cells #[.int .i64 cl, .int .i64 nu] 52)).drew).cell? ⟨w1.heap.size, 1, none⟩ = some (.int .i64 nu) ∧ TakeS w w.heap.size w1.heap.size (w1.alloc (.cells #[.int .i64 cl, .int .i64 nu] 52)).drew from
          ⟨(Blk.new w1 52 #[.int .i64 cl, .int .i64 nu]).drew.cell 0, (Blk.new w1 52 #[.int .i64 cl, .int .i64 nu]).drew.cell 1, ⟨_, _, ((unhide HB).alloc _).drew⟩, by show _ < (w1.alloc _).heap.size; rw [size_alloc1]; omega, hbl, Nat.le_refl _, ((unhide HK).alloc _).drew⟩)
        go_wp2
        refine wp_region_held_drew (S := fun w' => w'.cell? ⟨w1.heap.size, 0, none⟩ = some (.int .i64 cl) ∧ w'.cell? ⟨w1.heap.size, 1, none⟩ = some (.int .i64 nu) ∧ TakeS w w.heap.size w1.heap.size w') (by kernel_rfl) ?_ (fun hHeld => ?_)
        · exact unhide HS0
        refine wpAnyH_take (i := 0) (oi := { dst := some 34, op := Op.load 52 (Operand.tmp 7), type := 52, pos := "tlv.go:109", after := #[], guard := none }) (v := ?_) rfl (by kernel_rfl) (by kernel_rfl) (by kernel_rfl) (fun _ _ _ h => h) (Or.inl ⟨by rfl, ?_⟩) (by assumption) ?_
        rotate_left
        · intro w hSw
          go_simp
          try with_reducible rfl
        try simp only [Act.put, List.setIfInBounds_toArray, List.set_cons_zero, List.set_cons_succ]
        refine wpAnyH_take (i := 1) (oi := { dst := some 35, op := Op.move (Operand.tmp 8), type := 4, pos := "tlv.go:109", after := #[{ on := 13, ground := Ground.gcOnly Departure.lateStores }], guard := none }) (v := ?_) rfl (by kernel_rfl) (by kernel_rfl) (by kernel_rfl) (fun _ _ _ h => h) (Or.inl ⟨by rfl, ?_⟩) (by assumption) ?_
        rotate_left
        · intro w hSw
          go_simp
          try with_reducible rfl
        try simp only [Act.put, List.setIfInBounds_toArray, List.set_cons_zero, List.set_cons_succ]
        refine wpAnyH_take (i := 2) (oi := { dst := some 36, op := Op.move (Operand.tmp 0), type := 24, pos := "tlv.go:109", after := #[], guard := none }) (v := ?_) rfl (by kernel_rfl) (by kernel_rfl) (by kernel_rfl) (fun _ _ _ h => h) (Or.inl ⟨by rfl, ?_⟩) (by assumption) ?_
        rotate_left
        · intro w hSw
          go_simp
          try with_reducible rfl
        try simp only [Act.put, List.setIfInBounds_toArray, List.set_cons_zero, List.set_cons_succ]
        refine wpAnyH_take (i := 3) (oi := { dst := some 37, op := Op.move (Operand.tmp 10), type := 3, pos := "tlv.go:109", after := #[], guard := none }) (v := ?_) rfl (by kernel_rfl) (by kernel_rfl) (by kernel_rfl) (fun _ _ _ h => h) (Or.inl ⟨by rfl, ?_⟩) (by assumption) ?_
        rotate_left
        · intro w hSw
          go_simp
          try with_reducible rfl
        try simp only [Act.put, List.setIfInBounds_toArray, List.set_cons_zero, List.set_cons_succ]
        refine wpAnyH_take (i := 4) (oi := { dst := some 38, op := Op.move (Operand.tmp 10), type := 3, pos := "tlv.go:109", after := #[], guard := none }) (v := ?_) rfl (by kernel_rfl) (by kernel_rfl) (by kernel_rfl) (fun _ _ _ h => h) (Or.inl ⟨by rfl, ?_⟩) (by assumption) ?_
        rotate_left
        · intro w hSw
          go_simp
          try with_reducible rfl
        try simp only [Act.put, List.setIfInBounds_toArray, List.set_cons_zero, List.set_cons_succ]
        refine wpAnyH_take (i := 5) (oi := { dst := some 39, op := Op.move (Operand.tmp 9), type := 3, pos := "tlv.go:109", after := #[], guard := none }) (v := ?_) rfl (by kernel_rfl) (by kernel_rfl) (by kernel_rfl) (fun _ _ _ h => h) (Or.inl ⟨by rfl, ?_⟩) (by assumption) ?_
        rotate_left
        · intro w hSw
          go_simp
          try with_reducible rfl
        try simp only [Act.put, List.setIfInBounds_toArray, List.set_cons_zero, List.set_cons_succ]
        refine wpAnyH_take (i := 6) (oi := { dst := some 40, op := Op.binOp BinOp.add 3 (Operand.tmp 38) (Operand.tmp 39) 3, type := 3, pos := "tlv.go:109", after := #[{ on := 4, ground := Ground.data }, { on := 5, ground := Ground.data }], guard := none }) (v := ?_) rfl (by kernel_rfl) (by kernel_rfl) (by kernel_rfl) (fun _ _ _ h => h) (Or.inl ⟨by rfl, ?_⟩) (by assumption) ?_
        rotate_left
        · intro w hSw
          go_simp
          try with_reducible rfl
        try simp only [Act.put, List.setIfInBounds_toArray, List.set_cons_zero, List.set_cons_succ]
        refine wpAnyH_take (i := 7) (oi := { dst := some 41, op := Op.slice 24 (Operand.tmp 36) (some (Operand.tmp 37)) (some (Operand.tmp 40)) none, type := 24, pos := "tlv.go:109", after := #[{ on := 2, ground := Ground.data }, { on := 3, ground := Ground.data }, { on := 6, ground := Ground.data }], guard := none }) (v := ?_) rfl (by kernel_rfl) (by kernel_rfl) (by kernel_rfl) (fun _ _ _ h => h) (Or.inl ⟨by rfl, ?_⟩) (by assumption) ?_
        rotate_left
        · intro w hSw
          go_simp
          try with_reducible rfl
        try simp only [Act.put, List.setIfInBounds_toArray, List.set_cons_zero, List.set_cons_succ]
        refine wpAnyH_take (i := 10) (oi := { dst := some 44, op := Op.move (Operand.tmp 10), type := 3, pos := "tlv.go:109", after := #[{ on := 15, ground := Ground.gcOnly Departure.lateStores }], guard := none }) (v := ?_) rfl (by kernel_rfl) (by kernel_rfl) (by kernel_rfl) (fun _ _ _ h => h) (Or.inl ⟨by rfl, ?_⟩) (by assumption) ?_
        rotate_left
        · intro w hSw
          go_simp
          try with_reducible rfl
        try simp only [Act.put, List.setIfInBounds_toArray, List.set_cons_zero, List.set_cons_succ]
        refine wpAnyH_take (i := 11) (oi := { dst := some 45, op := Op.move (Operand.tmp 9), type := 3, pos := "tlv.go:109", after := #[{ on := 15, ground := Ground.gcOnly Departure.lateStores }], guard := none }) (v := ?_) rfl (by kernel_rfl) (by kernel_rfl) (by kernel_rfl) (fun _ _ _ h => h) (Or.inl ⟨by rfl, ?_⟩) (by assumption) ?_
        rotate_left
        · intro w hSw
          go_simp
          try with_reducible rfl
        try simp only [Act.put, List.setIfInBounds_toArray, List.set_cons_zero, List.set_cons_succ]
        refine wpAnyH_take (i := 12) (oi := { dst := some 46, op := Op.binOp BinOp.add 3 (Operand.tmp 44) (Operand.tmp 45) 3, type := 3, pos := "tlv.go:109", after := #[{ on := 10, ground := Ground.data }, { on := 11, ground := Ground.data }, { on := 15, ground := Ground.gcOnly Departure.lateStores }], guard := none }) (v := ?_) rfl (by kernel_rfl) (by kernel_rfl) (by kernel_rfl) (fun _ _ _ h => h) (Or.inl ⟨by rfl, ?_⟩) (by assumption) ?_
        rotate_left
        · intro w hSw
          go_simp
          try with_reducible rfl
        try simp only [Act.put, List.setIfInBounds_toArray, List.set_cons_zero, List.set_cons_succ]
        refine wpAnyH_ready (rs := [8]) (by kernel_rfl) (by simp) ?_
        refine AllReadyH.cons (o := { dst := some 42, op := Op.buildSlice 23 1 #[(0, Operand.tmp 41)], type := 23, pos := "tlv.go:109", after := #[{ on := 7, ground := Ground.data }], guard := none }) rfl (fun K hK => ?_) AllReadyH.nil
        go_simp
        refine hK.out _ _ ?_ (fun hHeld => ?_)
        · exact take_step hHeld ((Keeps.refl _).alloc _)
        clear hK K
        try simp only [Act.put, List.setIfInBounds_toArray, List.set_cons_zero, List.set_cons_succ]
        refine wpAnyH_ready (rs := [9]) (by kernel_rfl) (by simp) ?_
        refine AllReadyH.cons (o := { dst := some 43, op := Op.call { callee := Callee.value (Operand.func 25), args := #[Operand.tmp 42], argTypes := #[23] }, type := 24, pos := "tlv.go:109", after := #[{ on := 8, ground := Ground.data }], guard := none }) rfl (fun K hK => ?_) AllReadyH.nil
        go_simp
        go_at_call 25
        refine (take_join w w1 _ _ ((xs.drop m).take kl) _ kl (unhide HK) (unhide HP) (unhide HPB) (unhide HPL) hm3).mono ?_
        rintro e5 wn ⟨C, f, rfl, hcf, hch, hcw, hkn⟩
        have HCH := hide hch
        have HCW := hide hcw
        clear hch hcw
        go_wp2_with fail
        refine hK.out _ _ ?_ (fun hHeld2 => ?_)
        · exact take_step hHeld hkn
        clear hK K hHeld
        try simp only [Act.put, List.setIfInBounds_toArray, List.set_cons_zero, List.set_cons_succ]
        obtain ⟨hH1, hH2, ⟨p, q, hBn⟩, hH4, hH5, hH6, hH7⟩ := hHeld2
        obtain ⟨hbc2, hbf2, hbl2⟩ := hBn.facts
        have hb0 : wn.cell? ⟨w.heap.size, 0, none⟩ = some p := hbc2 0
        have hb1 : wn.cell? ⟨w.heap.size, 1, none⟩ = some q := hbc2 1
        have hb2 := hbf2 0
        have hb3 := hbf2 1
        have HBN := hide hBn
        clear hBn hkn
        refine wpAnyH_ready (rs := [13]) (by kernel_rfl) (by simp) ?_
        refine AllReadyH.cons (o := { dst := none, op := Op.store 52 (Operand.tmp 2) (Operand.tmp 34), type := 0, pos := "tlv.go:109", after := #[{ on := 0, ground := Ground.data }, { on := 9, ground := Ground.chain }, { on := 0, ground := Ground.phase }, { on := 1, ground := Ground.textOnly Departure.lateStores }, { on := 2, ground := Ground.textOnly Departure.lateStores }, { on := 3, ground := Ground.textOnly Departure.lateStores }, { on := 4, ground := Ground.textOnly Departure.lateStores }, { on := 5, ground := Ground.textOnly Departure.lateStores }, { on := 6, ground := Ground.textOnly Departure.lateStores }, { on := 7, ground := Ground.textOnly Departure.lateStoresUnsure }, { on := 8, ground := Ground.textOnly Departure.lateStores }, { on := 9, ground := Ground.textOnly Departure.lateStoresUnsure }, { on := 10, ground := Ground.textOnly Departure.lateStores }, { on := 11, ground := Ground.textOnly Departure.lateStores }, { on := 12, ground := Ground.textOnly Departure.lateStores }], guard := none }) rfl (fun K hK => ?_) AllReadyH.nil
        go_simp
        refine hK.out _ _ ?_ (fun hHeld3 => ?_)
        · exact take_store ⟨hH1, hH2, ⟨p, q, unhide HBN⟩, hH4, hH5, hH6, hH7⟩ _ _
        clear hK K
        try simp only [Act.put, List.setIfInBounds_toArray, List.set_cons_zero, List.set_cons_succ]
        have hfin := holds_set2 (unhide HCH) (unhide HCW) (unhide HPL) hH5 (.int .i64 cl) (.int .i64 nu)
        have HFIN := hide hfin
        have HBF := hide ((unhide HBN).set2 (.int .i64 cl) (.int .i64 nu))
        have HKF := hide hHeld3.2.2.2.2.2.2
        clear hfin hbc2 hbf2 hb0 hb1 hb2 hb3 hH1 hH2
        refine wpAnyH_take (i := 14) (oi := { dst := some 3, op := Op.assign (Operand.tmp 35), type := 4, pos := "tlv.go:109", after := #[{ on := 1, ground := Ground.data }, { on := 13, ground := Ground.chain }, { on := 0, ground := Ground.phase }, { on := 1, ground := Ground.phase }, { on := 2, ground := Ground.textOnly Departure.lateStores }, { on := 3, ground := Ground.textOnly Departure.lateStores }, { on := 4, ground := Ground.textOnly Departure.lateStores }, { on := 5, ground := Ground.textOnly Departure.lateStores }, { on := 6, ground := Ground.textOnly Departure.lateStores }, { on := 7, ground := Ground.textOnly Departure.lateStoresUnsure }, { on := 8, ground := Ground.textOnly Departure.lateStores }, { on := 9, ground := Ground.textOnly Departure.lateStoresUnsure }, { on := 10, ground := Ground.textOnly Departure.lateStores }, { on := 11, ground := Ground.textOnly Departure.lateStores }, { on := 12, ground := Ground.textOnly Departure.lateStores }, { on := 13, ground := Ground.phase }], guard := none }) (v := ?_) rfl (by kernel_rfl) (by kernel_rfl) (by kernel_rfl) (fun _ _ _ h => h) (Or.inl ⟨by rfl, ?_⟩) (by assumption) ?_
        rotate_left
        · intro w hSw
          go_simp
          try with_reducible rfl
        try simp only [Act.put, List.setIfInBounds_toArray, List.set_cons_zero, List.set_cons_succ]
        refine wpAnyH_take (i := 15) (oi := { dst := some 4, op := Op.assign (Operand.tmp 43), type := 24, pos := "tlv.go:109", after := #[{ on := 9, ground := Ground.data }, { on := 14, ground := Ground.chain }, { on := 0, ground := Ground.phase }, { on := 1, ground := Ground.phase }, { on := 2, ground := Ground.phase }, { on := 3, ground := Ground.phase }, { on := 4, ground := Ground.phase }, { on := 5, ground := Ground.phase }, { on := 6, ground := Ground.phase }, { on := 7, ground := Ground.phase }, { on := 8, ground := Ground.phase }, { on := 9, ground := Ground.phase }, { on := 10, ground := Ground.textOnly Departure.lateStores }, { on := 11, ground := Ground.textOnly Departure.lateStores }, { on := 12, ground := Ground.textOnly Departure.lateStores }, { on := 13, ground := Ground.phase }, { on := 14, ground := Ground.phase }], guard := none }) (v := ?_) rfl (by kernel_rfl) (by kernel_rfl) (by kernel_rfl) (fun _ _ _ h => h) (Or.inl ⟨by rfl, ?_⟩) (by assumption) ?_
        rotate_left
        · intro w hSw
          go_simp
          try with_reducible rfl
        try simp only [Act.put, List.setIfInBounds_toArray, List.set_cons_zero, List.set_cons_succ]
        refine wpAnyH_take (i := 16) (oi := { dst := some 5, op := Op.assign (Operand.tmp 46), type := 3, pos := "tlv.go:109", after := #[{ on := 12, ground := Ground.data }, { on := 15, ground := Ground.chain }, { on := 0, ground := Ground.phase }, { on := 1, ground := Ground.phase }, { on := 2, ground := Ground.phase }, { on := 3, ground := Ground.phase }, { on := 4, ground := Ground.phase }, { on := 5, ground := Ground.phase }, { on := 6, ground := Ground.phase }, { on := 7, ground := Ground.phase }, { on := 8, ground := Ground.phase }, { on := 9, ground := Ground.phase }, { on := 10, ground := Ground.phase }, { on := 11, ground := Ground.phase }, { on := 12, ground := Ground.phase }, { on := 13, ground := Ground.phase }, { on := 14, ground := Ground.phase }, { on := 15, ground := Ground.phase }], guard := none }) (v := ?_) rfl (by kernel_rfl) (by kernel_rfl) (by kernel_rfl) (fun _ _ _ h => h) (Or.inl ⟨by rfl, ?_⟩) (by assumption) ?_
        rotate_left
        · intro w hSw
          go_simp
          try with_reducible rfl
        try simp only [Act.put, List.setIfInBounds_toArray, List.set_cons_zero, List.set_cons_succ]
        refine wpAnyH_take (i := 17) (oi := { dst := some 6, op := Op.assign (Operand.const (Value.int IntKind.i64 0)), type := 34, pos := "tlv.go:109", after := #[{ on := 16, ground := Ground.chain }, { on := 0, ground := Ground.phase }, { on := 1, ground := Ground.phase }, { on := 2, ground := Ground.phase }, { on := 3, ground := Ground.phase }, { on := 4, ground := Ground.phase }, { on := 5, ground := Ground.phase }, { on := 6, ground := Ground.phase }, { on := 7, ground := Ground.phase }, { on := 8, ground := Ground.phase }, { on := 9, ground := Ground.phase }, { on := 10, ground := Ground.phase }, { on := 11, ground := Ground.phase }, { on := 12, ground := Ground.phase }, { on := 13, ground := Ground.phase }, { on := 14, ground := Ground.phase }, { on := 15, ground := Ground.phase }, { on := 16, ground := Ground.phase }], guard := none }) (v := ?_) rfl (by kernel_rfl) (by kernel_rfl) (by kernel_rfl) (fun _ _ _ h => h) (Or.inl ⟨by rfl, ?_⟩) (by assumption) ?_
        rotate_left
        · intro w hSw
          go_simp
          try with_reducible rfl
        try simp only [Act.put, List.setIfInBounds_toArray, List.set_cons_zero, List.set_cons_succ]
        refine wpAnyH_done (by kernel_rfl) ?_ _
        go_wp2
        rw [unhide HZ]
        refine bodyPost_ret (results_tag5 rfl rfl (unhide HBF)) rfl ?_
        have hpl := unhide HPL
        refine ⟨C, f, ?_, by rw [hpl]; exact hcf, (unhide HFIN).1, by rw [hpl]; exact (unhide HFIN).2.mono_ (Nat.le_of_lt hH5), unhide HKF⟩
        simp only [hpl]
        rfl
  · have hz : takeF xs = ((0, 0), false, [], 0, (takeHeadF xs).2.2.2.2) := by unfold takeF; rw [if_pos he]
    have HZ := hide hz
    generalize takeHeadF xs = r at *
    obtain ⟨⟨cl, nu⟩, mm, ll, k, e⟩ := r
    simp only at he HZ HT
    unfold headE at HT
    have e1 : (e != 0) = true := by rw [bne_iff_ne]; exact he
    have e2 : (e == 0) = false := by rw [beq_eq_false_iff_ne]; exact he
    clear hz he hh
    unfold maxLen at hl
    generalize hn : xs.length = n at *
    go_enter Try.func45, Try.ntmps45
    go_wp2_with fail
    refine (unhide HT _ ((Keeps.refl w).alloc _)).mono ?_
    rintro e9 w1 ⟨rfl, hk⟩
    have hb := (Blk.new w 52 #[.int .i64 0, .int .i64 0]).keeps hk
    obtain ⟨hbc, hbf, hbl⟩ := hb.facts
    have HB := hide hb
    have HK := hide (((Keeps.refl w).alloc _).trans hk)
    clear hk hb
    go_wp2
    rw [unhide HZ]
    refine bodyPost_ret (results_tag5 rfl rfl (((unhide HB).set2 _ _).alloc _)) rfl ?_
    exact ⟨none, 0, rfl, Nat.le_refl _, Holds.nil _, Wr.zero, ((unhide HK).set2 (Nat.le_refl _) _ _).alloc _⟩
end Go.Proofs.Ytpogpjnbgdbpfaa
