/- Texts in pieces: numbers, signs, words; many names, marks and bounds, and what Parse makes of them. -/
import Derived.Test.YtckcbgijddglpaaDoorLexN4
import Derived.Test.YtckcbgijddglpaaDoorLexN5
import Derived.Test.YtckcbgijddglpaaDoorLexR0
import Derived.Test.YtckcbgijddglpaaDoorSynN2
namespace Go.Proofs.YtckcbgijddglpaaDoor
open Go.PlainAid
set_option linter.unusedVariables false
set_option linter.unusedSimpArgs false
set_option linter.unnecessarySimpa false
/-- The digits of a number. -/
def decL : Nat → Nat → List UInt8
  | 0, v => [UInt8.ofNat (48 + v % 10)]
  | f + 1, v => if v < 10 then [UInt8.ofNat (48 + v % 10)] else decL f (v / 10) ++ [UInt8.ofNat (48 + v % 10)]
theorem decL_fuel : ∀ f g v, v < 10 ^ (f + 1) → v < 10 ^ (g + 1) → decL f v = decL g v
  | 0, 0, v, _, _ => rfl
  | 0, g + 1, v, h, _ => by simp only [decL]; rw [if_pos (by simpa using h)]
  | f + 1, 0, v, _, h => by simp only [decL]; rw [if_pos (by simpa using h)]
  | f + 1, g + 1, v, h1, h2 => by
    simp only [decL]
    split
    · rfl
    · rw [decL_fuel f g (v / 10) (by rw [Nat.pow_succ] at h1; omega) (by rw [Nat.pow_succ] at h2; omega)]
def decB (v : Nat) : ByteArray := ⟨(decL 19 v).toArray⟩
theorem decB_small {v : Nat} (h : v < 10) : decB v = ⟨#[UInt8.ofNat (48 + v)]⟩ := by
  have : decL 19 v = [UInt8.ofNat (48 + v % 10)] := by simp only [decL]; rw [if_pos h]
  rw [decB, this, Nat.mod_eq_of_lt h]
theorem decB_step {v : Nat} (h : ¬ v < 10) (hv : v < 10 ^ 20) : decB v = decB (v / 10) ++ ⟨#[UInt8.ofNat (48 + v % 10)]⟩ := by
  have : decL 19 v = decL 19 (v / 10) ++ [UInt8.ofNat (48 + v % 10)] := by
    rw [decL_fuel 19 20 v hv (by omega)]
    show (if v < 10 then _ else _) = _
    rw [if_neg h]
  apply ba_ext
  rw [ByteArray.toList_data_append]
  show (decL 19 v).toArray.toList = (decL 19 (v / 10)).toArray.toList ++ _
  simp [this]
theorem dec_digs : ∀ f v, Digs (decL f v)
  | 0, v => by
    intro c hc
    simp only [decL, List.mem_singleton] at hc
    subst hc
    rw [UInt8.toNat_ofNat']; omega
  | f + 1, v => by
    intro c hc
    simp only [decL] at hc
    split at hc
    · rw [List.mem_singleton] at hc; subst hc; rw [UInt8.toNat_ofNat']; omega
    · rcases List.mem_append.1 hc with h | h
      · exact dec_digs f _ c h
      · rw [List.mem_singleton] at h; subst h; rw [UInt8.toNat_ofNat']; omega
theorem dec_val : ∀ f v, v < 10 ^ (f + 1) → valL 0 (decL f v) = v
  | 0, v, h => by
    simp only [decL, valL_cons, valL_nil, UInt8.toNat_ofNat']
    have : v < 10 := by simpa using h
    omega
  | f + 1, v, h => by
    simp only [decL]
    split
    · simp only [valL_cons, valL_nil, UInt8.toNat_ofNat']; omega
    · rw [valL_append, dec_val f (v / 10) (by rw [Nat.pow_succ] at h; omega)]
      simp only [valL_cons, valL_nil, UInt8.toNat_ofNat']; omega
theorem dec_pos : ∀ f v, 0 < (decL f v).length
  | 0, v => by simp [decL]
  | f + 1, v => by simp only [decL]; split <;> simp
theorem dec_len : ∀ f v, (decL f v).length ≤ f + 1
  | 0, v => by simp [decL]
  | f + 1, v => by
    simp only [decL]
    split
    · simp
    · have := dec_len f (v / 10); simp; omega
/-- No digit 0 stands first, but for 0 itself. -/
theorem dec_head : ∀ f v, 0 < v → v < 10 ^ (f + 1) → ∃ c r, decL f v = c :: r ∧ 49 ≤ c.toNat
  | 0, v, h, h2 => by
    have : v < 10 := by simpa using h2
    exact ⟨UInt8.ofNat (48 + v % 10), [], rfl, by rw [UInt8.toNat_ofNat']; omega⟩
  | f + 1, v, h, h2 => by
    simp only [decL]
    split
    · exact ⟨_, [], rfl, by rw [UInt8.toNat_ofNat']; omega⟩
    · obtain ⟨c, r, h3, h4⟩ := dec_head f (v / 10) (by omega) (by rw [Nat.pow_succ] at h2; omega)
      exact ⟨c, r ++ [UInt8.ofNat (48 + v % 10)], by rw [h3]; rfl, h4⟩
theorem dec_zero : decL 19 0 = [48] := rfl
/-- A number, with its sign. -/
def numB (v : Int) : ByteArray := if v < 0 then (⟨#[45]⟩ : ByteArray) ++ decB v.natAbs else decB v.natAbs
theorem numB_list (v : Int) : (numB v).data.toList = (if v < 0 then [45] else []) ++ decL 19 v.natAbs := by
  unfold numB
  split
  · rw [ByteArray.toList_data_append]; rfl
  · rfl
theorem dig_of_list {s : ByteArray} {k : Nat} {c : UInt8} (h : s.data.toList[k]? = some c) : bt s k = c.toNat := by rw [bt_list, h]; rfl
/-- At a place of the text stand these bytes. -/
def AtP (t : ByteArray) (i : Nat) (l : List UInt8) : Prop := ∀ k c, l[k]? = some c → t.data.toList[i + k]? = some c
theorem AtP.bt {t : ByteArray} {i : Nat} {l : List UInt8} (h : AtP t i l) {k : Nat} {c : UInt8} (hk : l[k]? = some c) : bt t (i + k) = c.toNat := dig_of_list (h k c hk)
theorem AtP.lt {t : ByteArray} {i : Nat} {l : List UInt8} (h : AtP t i l) {k : Nat} (hk : k < l.length) : i + k < t.size := by
  rw [Lib.size_eq]
  rcases Nat.lt_or_ge (i + k) t.data.toList.length with q | q
  · exact q
  · have := h k _ (List.getElem?_eq_getElem hk)
    rw [List.getElem?_eq_none q] at this; cases this
theorem AtP.left {t : ByteArray} {i : Nat} {l m : List UInt8} (h : AtP t i (l ++ m)) : AtP t i l := fun k c hk => h k c (by
  have hlt := (List.getElem?_eq_some_iff.1 hk).1
  rw [List.getElem?_append_left hlt]; exact hk)
theorem AtP.right {t : ByteArray} {i : Nat} {l m : List UInt8} (h : AtP t i (l ++ m)) : AtP t (i + l.length) m := fun k c hk => by
  rw [Nat.add_assoc]
  exact h _ _ (by rw [List.getElem?_append_right (by omega), Nat.add_sub_cancel_left]; exact hk)
theorem AtP.sub {t : ByteArray} {i : Nat} {x : ByteArray} (h : AtP t i x.data.toList) : sub t i (i + x.size) = x := by
  apply ba_ext
  rcases Nat.eq_zero_or_pos x.size with h0 | h0
  · have hx : x.data.toList = [] := List.eq_nil_of_length_eq_zero (by rw [← Lib.size_eq]; exact h0)
    rw [hx, h0]
    unfold Go.Proofs.YtckcbgijddglpaaDoor.sub
    rw [Nat.add_zero]
    apply List.eq_nil_of_length_eq_zero
    rw [← Lib.size_eq, ByteArray.size_extract]; omega
  · have hle : i + x.size ≤ t.size := by
      have := h.lt (k := x.size - 1) (by rw [← Lib.size_eq]; omega)
      omega
    rw [sub_list _ _ _ hle]
    apply List.ext_getElem?
    intro k
    rw [List.getElem?_drop, List.getElem?_take]
    rcases Nat.lt_or_ge k x.data.toList.length with hk | hk
    · have e := List.getElem?_eq_getElem hk
      rw [if_pos (by rw [Lib.size_eq]; omega), h k _ e, e]
    · rw [if_neg (by rw [Lib.size_eq]; omega), List.getElem?_eq_none hk]
/-- A piece of a text: a blank ahead of it, its kind, its bytes. -/
abbrev Pc := Bool × Int × ByteArray
def pcL (q : Pc) : List UInt8 := (if q.1 = true then [32] else []) ++ q.2.2.data.toList
def textP : List Pc → List UInt8
  | [] => []
  | q :: ps => pcL q ++ textP ps
/-- A piece is a token, where such a byte follows. -/
def PieceOk (k : Int) (x : ByteArray) (nb : Int) : Prop := 0 < x.size ∧ ∀ t p, AtP t p x.data.toList → bt t (p + x.size) = nb → isWh (bt t p) = false ∧ ¬ (bt t p = 45 ∧ bt t (p + 1) = 45) ∧ tokAt t p = some (k, x, p + x.size)
def nbP : List Pc → Int
  | [] => 0
  | q :: _ => if q.1 = true then 32 else bt q.2.2 0
def ChainP : List Pc → Prop
  | [] => True
  | q :: ps => PieceOk q.2.1 q.2.2 (nbP ps) ∧ ChainP ps
def toksP (p : Nat) : List Pc → List Tok
  | [] => [(0, ⟨#[]⟩, p)]
  | q :: ps => (q.2.1, q.2.2, p + (if q.1 = true then 1 else 0)) :: toksP (p + (if q.1 = true then 1 else 0) + q.2.2.size) ps
theorem bt_first {x : ByteArray} (h : 0 < x.size) : ∃ c, x.data.toList[0]? = some c ∧ bt x 0 = c.toNat := bt_eq_of h
theorem toks_pieces (t : ByteArray) : ∀ (ps : List Pc) (p : Nat), ChainP ps → AtP t p (textP ps) → p + (textP ps).length = t.size → toksAt t p = .ok (toksP p ps)
  | [], p, _, _, he => by
    have hp : p = t.size := by simpa [textP] using he
    subst hp
    have hs : skipAt t t.size = t.size := by rw [skipAt_eq, bt_end t (Nat.le_refl _), bt_end t (Nat.le_succ _)]; simp [isWh]
    rw [toksAt_eq (Nat.le_refl _), hs, if_pos (Nat.le_refl _)]
    rfl
  | q :: ps, p, hc, hA, he => by
    obtain ⟨⟨h0, hok⟩, hcs⟩ := hc
    obtain ⟨b, k, x⟩ := q
    simp only at h0 hok
    -- the place of the piece itself
    have key : ∀ a, AtP t a (x.data.toList ++ textP ps) → a + x.size + (textP ps).length = t.size → toksAt t a = .ok ((k, x, a) :: toksP (a + x.size) ps) := by
      intro a hA he
      have hAx := hA.left
      have hlen : x.data.toList.length = x.size := (Lib.size_eq x).symm
      have hAr := hA.right
      rw [hlen] at hAr
      have hnb : bt t (a + x.size) = nbP ps := by
        cases ps with
        | nil => exact bt_end t (by simp [textP] at he; omega)
        | cons r rs =>
          obtain ⟨rb, rk, rx⟩ := r
          obtain ⟨⟨r0, _⟩, _⟩ := hcs
          simp only at r0
          obtain ⟨c, hc1, hc2⟩ := bt_first r0
          cases rb with
          | true => have := hAr.bt (k := 0) (c := 32) (by simp [textP, pcL]); simpa [nbP] using this
          | false =>
            have := hAr.bt (k := 0) (c := c) (by
              simp only [textP, pcL]
              rw [if_neg (by decide), List.nil_append, List.getElem?_append_left (by rw [← Lib.size_eq]; exact r0)]
              exact hc1)
            simp only [nbP]
            rw [if_neg (by decide), hc2]
            simpa using this
      obtain ⟨h1, h2, h3⟩ := hok t a hAx hnb
      have hsk : skipAt t a = a := skipAt_stop h1 h2
      have hlt : a < t.size := by omega
      have ih := toks_pieces t ps (a + x.size) hcs hAr he
      rw [toksAt_eq (Nat.le_of_lt hlt), hsk, if_neg (by omega), h3]
      simp only [ih]
    have hlen : x.data.toList.length = x.size := (Lib.size_eq x).symm
    cases b with
    | false =>
      have hA' : AtP t p (x.data.toList ++ textP ps) := by simpa [textP, pcL] using hA
      have he' : p + x.size + (textP ps).length = t.size := by simp [textP, pcL, hlen] at he; omega
      simpa [toksP] using key p hA' he'
    | true =>
      have hA' : AtP t p ([32] ++ (x.data.toList ++ textP ps)) := by simpa [textP, pcL] using hA
      have he' : p + 1 + x.size + (textP ps).length = t.size := by simp [textP, pcL, hlen] at he; omega
      have hb : bt t p = 32 := by have := hA'.bt (k := 0) (c := 32) (by simp); simpa using this
      have hA2 := hA'.right
      have hlt : p < t.size := by omega
      have e1 : toksAt t p = toksAt t (p + 1) := by
        rw [toksAt_eq (Nat.le_of_lt hlt), toksAt_eq hlt, skipAt_white (by rw [hb]; rfl)]
      rw [e1, key (p + 1) hA2 he']
      simp [toksP]
theorem toks_text {t : ByteArray} {ps : List Pc} (hc : ChainP ps) (ht : t.data.toList = textP ps) (hs : t.size ≤ 8000) : toks t = .ok (toksP 0 ps) := by
  have := toks_pieces t ps 0 hc (by rw [← ht]; intro k c hk; rw [Nat.zero_add]; exact hk) (by rw [← ht, ← Lib.size_eq]; omega)
  rw [toks, if_neg (by omega), this]; rfl
/-! ### Words, names, signs, numbers -/
def nameCh (c : UInt8) : Bool := isLet c.toNat || isDig c.toNat
theorem word_ok {x : ByteArray} {c0 : UInt8} (h0 : x.data.toList[0]? = some c0) (hl : isLet c0.toNat = true) (hall : x.data.toList.all nameCh = true) (hs : x.size ≤ 60) {nb : Int} (hn : isLet nb = false ∧ isDig nb = false ∧ nb ≠ 45) : PieceOk (kindOf x) x nb := by
  have hpos : 0 < x.size := by rw [Lib.size_eq]; exact (List.getElem?_eq_some_iff.1 h0).1
  refine ⟨hpos, fun t p hA hnb => ?_⟩
  have hb0 : bt t p = c0.toNat := by have := hA.bt h0; simpa using this
  have hch : ∀ k, k < x.size → isLet (bt t (p + k)) = true ∨ isDig (bt t (p + k)) = true := by
    intro k hk
    have e := List.getElem?_eq_getElem (show k < x.data.toList.length by rw [← Lib.size_eq]; exact hk)
    rw [hA.bt e]
    have := List.all_eq_true.1 hall _ (List.mem_of_getElem? e)
    simpa [nameCh] using this
  have hrun : IsRun (nmP t) p (p + x.size) := ⟨by omega, fun k h1 h2 => by
    have := hch (k - p) (by omega)
    rw [show p + (k - p) = k by omega] at this
    rcases this with q | q <;> simp [nmP, q]⟩
  have hstop : nmP t (p + x.size) = false := by rw [nmP, hnb, hn.1, hn.2.1]; simp [hn.2.2]
  have hple : p + x.size ≤ t.size := by have := hA.lt (k := x.size - 1) (by rw [← Lib.size_eq]; omega); omega
  have hend : nameEnd t p = p + x.size := spanAt_run (nmP_lt t) (by omega) hrun hstop
  have hlast : bt t (p + x.size - 1) ≠ 45 := by
    have := hch (x.size - 1) (by omega)
    rw [show p + (x.size - 1) = p + x.size - 1 by omega] at this
    intro e
    rw [e] at this
    revert this; decide
  have hsub : sub t p (p + x.size) = x := hA.sub
  refine ⟨?_, ?_, ?_⟩
  · rw [hb0]
    cases hw : isWh (c0.toNat : Int) with
    | false => rfl
    | true =>
      exfalso
      simp [isWh, isLet] at hw hl; omega
  · rw [hb0]; rintro ⟨e, _⟩; rw [e] at hl; revert hl; decide
  · rw [tokAt, hb0, if_pos hl, nameAt, nameOk, hend, hsub, if_pos]
    rw [decide_eq_true_iff]
    exact ⟨by omega, hlast⟩
theorem num_digits {t : ByteArray} {p f : Nat} {x : ByteArray} {l : List UInt8} (hA : AtP t p x.data.toList) (hs : x.data.toList.drop (f - p) = l) (hf : numFrom t p = f) (hpf : p ≤ f) (hz : x.size = (f - p) + l.length) (h0 : isLet (bt t p) = false) (hstart : isDig (bt t p) = true ∨ bt t p = 45) (hl : Digs l) (hne : 0 < l.length)
    (hfirst : bt t f ≠ 48 ∨ (l.length ≤ 1 ∧ bt t p ≠ 45)) (hlen : l.length ≤ 19) (hv : valL 0 l ≤ 9223372036854775808) (hv2 : bt t p = 45 ∨ valL 0 l ≠ 9223372036854775808) {nb : Int} (hnb : bt t (p + x.size) = nb) (hn : isLet nb = false ∧ isDig nb = false) : tokAt t p = some (3, x, p + x.size) := by
  have hple : p + x.size ≤ t.size := by have := hA.lt (k := x.size - 1) (by rw [← Lib.size_eq]; omega); omega
  have hrun : IsRun (dgP t) f (p + x.size) := by
    refine ⟨by omega, fun k h1 h2 => ?_⟩
    have hk2 : l[k - f]? = some (l[k - f]'(by omega)) := List.getElem?_eq_getElem (by omega)
    have hk3 : x.data.toList[k - p]? = some (l[k - f]'(by omega)) := by rw [← hk2, ← hs, List.getElem?_drop]; congr 1; omega
    have hd := hl _ (List.getElem_mem (show k - f < l.length by omega))
    have hb := hA.bt hk3
    rw [show p + (k - p) = k by omega] at hb
    rw [dgP, hb]
    simp only [isDig, Bool.and_eq_true, decide_eq_true_eq]
    omega
  have hstop : dgP t (p + x.size) = false := by rw [dgP, hnb]; exact hn.2
  have hend : numEnd t p = p + x.size := by rw [numEnd, hf]; exact spanAt_run (dgP_lt t) (by omega) hrun hstop
  have hsub : sub t p (p + x.size) = x := hA.sub
  have hsubf : (sub t f (p + x.size)).data.toList = l := by
    have e := sub_list t p (p + x.size) hple
    rw [hsub] at e
    rw [sub_list t f _ hple, ← hs, e, List.drop_drop, show p + (f - p) = f by omega]
  have hval : dval t f (min (p + x.size - f) 19) = valL 0 l := by
    rw [show min (p + x.size - f) 19 = p + x.size - f by omega, dval_list t f (p + x.size - f) (by omega), show f + (p + x.size - f) = p + x.size by omega, hsubf]
  have hok : numOk t p = true := num_yes hf hend (by omega) (by omega) (by rcases hfirst with h | h; exact .inl h; exact .inr ⟨by omega, h.2⟩) (by rw [hnb]; exact hn.1) (by rw [hval]; exact hv) (by rw [hval]; exact hv2)
  rw [tokAt, if_neg (by simp [h0]), if_pos hstart, numAt, if_pos hok, hend, hsub]
theorem num_ok (v : Int) (h0 : -9223372036854775808 ≤ v) (h1 : v ≤ 9223372036854775807) {nb : Int} (hn : isLet nb = false ∧ isDig nb = false) : PieceOk 3 (numB v) nb := by
  have hL := numB_list v
  have hnn : v.natAbs ≤ 9223372036854775808 := by omega
  have hpow : v.natAbs < 10 ^ 20 := Nat.lt_of_le_of_lt hnn (by decide)
  have hval := dec_val 19 v.natAbs hpow
  have hdg := dec_digs 19 v.natAbs
  have hps := dec_pos 19 v.natAbs
  have hdl : (decL 19 v.natAbs).length ≤ 19 := by
    have : decL 19 v.natAbs = decL 18 v.natAbs := decL_fuel 19 18 _ hpow (Nat.lt_of_le_of_lt hnn (by decide))
    rw [this]; exact dec_len 18 _
  have hzero : v = 0 ∨ 0 < v.natAbs := by omega
  have hsz : (numB v).size = (if v < 0 then 1 else 0) + (decL 19 v.natAbs).length := by
    rw [Lib.size_eq, hL, List.length_append]; split <;> rfl
  refine ⟨by rw [hsz]; omega, fun t p hA hnb => ?_⟩
  by_cases hneg : v < 0
  · rw [if_pos hneg] at hL hsz
    obtain ⟨c, r, hcr, hc⟩ := dec_head 19 v.natAbs (by omega) hpow
    have hb0 : bt t p = 45 := by have := hA.bt (k := 0) (c := 45) (by rw [hL]; rfl); simpa using this
    have hb1 : bt t (p + 1) = c.toNat := hA.bt (by rw [hL, hcr]; rfl)
    have hf : numFrom t p = p + 1 := by rw [numFrom, if_pos hb0]
    refine ⟨by rw [hb0]; rfl, by rw [hb1]; rintro ⟨_, h⟩; omega, num_digits (f := p + 1) (l := decL 19 v.natAbs) hA (by rw [hL, show p + 1 - p = 1 by omega]; rfl) hf (by omega) (by rw [hsz]; omega) (by rw [hb0]; rfl) (.inr hb0) hdg hps (.inl (by rw [hb1]; omega)) hdl (by rw [hval]; exact hnn) (.inl hb0) hnb hn⟩
  · rw [if_neg hneg, List.nil_append] at hL
    rw [if_neg hneg, Nat.zero_add] at hsz
    obtain ⟨c, hc⟩ : ∃ c, (decL 19 v.natAbs)[0]? = some c := ⟨_, List.getElem?_eq_getElem hps⟩
    have hcd := hdg c (List.mem_of_getElem? hc)
    have hb0 : bt t p = c.toNat := by have := hA.bt (k := 0) (c := c) (by rw [hL]; exact hc); simpa using this
    have hf : numFrom t p = p := by rw [numFrom, if_neg (by omega)]
    have hdg0 : isDig (bt t p) = true := by rw [hb0]; simp only [isDig, Bool.and_eq_true, decide_eq_true_eq]; omega
    have hfirst : bt t p ≠ 48 ∨ ((decL 19 v.natAbs).length ≤ 1 ∧ bt t p ≠ 45) := by
      rcases hzero with h | h
      · subst h; exact .inr ⟨by decide, by omega⟩
      · obtain ⟨c', r, hcr, hc'⟩ := dec_head 19 v.natAbs h hpow
        rw [hcr] at hc
        injection hc with hc
        subst hc
        exact .inl (by omega)
    refine ⟨?_, by omega, num_digits (f := p) (l := decL 19 v.natAbs) hA (by rw [hL, Nat.sub_self]; rfl) hf (Nat.le_refl _) (by rw [hsz]; omega) ?_ (.inl hdg0) hdg hps hfirst hdl (by rw [hval]; exact hnn) (.inr (by rw [hval]; omega)) hnb hn⟩
    · rw [hb0]; simp only [isWh, Bool.or_eq_false_iff, decide_eq_false_iff_not]; omega
    · rw [hb0]; simp only [isLet, Bool.or_eq_false_iff, Bool.and_eq_false_iff, decide_eq_false_iff_not]; omega
theorem numT_numB (v : Int) (h0 : -9223372036854775808 ≤ v) (h1 : v ≤ 9223372036854775807) : numT (numB v) = v := by
  have hL := numB_list v
  have hnn : v.natAbs ≤ 9223372036854775808 := by omega
  have hpow : v.natAbs < 10 ^ 20 := Nat.lt_of_le_of_lt hnn (by decide)
  have hval := dec_val 19 v.natAbs hpow
  have hdg := dec_digs 19 v.natAbs
  have hps := dec_pos 19 v.natAbs
  have hne : decL 19 v.natAbs ≠ [] := by intro e; rw [e] at hps; simp at hps
  unfold numT
  by_cases hneg : v < 0
  · rw [hL, if_pos hneg]
    show (match Lib.parseIntB 64 (45 :: decL 19 v.natAbs) with | .ok v => v | _ => 0) = v
    rw [parseIntB_minus_digs hdg hne, hval, if_pos hnn]
    show -((v.natAbs : Nat) : Int) = v
    omega
  · rw [hL, if_neg hneg, List.nil_append, parseIntB_digs hdg hne, hval, if_pos (by omega)]
    show ((v.natAbs : Nat) : Int) = v
    omega
/-! ### Signs -/
theorem starts_yes {t : ByteArray} {p : Nat} {x : ByteArray} (hx : ∀ k, k < x.size → bt x k ≠ 0) (hA : AtP t p x.data.toList) : starts t p x = true := by
  rw [starts_iff hx]
  intro k hk
  obtain ⟨c, h1, h2⟩ := bt_eq_of hk
  rw [hA.bt h1, h2]
theorem starts_no {t : ByteArray} {p : Nat} {x : ByteArray} (hx : ∀ k, k < x.size → bt x k ≠ 0) {k : Nat} (hk : k < x.size) (h : bt t (p + k) ≠ bt x k) : starts t p x = false := by
  cases hs : starts t p x with
  | false => rfl
  | true => exact absurd ((starts_iff hx).1 hs k hk) h
theorem sign_ok {x : ByteArray} {l1 l2 : List ByteArray} (e : signsL = l1 ++ x :: l2) {nb : Int} (hpos : 0 < x.size) (hnz : ∀ k, k < x.size → bt x k ≠ 0) (hf : isWh (bt x 0) = false ∧ isLet (bt x 0) = false ∧ isDig (bt x 0) = false ∧ bt x 0 ≠ 45 ∧ bt x 0 ≠ 39 ∧ bt x 0 ≠ 34)
    (hno : ∀ y ∈ l1, ∀ t p, AtP t p x.data.toList → bt t (p + x.size) = nb → starts t p y = false) : PieceOk 6 x nb := by
  refine ⟨hpos, fun t p hA hnb => ?_⟩
  obtain ⟨c, hc1, hc2⟩ := bt_first hpos
  have hb : bt t p = bt x 0 := by rw [hc2]; have := hA.bt hc1; simpa using this
  obtain ⟨f1, f2, f3, f4, f5, f6⟩ := hf
  have hfind : signsL.find? (starts t p) = some x := by
    rw [e, List.find?_append]
    have h1 : l1.find? (starts t p) = none := List.find?_eq_none.2 fun y hy => by rw [hno y hy t p hA hnb]; decide
    rw [h1, List.find?_cons_of_pos (starts_yes hnz hA)]; rfl
  refine ⟨by rw [hb]; exact f1, by rw [hb]; exact fun h => f4 h.1, ?_⟩
  rw [tokAt, hb, if_neg (by simp [f2]), if_neg (by simp [f3, f4]), if_neg f5, if_neg f6, signAt, hfind]
/-- .. all signs ahead of it begin otherwise. -/
theorem sign_ok1 {x : ByteArray} {l1 l2 : List ByteArray} (e : signsL = l1 ++ x :: l2) (nb : Int) (hpos : 0 < x.size) (hnz : ∀ k, k < x.size → bt x k ≠ 0) (hf : isWh (bt x 0) = false ∧ isLet (bt x 0) = false ∧ isDig (bt x 0) = false ∧ bt x 0 ≠ 45 ∧ bt x 0 ≠ 39 ∧ bt x 0 ≠ 34)
    (hno : ∀ y ∈ l1, 0 < y.size ∧ (∀ k, k < y.size → bt y k ≠ 0) ∧ bt x 0 ≠ bt y 0) : PieceOk 6 x nb :=
  sign_ok e hpos hnz hf fun y hy t p hA hnb => by
    obtain ⟨h1, h2, h3⟩ := hno y hy
    obtain ⟨c, hc1, hc2⟩ := bt_first hpos
    have hb : bt t p = bt x 0 := by rw [hc2]; have := hA.bt hc1; simpa using this
    exact starts_no h2 h1 (by rw [Nat.add_zero, hb]; exact h3)
theorem pk_ass (nb : Int) : PieceOk 6 s_ass nb := sign_ok1 (l1 := []) rfl nb (by decide) (by decide) (by decide) (by simp)
theorem pk_lp (nb : Int) : PieceOk 6 s_lp nb := sign_ok1 (l1 := [s_ass, s_dots, s_dd, s_ll, s_rr, s_lb, s_rb, s_ls, s_rs]) rfl nb (by decide) (by decide) (by decide) (by decide)
theorem pk_rp (nb : Int) : PieceOk 6 s_rp nb := sign_ok1 (l1 := [s_ass, s_dots, s_dd, s_ll, s_rr, s_lb, s_rb, s_ls, s_rs, s_lp]) rfl nb (by decide) (by decide) (by decide) (by decide)
theorem pk_cm (nb : Int) : PieceOk 6 s_cm nb := sign_ok1 (l1 := [s_ass, s_dots, s_dd, s_ll, s_rr, s_lb, s_rb, s_ls, s_rs, s_lp, s_rp]) rfl nb (by decide) (by decide) (by decide) (by decide)
theorem pk_dots (nb : Int) : PieceOk 6 s_dots nb := sign_ok1 (l1 := [s_ass]) rfl nb (by decide) (by decide) (by decide) (by decide)
theorem pk_dd {nb : Int} (h : nb ≠ 46) : PieceOk 6 s_dd nb := sign_ok (l1 := [s_ass, s_dots]) rfl (by decide) (by decide) (by decide) fun y hy t p hA hnb => by
  simp only [List.mem_cons, List.not_mem_nil, or_false] at hy
  have hb : bt t p = 46 := by have := hA.bt (k := 0) (c := 46) rfl; simpa using this
  rcases hy with rfl | rfl
  · exact starts_no (by decide) (k := 0) (by decide) (by rw [Nat.add_zero, hb]; decide)
  · exact starts_no (by decide) (k := 2) (by decide) (by have : bt t (p + 2) = nb := hnb; rw [this]; exact h)
theorem pk_ls {nb : Int} (h : nb ≠ 91) : PieceOk 6 s_ls nb := sign_ok (l1 := [s_ass, s_dots, s_dd, s_ll, s_rr, s_lb, s_rb]) rfl (by decide) (by decide) (by decide) fun y hy t p hA hnb => by
  simp only [List.mem_cons, List.not_mem_nil, or_false] at hy
  have hb : bt t p = 91 := by have := hA.bt (k := 0) (c := 91) rfl; simpa using this
  have h0 : ∀ y : ByteArray, (∀ k, k < y.size → bt y k ≠ 0) → 0 < y.size → (91 : Int) ≠ bt y 0 → starts t p y = false := fun y a b c => starts_no a b (by rw [Nat.add_zero, hb]; exact c)
  rcases hy with rfl | rfl | rfl | rfl | rfl | rfl | rfl
  · exact h0 _ (by decide) (by decide) (by decide)
  · exact h0 _ (by decide) (by decide) (by decide)
  · exact h0 _ (by decide) (by decide) (by decide)
  · exact starts_no (by decide) (k := 1) (by decide) (by have : bt t (p + 1) = nb := hnb; rw [this]; exact h)
  · exact h0 _ (by decide) (by decide) (by decide)
  · exact h0 _ (by decide) (by decide) (by decide)
  · exact h0 _ (by decide) (by decide) (by decide)
theorem pk_rs {nb : Int} (h : nb ≠ 93) : PieceOk 6 s_rs nb := sign_ok (l1 := [s_ass, s_dots, s_dd, s_ll, s_rr, s_lb, s_rb, s_ls]) rfl (by decide) (by decide) (by decide) fun y hy t p hA hnb => by
  simp only [List.mem_cons, List.not_mem_nil, or_false] at hy
  have hb : bt t p = 93 := by have := hA.bt (k := 0) (c := 93) rfl; simpa using this
  have h0 : ∀ y : ByteArray, (∀ k, k < y.size → bt y k ≠ 0) → 0 < y.size → (93 : Int) ≠ bt y 0 → starts t p y = false := fun y a b c => starts_no a b (by rw [Nat.add_zero, hb]; exact c)
  rcases hy with rfl | rfl | rfl | rfl | rfl | rfl | rfl | rfl
  · exact h0 _ (by decide) (by decide) (by decide)
  · exact h0 _ (by decide) (by decide) (by decide)
  · exact h0 _ (by decide) (by decide) (by decide)
  · exact h0 _ (by decide) (by decide) (by decide)
  · exact starts_no (by decide) (k := 1) (by decide) (by have : bt t (p + 1) = nb := hnb; rw [this]; exact h)
  · exact h0 _ (by decide) (by decide) (by decide)
  · exact h0 _ (by decide) (by decide) (by decide)
  · exact h0 _ (by decide) (by decide) (by decide)
theorem chain_blank : ∀ {ps : List Pc}, (∀ q ∈ ps, q.1 = true ∧ PieceOk q.2.1 q.2.2 32 ∧ PieceOk q.2.1 q.2.2 0) → ChainP ps
  | [], _ => trivial
  | q :: ps, h => by
    refine ⟨?_, chain_blank fun x hx => h x (List.mem_cons_of_mem _ hx)⟩
    obtain ⟨-, h1, h2⟩ := h q (List.mem_cons_self ..)
    cases ps with
    | nil => exact h2
    | cons r rs =>
      have hr := (h r (List.mem_cons_of_mem _ (List.mem_cons_self ..))).1
      rw [nbP, if_pos hr]; exact h1
theorem textP_append : ∀ (a b : List Pc), textP (a ++ b) = textP a ++ textP b
  | [], b => rfl
  | q :: a, b => by rw [List.cons_append, textP, textP, textP_append a b, List.append_assoc]
def pcW (x : ByteArray) : Pc := (true, kindOf x, x)
def tnB (i : Nat) : ByteArray := (⟨#[84]⟩ : ByteArray) ++ decB i
def manyPs : Nat → List Pc
  | 0 => []
  | i + 1 => manyPs i ++ [pcW (tnB i), (true, 6, s_ass), pcW wNULL]
def preP : List Pc := [(false, 1, ⟨#[77]⟩), pcW wDEFINITIONS, (true, 6, s_ass), pcW wBEGIN]
def manyP (n : Nat) : List Pc := preP ++ (manyPs n ++ [pcW wEND])
def soL (k : Nat) : List UInt8 := textP preP ++ textP (manyPs k)
def soB (k : Nat) : ByteArray := ⟨(soL k).toArray⟩
theorem so_zero : soB 0 = ⟨#[77, 32, 68, 69, 70, 73, 78, 73, 84, 73, 79, 78, 83, 32, 58, 58, 61, 32, 66, 69, 71, 73, 78]⟩ := by kernel_rfl
theorem tn_list (i : Nat) : (tnB i).data.toList = 84 :: (decB i).data.toList := by rw [tnB, ByteArray.toList_data_append]; rfl
theorem so_succ (k : Nat) : soB k ++ ⟨#[32]⟩ ++ ⟨#[84]⟩ ++ decB k ++ ⟨#[32, 58, 58, 61, 32, 78, 85, 76, 76]⟩ = soB (k + 1) := ba_ext (by
  rw [ByteArray.toList_data_append, ByteArray.toList_data_append, ByteArray.toList_data_append, ByteArray.toList_data_append]
  show (soL k) ++ [32] ++ [84] ++ (decB k).data.toList ++ [32, 58, 58, 61, 32, 78, 85, 76, 76] = soL (k + 1)
  have e1 : s_ass.data.toList = [58, 58, 61] := by decide
  have e2 : wNULL.data.toList = [78, 85, 76, 76] := by decide
  simp [soL, manyPs, textP_append, textP, pcL, pcW, tn_list, e1, e2])
theorem so_size : ∀ k, (soB k).size ≤ 23 + 31 * k
  | 0 => by decide
  | k + 1 => by
    rw [← so_succ]
    have := so_size k
    have h2 : (decB k).size ≤ 20 := by rw [Lib.size_eq]; exact dec_len 19 _
    rw [ByteArray.size_append, ByteArray.size_append, ByteArray.size_append, ByteArray.size_append]
    show (soB k).size + 1 + 1 + (decB k).size + 9 ≤ _
    omega
theorem so_text (n : Nat) : (soB n ++ ⟨#[32, 69, 78, 68]⟩).data.toList = textP (manyP n) := by
  rw [ByteArray.toList_data_append]
  show soL n ++ [32, 69, 78, 68] = _
  have e1 : wEND.data.toList = [69, 78, 68] := by decide
  simp [soL, manyP, textP_append, textP, pcL, pcW, e1]
theorem pk_word (x : ByteArray) (h : (match x.data.toList[0]? with | some c => isLet c.toNat | none => false) = true ∧ x.data.toList.all nameCh = true ∧ x.size ≤ 60) {nb : Int} (hn : isLet nb = false ∧ isDig nb = false ∧ nb ≠ 45) : PieceOk (kindOf x) x nb := by
  obtain ⟨h0, h1, h2⟩ := h
  cases hc : x.data.toList[0]? with
  | none => rw [hc] at h0; cases h0
  | some c => rw [hc] at h0; exact word_ok hc h0 h1 h2 hn
theorem tn_word (i : Nat) {nb : Int} (hn : isLet nb = false ∧ isDig nb = false ∧ nb ≠ 45) : PieceOk (kindOf (tnB i)) (tnB i) nb := by
  refine pk_word _ ⟨by rw [tn_list]; show isLet (((84 : UInt8).toNat : Nat) : Int) = true; decide, ?_, ?_⟩ hn
  · rw [tn_list, List.all_cons, Bool.and_eq_true]
    refine ⟨by decide, List.all_eq_true.2 fun c hc => ?_⟩
    have := dec_digs 19 i c hc
    simp only [nameCh, isDig, Bool.or_eq_true, Bool.and_eq_true, decide_eq_true_eq]
    omega
  · have h2 : (decB i).size ≤ 20 := by rw [Lib.size_eq]; exact dec_len 19 _
    rw [tnB, ByteArray.size_append]
    show 1 + (decB i).size ≤ _
    omega
def BlankOk (q : Pc) : Prop := q.1 = true ∧ PieceOk q.2.1 q.2.2 32 ∧ PieceOk q.2.1 q.2.2 0
theorem blank_word (x : ByteArray) (h : (match x.data.toList[0]? with | some c => isLet c.toNat | none => false) = true ∧ x.data.toList.all nameCh = true ∧ x.size ≤ 60) : BlankOk (pcW x) := ⟨rfl, pk_word x h (by decide), pk_word x h (by decide)⟩
theorem blank_ass : BlankOk (true, 6, s_ass) := ⟨rfl, pk_ass _, pk_ass _⟩
theorem many_blank : ∀ k, ∀ q ∈ manyPs k, BlankOk q
  | 0, q, h => by simp [manyPs] at h
  | k + 1, q, h => by
    rw [manyPs, List.mem_append] at h
    rcases h with h | h
    · exact many_blank k q h
    · simp only [List.mem_cons, List.not_mem_nil, or_false] at h
      rcases h with rfl | rfl | rfl
      · exact ⟨rfl, tn_word k (by decide), tn_word k (by decide)⟩
      · exact blank_ass
      · exact blank_word _ (by decide)
theorem many_chain (n : Nat) : ChainP (manyP n) := by
  have h0 : PieceOk 1 ⟨#[77]⟩ 32 := pk_word ⟨#[77]⟩ (by decide) (by decide)
  refine ⟨h0, chain_blank (ps := [pcW wDEFINITIONS, (true, 6, s_ass), pcW wBEGIN] ++ (manyPs n ++ [pcW wEND])) fun q hq => ?_⟩
  rcases List.mem_append.1 hq with h | h
  · simp only [List.mem_cons, List.not_mem_nil, or_false] at h
    rcases h with rfl | rfl | rfl
    · exact blank_word _ (by decide)
    · exact blank_ass
    · exact blank_word _ (by decide)
  · rcases List.mem_append.1 h with h | h
    · exact many_blank n q h
    · simp only [List.mem_cons, List.not_mem_nil, or_false] at h
      subst h
      exact blank_word _ (by decide)
theorem many_toks (n : Nat) (h : n ≤ 100) : toks (soB n ++ ⟨#[32, 69, 78, 68]⟩) = .ok (toksP 0 (manyP n)) := by
  refine toks_text (many_chain n) (so_text n) ?_
  have := so_size n
  rw [ByteArray.size_append]
  show (soB n).size + 4 ≤ _
  omega
def manyOk (n : Nat) : Bool := match moduleT (toksP 0 (manyP n)) with
  | .ok m => decide (n ≤ 40) && m.names.length == n && m.nodes.length == n
  | .error (p, x) => decide (40 < n) && decide (p = (soL 40).length + 1) && x == 5
theorem many_0 : manyOk 38 = true := by kernel_rfl
theorem many_1 : manyOk 39 = true := by kernel_rfl
theorem many_2 : manyOk 40 = true := by kernel_rfl
theorem many_3 : manyOk 41 = true := by kernel_rfl
theorem many_all (m : Nat) (h : m < 4) : manyOk (38 + m) = true := by
  match m, h with
  | 0, _ => exact many_0
  | 1, _ => exact many_1
  | 2, _ => exact many_2
  | 3, _ => exact many_3
def pcF (k : Int) (x : ByteArray) : Pc := (false, k, x)
def headP : List Pc := [pcF 1 ⟨#[77]⟩, pcW wDEFINITIONS, (true, 6, s_ass), pcW wBEGIN, pcW ⟨#[65]⟩, (true, 6, s_ass)]
def modeP : Nat → List Pc
  | 1 => [pcW wEXPLICIT]
  | 2 => [pcW wIMPLICIT]
  | _ => []
def marksP (x : ByteArray) (mode : Nat) : List Pc := headP ++ ((true, 6, s_ls) :: pcF 3 x :: pcF 6 s_rs :: (modeP mode ++ [pcW wNULL, pcW wEND]))
def marksL (x : ByteArray) (mode : Nat) : List Tok := toksP 0 (marksP x mode)
def marksM (x : ByteArray) (mode : Nat) : ModV := { name := ⟨#[77]⟩, tagging := 0, names := [⟨#[65]⟩], types := [0], nodes := [{ kind := 4, mHas := true, mNum := numT x, mMode := (mode : Int) }] }
theorem marks_mod (x : ByteArray) (mode : Nat) (h : mode < 3) : moduleT (marksL x mode) = ((nodeT (marksL x mode) 17 6 [] >>= fun r => assignsT (marksL x mode) (marksL x mode).length { name := ⟨#[77]⟩, tagging := 0, names := [⟨#[65]⟩], types := [r.1], nodes := r.2.2 } r.2.1) >>= fun q => wantT (marksL x mode) q.2 wEND >>= fun i => if (tk (marksL x mode) i).1 = 0 then (.ok q.1 : Except SErr ModV) else errT (marksL x mode) i 7) := by
  match mode, h with
  | 0, _ => rfl
  | 1, _ => rfl
  | 2, _ => rfl
theorem marks_bad (x : ByteArray) (mode : Nat) (h : mode < 3) (hx : numT x < 0 ∨ 268435456 < numT x) : moduleT (marksL x mode) = .error (31, 12) := by
  have hm : markT (marksL x mode) {} 6 = .error (31, 12) := by
    have e : markT (marksL x mode) {} 6 = if numT x < 0 ∨ 268435456 < numT x then .error (31, 12) else (wantT (marksL x mode) 8 s_rs >>= fun j => if isT (marksL x mode) j wEXPLICIT = true then .ok ({ mHas := true, mNum := numT x, mMode := 1 }, j + 1) else if isT (marksL x mode) j wIMPLICIT = true then .ok ({ mHas := true, mNum := numT x, mMode := 2 }, j + 1) else .ok ({ mHas := true, mNum := numT x }, j)) := by
      match mode, h with
      | 0, _ => rfl
      | 1, _ => rfl
      | 2, _ => rfl
    rw [e, if_pos hx]
  rw [marks_mod x mode h]
  have hb : beginsT (marksL x mode) 6 = true := by
    match mode, h with
    | 0, _ => rfl
    | 1, _ => rfl
    | 2, _ => rfl
  rw [nodeT]
  simp only [hb, hm]
  rfl
theorem marks_good (x : ByteArray) (mode : Nat) (h : mode < 3) (hx : ¬ (numT x < 0 ∨ 268435456 < numT x)) : moduleT (marksL x mode) = .ok (marksM x mode) := by
  have hm : markT (marksL x mode) {} 6 = .ok ({ mHas := true, mNum := numT x, mMode := (mode : Int) }, 9 + min mode 1) := by
    have e : markT (marksL x mode) {} 6 = if numT x < 0 ∨ 268435456 < numT x then .error (31, 12) else (wantT (marksL x mode) 8 s_rs >>= fun j => if isT (marksL x mode) j wEXPLICIT = true then .ok ({ mHas := true, mNum := numT x, mMode := 1 }, j + 1) else if isT (marksL x mode) j wIMPLICIT = true then .ok ({ mHas := true, mNum := numT x, mMode := 2 }, j + 1) else .ok ({ mHas := true, mNum := numT x }, j)) := by
      match mode, h with
      | 0, _ => rfl
      | 1, _ => rfl
      | 2, _ => rfl
    rw [e, if_neg hx]
    match mode, h with
    | 0, _ => rfl
    | 1, _ => rfl
    | 2, _ => rfl
  rw [marks_mod x mode h]
  have hb : beginsT (marksL x mode) 6 = true := by
    match mode, h with
    | 0, _ => rfl
    | 1, _ => rfl
    | 2, _ => rfl
  rw [nodeT]
  simp only [hb, hm]
  match mode, h with
  | 0, _ => rfl
  | 1, _ => rfl
  | 2, _ => rfl
/-! ### Bounds -/
def moreP : Bool → List Pc
  | true => [pcF 6 s_cm, (true, 6, s_dots)]
  | false => []
def tP (form : Nat) (x y : ByteArray) (more : Bool) : List Pc := (match form with
  | 0 => [pcF 3 x, pcF 6 s_dd, pcF 3 y]
  | 1 => [pcF 3 x]
  | 2 => [pcF 3 x, pcF 6 s_dd, pcF (kindOf wMAX) wMAX]
  | 3 => [pcF (kindOf wMIN) wMIN, pcF 6 s_dd, pcF 3 y]
  | _ => [pcF (kindOf wMIN) wMIN, pcF 6 s_dd, pcF (kindOf wMAX) wMAX]) ++ moreP more
def tB (form : Nat) (x y : ByteArray) (more : Bool) : ByteArray :=
  let t : ByteArray := match form with
  | 0 => x ++ ⟨#[46, 46]⟩ ++ y
  | 1 => x
  | 2 => x ++ ⟨#[46, 46, 77, 65, 88]⟩
  | 3 => ⟨#[77, 73, 78, 46, 46]⟩ ++ y
  | _ => ⟨#[77, 73, 78, 46, 46, 77, 65, 88]⟩
  if more = true then t ++ ⟨#[44, 32, 46, 46, 46]⟩ else t
def conV (form : Nat) (x y : Int) (more : Bool) : ConV := { (match form with
  | 0 => { has := true, hasLow := true, hasHigh := true, low := x, high := y }
  | 1 => { has := true, hasLow := true, hasHigh := true, low := x, high := x }
  | 2 => { has := true, hasLow := true, low := x }
  | 3 => { has := true, hasHigh := true, high := y }
  | _ => { has := true } : ConV) with more := more }
def boundsP (k : Nat) (t : List Pc) : List Pc := headP ++ ((match k with
  | 0 => [pcW wINTEGER, (true, 6, s_lp)]
  | 1 => [pcW wOCTET, pcW wSTRING, (true, 6, s_lp), pcF (kindOf wSIZE) wSIZE, (true, 6, s_lp)]
  | _ => [pcW wSEQUENCE, (true, 6, s_lp), pcF (kindOf wSIZE) wSIZE, (true, 6, s_lp)]) ++ (t ++ ((match k with
  | 0 => [pcF 6 s_rp]
  | 1 => [pcF 6 s_rp, pcF 6 s_rp]
  | _ => [pcF 6 s_rp, pcF 6 s_rp, pcW wOF, pcW wNULL]) ++ [pcW wEND])))
def boundsM (k : Nat) (c : ConV) : ModV := { name := ⟨#[77]⟩, tagging := 0, names := [⟨#[65]⟩], types := [0], nodes := match k with
  | 0 => [{ kind := 2, con := c }]
  | 1 => [{ kind := 5, con := c }]
  | _ => [{ kind := 10, con := c, of := 1 }, { kind := 4 }] }
theorem bounds_good (k form : Nat) (x y : ByteArray) (more : Bool) (hk : k < 3) (hf : form < 5) : moduleT (toksP 0 (boundsP k (tP form x y more))) = .ok (boundsM k (conV form (numT x) (numT y) more)) := by
  cases more
  · match k, form, hk, hf with
    | 0, 0, _, _ => rfl
    | 0, 1, _, _ => rfl
    | 0, 2, _, _ => rfl
    | 0, 3, _, _ => rfl
    | 0, 4, _, _ => rfl
    | 1, 0, _, _ => rfl
    | 1, 1, _, _ => rfl
    | 1, 2, _, _ => rfl
    | 1, 3, _, _ => rfl
    | 1, 4, _, _ => rfl
    | 2, 0, _, _ => rfl
    | 2, 1, _, _ => rfl
    | 2, 2, _, _ => rfl
    | 2, 3, _, _ => rfl
    | 2, 4, _, _ => rfl
  · match k, form, hk, hf with
    | 0, 0, _, _ => rfl
    | 0, 1, _, _ => rfl
    | 0, 2, _, _ => rfl
    | 0, 3, _, _ => rfl
    | 0, 4, _, _ => rfl
    | 1, 0, _, _ => rfl
    | 1, 1, _, _ => rfl
    | 1, 2, _, _ => rfl
    | 1, 3, _, _ => rfl
    | 1, 4, _, _ => rfl
    | 2, 0, _, _ => rfl
    | 2, 1, _, _ => rfl
    | 2, 2, _, _ => rfl
    | 2, 3, _, _ => rfl
    | 2, 4, _, _ => rfl
/-! ### The texts -/
theorem num_first (v : Int) : bt (numB v) 0 ≠ 91 ∧ bt (numB v) 0 ≠ 46 := by
  have hL := numB_list v
  have hd := dec_digs 19 v.natAbs
  have hp := dec_pos 19 v.natAbs
  by_cases h : v < 0
  · rw [if_pos h] at hL
    have : bt (numB v) 0 = 45 := dig_of_list (c := 45) (by rw [hL]; rfl)
    rw [this]; decide
  · rw [if_neg h, List.nil_append] at hL
    have e : (decL 19 v.natAbs)[0]? = some ((decL 19 v.natAbs)[0]'hp) := List.getElem?_eq_getElem hp
    have h2 := hd _ (List.mem_of_getElem? e)
    have : bt (numB v) 0 = ((decL 19 v.natAbs)[0]'hp).toNat := dig_of_list (by rw [hL]; exact e)
    rw [this]; omega
theorem num_size (v : Int) : (numB v).size ≤ 21 := by
  have h2 : (decB v.natAbs).size ≤ 20 := by rw [Lib.size_eq]; exact dec_len 19 _
  unfold numB
  split
  · rw [ByteArray.size_append]; show 1 + _ ≤ _; omega
  · omega
/-- .. a number between the signs. -/
structure NumPc (x : ByteArray) : Prop where
  a : PieceOk 3 x 93
  b : PieceOk 3 x 46
  c : PieceOk 3 x 41
  d : PieceOk 3 x 44
  ls : bt x 0 ≠ 91
  dd : bt x 0 ≠ 46
  sz : x.size ≤ 21
theorem num_pc (v : Int) (h0 : -9223372036854775808 ≤ v) (h1 : v ≤ 9223372036854775807) : NumPc (numB v) := ⟨num_ok v h0 h1 (by decide), num_ok v h0 h1 (by decide), num_ok v h0 h1 (by decide), num_ok v h0 h1 (by decide), (num_first v).1, (num_first v).2, num_size v⟩
theorem chain_cons {q : Pc} {ps : List Pc} (h : PieceOk q.2.1 q.2.2 (nbP ps)) (h2 : ChainP ps) : ChainP (q :: ps) := ⟨h, h2⟩
theorem marks_chain {x : ByteArray} (hx : NumPc x) (mode : Nat) (h : mode < 3) : ChainP (marksP x mode) := by
  match mode, h with
  | 0, _ => repeat' first | exact trivial | refine chain_cons ?_ ?_ | (first | exact pk_ass _ | exact pk_lp _ | exact pk_rp _ | exact pk_cm _ | exact pk_dots _ | exact pk_rs (nb := 32) (by decide) | exact pk_ls hx.ls | exact pk_dd hx.dd | exact pk_dd (nb := 77) (by decide) | exact hx.a | exact hx.b | exact hx.c | exact hx.d | exact hx.a | exact hx.b | exact hx.c | exact hx.d | exact pk_word (nb := 32) _ (by decide) (by decide) | exact pk_word (nb := 0) _ (by decide) (by decide) | exact pk_word (nb := 41) _ (by decide) (by decide) | exact pk_word (nb := 44) _ (by decide) (by decide) | exact pk_word (nb := 46) _ (by decide) (by decide))
  | 1, _ => repeat' first | exact trivial | refine chain_cons ?_ ?_ | (first | exact pk_ass _ | exact pk_lp _ | exact pk_rp _ | exact pk_cm _ | exact pk_dots _ | exact pk_rs (nb := 32) (by decide) | exact pk_ls hx.ls | exact pk_dd hx.dd | exact pk_dd (nb := 77) (by decide) | exact hx.a | exact hx.b | exact hx.c | exact hx.d | exact hx.a | exact hx.b | exact hx.c | exact hx.d | exact pk_word (nb := 32) _ (by decide) (by decide) | exact pk_word (nb := 0) _ (by decide) (by decide) | exact pk_word (nb := 41) _ (by decide) (by decide) | exact pk_word (nb := 44) _ (by decide) (by decide) | exact pk_word (nb := 46) _ (by decide) (by decide))
  | 2, _ => repeat' first | exact trivial | refine chain_cons ?_ ?_ | (first | exact pk_ass _ | exact pk_lp _ | exact pk_rp _ | exact pk_cm _ | exact pk_dots _ | exact pk_rs (nb := 32) (by decide) | exact pk_ls hx.ls | exact pk_dd hx.dd | exact pk_dd (nb := 77) (by decide) | exact hx.a | exact hx.b | exact hx.c | exact hx.d | exact hx.a | exact hx.b | exact hx.c | exact hx.d | exact pk_word (nb := 32) _ (by decide) (by decide) | exact pk_word (nb := 0) _ (by decide) (by decide) | exact pk_word (nb := 41) _ (by decide) (by decide) | exact pk_word (nb := 44) _ (by decide) (by decide) | exact pk_word (nb := 46) _ (by decide) (by decide))
def mwB (mode : Nat) : ByteArray := match mode with | 1 => ⟨#[69, 88, 80, 76, 73, 67, 73, 84, 32]⟩ | 2 => ⟨#[73, 77, 80, 76, 73, 67, 73, 84, 32]⟩ | _ => ⟨#[]⟩
def modB (x : ByteArray) : ByteArray := ⟨#[77, 32, 68, 69, 70, 73, 78, 73, 84, 73, 79, 78, 83, 32, 58, 58, 61, 32, 66, 69, 71, 73, 78, 32, 65, 32, 58, 58, 61, 32]⟩ ++ x ++ ⟨#[32, 69, 78, 68]⟩
theorem modB_list (x : ByteArray) : (modB x).data.toList = [77, 32, 68, 69, 70, 73, 78, 73, 84, 73, 79, 78, 83, 32, 58, 58, 61, 32, 66, 69, 71, 73, 78, 32, 65, 32, 58, 58, 61, 32] ++ x.data.toList ++ [32, 69, 78, 68] := by
  rw [modB, ByteArray.toList_data_append, ByteArray.toList_data_append]
theorem modB_size (x : ByteArray) : (modB x).size = 34 + x.size := by
  rw [modB, ByteArray.size_append, ByteArray.size_append]; show 30 + x.size + 4 = _; omega
theorem head_text : textP headP = [77, 32, 68, 69, 70, 73, 78, 73, 84, 73, 79, 78, 83, 32, 58, 58, 61, 32, 66, 69, 71, 73, 78, 32, 65, 32, 58, 58, 61] := by kernel_rfl
def mkB (x : ByteArray) (mode : Nat) : ByteArray := ⟨#[91]⟩ ++ x ++ ⟨#[93, 32]⟩ ++ mwB mode ++ ⟨#[78, 85, 76, 76]⟩
theorem marks_text (x : ByteArray) (mode : Nat) (h : mode < 3) : (modB (mkB x mode)).data.toList = textP (marksP x mode) := by
  rw [modB_list, mkB, ByteArray.toList_data_append, ByteArray.toList_data_append, ByteArray.toList_data_append, ByteArray.toList_data_append, marksP, textP_append, head_text]
  match mode, h with
  | 0, _ => simp [modeP, pcW, pcF, textP, pcL, mwB]
  | 1, _ => simp [modeP, pcW, pcF, textP, pcL, mwB]
  | 2, _ => simp [modeP, pcW, pcF, textP, pcL, mwB]
theorem marks_toks {x : ByteArray} (hx : NumPc x) (mode : Nat) (h : mode < 3) : toks (modB (mkB x mode)) = .ok (marksL x mode) := by
  refine toks_text (marks_chain hx mode h) (marks_text x mode h) ?_
  have := hx.sz
  rw [modB_size, mkB, ByteArray.size_append, ByteArray.size_append, ByteArray.size_append, ByteArray.size_append]
  have hw : (mwB mode).size ≤ 9 := by
    match mode, h with
    | 0, _ => decide
    | 1, _ => decide
    | 2, _ => decide
  show 34 + (1 + x.size + 2 + (mwB mode).size + 4) ≤ _
  omega
def bndB (k : Nat) (t : ByteArray) : ByteArray := match k with
  | 0 => ⟨#[73, 78, 84, 69, 71, 69, 82, 32, 40]⟩ ++ t ++ ⟨#[41]⟩
  | 1 => ⟨#[79, 67, 84, 69, 84, 32, 83, 84, 82, 73, 78, 71, 32, 40, 83, 73, 90, 69, 32, 40]⟩ ++ t ++ ⟨#[41, 41]⟩
  | _ => ⟨#[83, 69, 81, 85, 69, 78, 67, 69, 32, 40, 83, 73, 90, 69, 32, 40]⟩ ++ t ++ ⟨#[41, 41, 32, 79, 70, 32, 78, 85, 76, 76]⟩
theorem tP_text (form : Nat) (x y : ByteArray) (more : Bool) (hf : form < 5) : (tB form x y more).data.toList = textP (tP form x y more) := by
  match form, hf with
  | 0, _ => cases more <;> simp [tB, tP, moreP, pcW, pcF, textP, pcL, ByteArray.toList_data_append]
  | 1, _ => cases more <;> simp [tB, tP, moreP, pcW, pcF, textP, pcL, ByteArray.toList_data_append]
  | 2, _ => cases more <;> simp [tB, tP, moreP, pcW, pcF, textP, pcL, ByteArray.toList_data_append]
  | 3, _ => cases more <;> simp [tB, tP, moreP, pcW, pcF, textP, pcL, ByteArray.toList_data_append]
  | 4, _ => cases more <;> simp [tB, tP, moreP, pcW, pcF, textP, pcL, ByteArray.toList_data_append]
theorem bounds_text (k : Nat) (hk : k < 3) (form : Nat) (x y : ByteArray) (more : Bool) (hf : form < 5) : (modB (bndB k (tB form x y more))).data.toList = textP (boundsP k (tP form x y more)) := by
  have key : ∀ a b : List Pc, textP (headP ++ (a ++ (tP form x y more ++ (b ++ [pcW wEND])))) = textP headP ++ (textP a ++ ((tB form x y more).data.toList ++ (textP b ++ [32, 69, 78, 68]))) := fun a b => by
    rw [textP_append, textP_append, textP_append, textP_append, tP_text form x y more hf]; rfl
  rw [modB_list]
  unfold boundsP
  rw [key, head_text]
  match k, hk with
  | 0, _ => simp [bndB, pcW, pcF, textP, pcL, ByteArray.toList_data_append]
  | 1, _ => simp [bndB, pcW, pcF, textP, pcL, ByteArray.toList_data_append]
  | 2, _ => simp [bndB, pcW, pcF, textP, pcL, ByteArray.toList_data_append]
theorem bounds_chain {x y : ByteArray} (hx : NumPc x) (hy : NumPc y) (k form : Nat) (more : Bool) (hk : k < 3) (hf : form < 5) : ChainP (boundsP k (tP form x y more)) := by
  cases more
  · match k, form, hk, hf with
    | 0, 0, _, _ => repeat' first | exact trivial | refine chain_cons ?_ ?_ | (first | exact pk_ass _ | exact pk_lp _ | exact pk_rp _ | exact pk_cm _ | exact pk_dots _ | exact pk_rs (nb := 32) (by decide) | exact pk_ls hx.ls | exact pk_dd hy.dd | exact pk_dd (nb := 77) (by decide) | exact hx.a | exact hx.b | exact hx.c | exact hx.d | exact hy.a | exact hy.b | exact hy.c | exact hy.d | exact pk_word (nb := 32) _ (by decide) (by decide) | exact pk_word (nb := 0) _ (by decide) (by decide) | exact pk_word (nb := 41) _ (by decide) (by decide) | exact pk_word (nb := 44) _ (by decide) (by decide) | exact pk_word (nb := 46) _ (by decide) (by decide))
    | 0, 1, _, _ => repeat' first | exact trivial | refine chain_cons ?_ ?_ | (first | exact pk_ass _ | exact pk_lp _ | exact pk_rp _ | exact pk_cm _ | exact pk_dots _ | exact pk_rs (nb := 32) (by decide) | exact pk_ls hx.ls | exact pk_dd hy.dd | exact pk_dd (nb := 77) (by decide) | exact hx.a | exact hx.b | exact hx.c | exact hx.d | exact hy.a | exact hy.b | exact hy.c | exact hy.d | exact pk_word (nb := 32) _ (by decide) (by decide) | exact pk_word (nb := 0) _ (by decide) (by decide) | exact pk_word (nb := 41) _ (by decide) (by decide) | exact pk_word (nb := 44) _ (by decide) (by decide) | exact pk_word (nb := 46) _ (by decide) (by decide))
    | 0, 2, _, _ => repeat' first | exact trivial | refine chain_cons ?_ ?_ | (first | exact pk_ass _ | exact pk_lp _ | exact pk_rp _ | exact pk_cm _ | exact pk_dots _ | exact pk_rs (nb := 32) (by decide) | exact pk_ls hx.ls | exact pk_dd hy.dd | exact pk_dd (nb := 77) (by decide) | exact hx.a | exact hx.b | exact hx.c | exact hx.d | exact hy.a | exact hy.b | exact hy.c | exact hy.d | exact pk_word (nb := 32) _ (by decide) (by decide) | exact pk_word (nb := 0) _ (by decide) (by decide) | exact pk_word (nb := 41) _ (by decide) (by decide) | exact pk_word (nb := 44) _ (by decide) (by decide) | exact pk_word (nb := 46) _ (by decide) (by decide))
    | 0, 3, _, _ => repeat' first | exact trivial | refine chain_cons ?_ ?_ | (first | exact pk_ass _ | exact pk_lp _ | exact pk_rp _ | exact pk_cm _ | exact pk_dots _ | exact pk_rs (nb := 32) (by decide) | exact pk_ls hx.ls | exact pk_dd hy.dd | exact pk_dd (nb := 77) (by decide) | exact hx.a | exact hx.b | exact hx.c | exact hx.d | exact hy.a | exact hy.b | exact hy.c | exact hy.d | exact pk_word (nb := 32) _ (by decide) (by decide) | exact pk_word (nb := 0) _ (by decide) (by decide) | exact pk_word (nb := 41) _ (by decide) (by decide) | exact pk_word (nb := 44) _ (by decide) (by decide) | exact pk_word (nb := 46) _ (by decide) (by decide))
    | 0, 4, _, _ => repeat' first | exact trivial | refine chain_cons ?_ ?_ | (first | exact pk_ass _ | exact pk_lp _ | exact pk_rp _ | exact pk_cm _ | exact pk_dots _ | exact pk_rs (nb := 32) (by decide) | exact pk_ls hx.ls | exact pk_dd hy.dd | exact pk_dd (nb := 77) (by decide) | exact hx.a | exact hx.b | exact hx.c | exact hx.d | exact hy.a | exact hy.b | exact hy.c | exact hy.d | exact pk_word (nb := 32) _ (by decide) (by decide) | exact pk_word (nb := 0) _ (by decide) (by decide) | exact pk_word (nb := 41) _ (by decide) (by decide) | exact pk_word (nb := 44) _ (by decide) (by decide) | exact pk_word (nb := 46) _ (by decide) (by decide))
    | 1, 0, _, _ => repeat' first | exact trivial | refine chain_cons ?_ ?_ | (first | exact pk_ass _ | exact pk_lp _ | exact pk_rp _ | exact pk_cm _ | exact pk_dots _ | exact pk_rs (nb := 32) (by decide) | exact pk_ls hx.ls | exact pk_dd hy.dd | exact pk_dd (nb := 77) (by decide) | exact hx.a | exact hx.b | exact hx.c | exact hx.d | exact hy.a | exact hy.b | exact hy.c | exact hy.d | exact pk_word (nb := 32) _ (by decide) (by decide) | exact pk_word (nb := 0) _ (by decide) (by decide) | exact pk_word (nb := 41) _ (by decide) (by decide) | exact pk_word (nb := 44) _ (by decide) (by decide) | exact pk_word (nb := 46) _ (by decide) (by decide))
    | 1, 1, _, _ => repeat' first | exact trivial | refine chain_cons ?_ ?_ | (first | exact pk_ass _ | exact pk_lp _ | exact pk_rp _ | exact pk_cm _ | exact pk_dots _ | exact pk_rs (nb := 32) (by decide) | exact pk_ls hx.ls | exact pk_dd hy.dd | exact pk_dd (nb := 77) (by decide) | exact hx.a | exact hx.b | exact hx.c | exact hx.d | exact hy.a | exact hy.b | exact hy.c | exact hy.d | exact pk_word (nb := 32) _ (by decide) (by decide) | exact pk_word (nb := 0) _ (by decide) (by decide) | exact pk_word (nb := 41) _ (by decide) (by decide) | exact pk_word (nb := 44) _ (by decide) (by decide) | exact pk_word (nb := 46) _ (by decide) (by decide))
    | 1, 2, _, _ => repeat' first | exact trivial | refine chain_cons ?_ ?_ | (first | exact pk_ass _ | exact pk_lp _ | exact pk_rp _ | exact pk_cm _ | exact pk_dots _ | exact pk_rs (nb := 32) (by decide) | exact pk_ls hx.ls | exact pk_dd hy.dd | exact pk_dd (nb := 77) (by decide) | exact hx.a | exact hx.b | exact hx.c | exact hx.d | exact hy.a | exact hy.b | exact hy.c | exact hy.d | exact pk_word (nb := 32) _ (by decide) (by decide) | exact pk_word (nb := 0) _ (by decide) (by decide) | exact pk_word (nb := 41) _ (by decide) (by decide) | exact pk_word (nb := 44) _ (by decide) (by decide) | exact pk_word (nb := 46) _ (by decide) (by decide))
    | 1, 3, _, _ => repeat' first | exact trivial | refine chain_cons ?_ ?_ | (first | exact pk_ass _ | exact pk_lp _ | exact pk_rp _ | exact pk_cm _ | exact pk_dots _ | exact pk_rs (nb := 32) (by decide) | exact pk_ls hx.ls | exact pk_dd hy.dd | exact pk_dd (nb := 77) (by decide) | exact hx.a | exact hx.b | exact hx.c | exact hx.d | exact hy.a | exact hy.b | exact hy.c | exact hy.d | exact pk_word (nb := 32) _ (by decide) (by decide) | exact pk_word (nb := 0) _ (by decide) (by decide) | exact pk_word (nb := 41) _ (by decide) (by decide) | exact pk_word (nb := 44) _ (by decide) (by decide) | exact pk_word (nb := 46) _ (by decide) (by decide))
    | 1, 4, _, _ => repeat' first | exact trivial | refine chain_cons ?_ ?_ | (first | exact pk_ass _ | exact pk_lp _ | exact pk_rp _ | exact pk_cm _ | exact pk_dots _ | exact pk_rs (nb := 32) (by decide) | exact pk_ls hx.ls | exact pk_dd hy.dd | exact pk_dd (nb := 77) (by decide) | exact hx.a | exact hx.b | exact hx.c | exact hx.d | exact hy.a | exact hy.b | exact hy.c | exact hy.d | exact pk_word (nb := 32) _ (by decide) (by decide) | exact pk_word (nb := 0) _ (by decide) (by decide) | exact pk_word (nb := 41) _ (by decide) (by decide) | exact pk_word (nb := 44) _ (by decide) (by decide) | exact pk_word (nb := 46) _ (by decide) (by decide))
    | 2, 0, _, _ => repeat' first | exact trivial | refine chain_cons ?_ ?_ | (first | exact pk_ass _ | exact pk_lp _ | exact pk_rp _ | exact pk_cm _ | exact pk_dots _ | exact pk_rs (nb := 32) (by decide) | exact pk_ls hx.ls | exact pk_dd hy.dd | exact pk_dd (nb := 77) (by decide) | exact hx.a | exact hx.b | exact hx.c | exact hx.d | exact hy.a | exact hy.b | exact hy.c | exact hy.d | exact pk_word (nb := 32) _ (by decide) (by decide) | exact pk_word (nb := 0) _ (by decide) (by decide) | exact pk_word (nb := 41) _ (by decide) (by decide) | exact pk_word (nb := 44) _ (by decide) (by decide) | exact pk_word (nb := 46) _ (by decide) (by decide))
    | 2, 1, _, _ => repeat' first | exact trivial | refine chain_cons ?_ ?_ | (first | exact pk_ass _ | exact pk_lp _ | exact pk_rp _ | exact pk_cm _ | exact pk_dots _ | exact pk_rs (nb := 32) (by decide) | exact pk_ls hx.ls | exact pk_dd hy.dd | exact pk_dd (nb := 77) (by decide) | exact hx.a | exact hx.b | exact hx.c | exact hx.d | exact hy.a | exact hy.b | exact hy.c | exact hy.d | exact pk_word (nb := 32) _ (by decide) (by decide) | exact pk_word (nb := 0) _ (by decide) (by decide) | exact pk_word (nb := 41) _ (by decide) (by decide) | exact pk_word (nb := 44) _ (by decide) (by decide) | exact pk_word (nb := 46) _ (by decide) (by decide))
    | 2, 2, _, _ => repeat' first | exact trivial | refine chain_cons ?_ ?_ | (first | exact pk_ass _ | exact pk_lp _ | exact pk_rp _ | exact pk_cm _ | exact pk_dots _ | exact pk_rs (nb := 32) (by decide) | exact pk_ls hx.ls | exact pk_dd hy.dd | exact pk_dd (nb := 77) (by decide) | exact hx.a | exact hx.b | exact hx.c | exact hx.d | exact hy.a | exact hy.b | exact hy.c | exact hy.d | exact pk_word (nb := 32) _ (by decide) (by decide) | exact pk_word (nb := 0) _ (by decide) (by decide) | exact pk_word (nb := 41) _ (by decide) (by decide) | exact pk_word (nb := 44) _ (by decide) (by decide) | exact pk_word (nb := 46) _ (by decide) (by decide))
    | 2, 3, _, _ => repeat' first | exact trivial | refine chain_cons ?_ ?_ | (first | exact pk_ass _ | exact pk_lp _ | exact pk_rp _ | exact pk_cm _ | exact pk_dots _ | exact pk_rs (nb := 32) (by decide) | exact pk_ls hx.ls | exact pk_dd hy.dd | exact pk_dd (nb := 77) (by decide) | exact hx.a | exact hx.b | exact hx.c | exact hx.d | exact hy.a | exact hy.b | exact hy.c | exact hy.d | exact pk_word (nb := 32) _ (by decide) (by decide) | exact pk_word (nb := 0) _ (by decide) (by decide) | exact pk_word (nb := 41) _ (by decide) (by decide) | exact pk_word (nb := 44) _ (by decide) (by decide) | exact pk_word (nb := 46) _ (by decide) (by decide))
    | 2, 4, _, _ => repeat' first | exact trivial | refine chain_cons ?_ ?_ | (first | exact pk_ass _ | exact pk_lp _ | exact pk_rp _ | exact pk_cm _ | exact pk_dots _ | exact pk_rs (nb := 32) (by decide) | exact pk_ls hx.ls | exact pk_dd hy.dd | exact pk_dd (nb := 77) (by decide) | exact hx.a | exact hx.b | exact hx.c | exact hx.d | exact hy.a | exact hy.b | exact hy.c | exact hy.d | exact pk_word (nb := 32) _ (by decide) (by decide) | exact pk_word (nb := 0) _ (by decide) (by decide) | exact pk_word (nb := 41) _ (by decide) (by decide) | exact pk_word (nb := 44) _ (by decide) (by decide) | exact pk_word (nb := 46) _ (by decide) (by decide))
  · match k, form, hk, hf with
    | 0, 0, _, _ => repeat' first | exact trivial | refine chain_cons ?_ ?_ | (first | exact pk_ass _ | exact pk_lp _ | exact pk_rp _ | exact pk_cm _ | exact pk_dots _ | exact pk_rs (nb := 32) (by decide) | exact pk_ls hx.ls | exact pk_dd hy.dd | exact pk_dd (nb := 77) (by decide) | exact hx.a | exact hx.b | exact hx.c | exact hx.d | exact hy.a | exact hy.b | exact hy.c | exact hy.d | exact pk_word (nb := 32) _ (by decide) (by decide) | exact pk_word (nb := 0) _ (by decide) (by decide) | exact pk_word (nb := 41) _ (by decide) (by decide) | exact pk_word (nb := 44) _ (by decide) (by decide) | exact pk_word (nb := 46) _ (by decide) (by decide))
    | 0, 1, _, _ => repeat' first | exact trivial | refine chain_cons ?_ ?_ | (first | exact pk_ass _ | exact pk_lp _ | exact pk_rp _ | exact pk_cm _ | exact pk_dots _ | exact pk_rs (nb := 32) (by decide) | exact pk_ls hx.ls | exact pk_dd hy.dd | exact pk_dd (nb := 77) (by decide) | exact hx.a | exact hx.b | exact hx.c | exact hx.d | exact hy.a | exact hy.b | exact hy.c | exact hy.d | exact pk_word (nb := 32) _ (by decide) (by decide) | exact pk_word (nb := 0) _ (by decide) (by decide) | exact pk_word (nb := 41) _ (by decide) (by decide) | exact pk_word (nb := 44) _ (by decide) (by decide) | exact pk_word (nb := 46) _ (by decide) (by decide))
    | 0, 2, _, _ => repeat' first | exact trivial | refine chain_cons ?_ ?_ | (first | exact pk_ass _ | exact pk_lp _ | exact pk_rp _ | exact pk_cm _ | exact pk_dots _ | exact pk_rs (nb := 32) (by decide) | exact pk_ls hx.ls | exact pk_dd hy.dd | exact pk_dd (nb := 77) (by decide) | exact hx.a | exact hx.b | exact hx.c | exact hx.d | exact hy.a | exact hy.b | exact hy.c | exact hy.d | exact pk_word (nb := 32) _ (by decide) (by decide) | exact pk_word (nb := 0) _ (by decide) (by decide) | exact pk_word (nb := 41) _ (by decide) (by decide) | exact pk_word (nb := 44) _ (by decide) (by decide) | exact pk_word (nb := 46) _ (by decide) (by decide))
    | 0, 3, _, _ => repeat' first | exact trivial | refine chain_cons ?_ ?_ | (first | exact pk_ass _ | exact pk_lp _ | exact pk_rp _ | exact pk_cm _ | exact pk_dots _ | exact pk_rs (nb := 32) (by decide) | exact pk_ls hx.ls | exact pk_dd hy.dd | exact pk_dd (nb := 77) (by decide) | exact hx.a | exact hx.b | exact hx.c | exact hx.d | exact hy.a | exact hy.b | exact hy.c | exact hy.d | exact pk_word (nb := 32) _ (by decide) (by decide) | exact pk_word (nb := 0) _ (by decide) (by decide) | exact pk_word (nb := 41) _ (by decide) (by decide) | exact pk_word (nb := 44) _ (by decide) (by decide) | exact pk_word (nb := 46) _ (by decide) (by decide))
    | 0, 4, _, _ => repeat' first | exact trivial | refine chain_cons ?_ ?_ | (first | exact pk_ass _ | exact pk_lp _ | exact pk_rp _ | exact pk_cm _ | exact pk_dots _ | exact pk_rs (nb := 32) (by decide) | exact pk_ls hx.ls | exact pk_dd hy.dd | exact pk_dd (nb := 77) (by decide) | exact hx.a | exact hx.b | exact hx.c | exact hx.d | exact hy.a | exact hy.b | exact hy.c | exact hy.d | exact pk_word (nb := 32) _ (by decide) (by decide) | exact pk_word (nb := 0) _ (by decide) (by decide) | exact pk_word (nb := 41) _ (by decide) (by decide) | exact pk_word (nb := 44) _ (by decide) (by decide) | exact pk_word (nb := 46) _ (by decide) (by decide))
    | 1, 0, _, _ => repeat' first | exact trivial | refine chain_cons ?_ ?_ | (first | exact pk_ass _ | exact pk_lp _ | exact pk_rp _ | exact pk_cm _ | exact pk_dots _ | exact pk_rs (nb := 32) (by decide) | exact pk_ls hx.ls | exact pk_dd hy.dd | exact pk_dd (nb := 77) (by decide) | exact hx.a | exact hx.b | exact hx.c | exact hx.d | exact hy.a | exact hy.b | exact hy.c | exact hy.d | exact pk_word (nb := 32) _ (by decide) (by decide) | exact pk_word (nb := 0) _ (by decide) (by decide) | exact pk_word (nb := 41) _ (by decide) (by decide) | exact pk_word (nb := 44) _ (by decide) (by decide) | exact pk_word (nb := 46) _ (by decide) (by decide))
    | 1, 1, _, _ => repeat' first | exact trivial | refine chain_cons ?_ ?_ | (first | exact pk_ass _ | exact pk_lp _ | exact pk_rp _ | exact pk_cm _ | exact pk_dots _ | exact pk_rs (nb := 32) (by decide) | exact pk_ls hx.ls | exact pk_dd hy.dd | exact pk_dd (nb := 77) (by decide) | exact hx.a | exact hx.b | exact hx.c | exact hx.d | exact hy.a | exact hy.b | exact hy.c | exact hy.d | exact pk_word (nb := 32) _ (by decide) (by decide) | exact pk_word (nb := 0) _ (by decide) (by decide) | exact pk_word (nb := 41) _ (by decide) (by decide) | exact pk_word (nb := 44) _ (by decide) (by decide) | exact pk_word (nb := 46) _ (by decide) (by decide))
    | 1, 2, _, _ => repeat' first | exact trivial | refine chain_cons ?_ ?_ | (first | exact pk_ass _ | exact pk_lp _ | exact pk_rp _ | exact pk_cm _ | exact pk_dots _ | exact pk_rs (nb := 32) (by decide) | exact pk_ls hx.ls | exact pk_dd hy.dd | exact pk_dd (nb := 77) (by decide) | exact hx.a | exact hx.b | exact hx.c | exact hx.d | exact hy.a | exact hy.b | exact hy.c | exact hy.d | exact pk_word (nb := 32) _ (by decide) (by decide) | exact pk_word (nb := 0) _ (by decide) (by decide) | exact pk_word (nb := 41) _ (by decide) (by decide) | exact pk_word (nb := 44) _ (by decide) (by decide) | exact pk_word (nb := 46) _ (by decide) (by decide))
    | 1, 3, _, _ => repeat' first | exact trivial | refine chain_cons ?_ ?_ | (first | exact pk_ass _ | exact pk_lp _ | exact pk_rp _ | exact pk_cm _ | exact pk_dots _ | exact pk_rs (nb := 32) (by decide) | exact pk_ls hx.ls | exact pk_dd hy.dd | exact pk_dd (nb := 77) (by decide) | exact hx.a | exact hx.b | exact hx.c | exact hx.d | exact hy.a | exact hy.b | exact hy.c | exact hy.d | exact pk_word (nb := 32) _ (by decide) (by decide) | exact pk_word (nb := 0) _ (by decide) (by decide) | exact pk_word (nb := 41) _ (by decide) (by decide) | exact pk_word (nb := 44) _ (by decide) (by decide) | exact pk_word (nb := 46) _ (by decide) (by decide))
    | 1, 4, _, _ => repeat' first | exact trivial | refine chain_cons ?_ ?_ | (first | exact pk_ass _ | exact pk_lp _ | exact pk_rp _ | exact pk_cm _ | exact pk_dots _ | exact pk_rs (nb := 32) (by decide) | exact pk_ls hx.ls | exact pk_dd hy.dd | exact pk_dd (nb := 77) (by decide) | exact hx.a | exact hx.b | exact hx.c | exact hx.d | exact hy.a | exact hy.b | exact hy.c | exact hy.d | exact pk_word (nb := 32) _ (by decide) (by decide) | exact pk_word (nb := 0) _ (by decide) (by decide) | exact pk_word (nb := 41) _ (by decide) (by decide) | exact pk_word (nb := 44) _ (by decide) (by decide) | exact pk_word (nb := 46) _ (by decide) (by decide))
    | 2, 0, _, _ => repeat' first | exact trivial | refine chain_cons ?_ ?_ | (first | exact pk_ass _ | exact pk_lp _ | exact pk_rp _ | exact pk_cm _ | exact pk_dots _ | exact pk_rs (nb := 32) (by decide) | exact pk_ls hx.ls | exact pk_dd hy.dd | exact pk_dd (nb := 77) (by decide) | exact hx.a | exact hx.b | exact hx.c | exact hx.d | exact hy.a | exact hy.b | exact hy.c | exact hy.d | exact pk_word (nb := 32) _ (by decide) (by decide) | exact pk_word (nb := 0) _ (by decide) (by decide) | exact pk_word (nb := 41) _ (by decide) (by decide) | exact pk_word (nb := 44) _ (by decide) (by decide) | exact pk_word (nb := 46) _ (by decide) (by decide))
    | 2, 1, _, _ => repeat' first | exact trivial | refine chain_cons ?_ ?_ | (first | exact pk_ass _ | exact pk_lp _ | exact pk_rp _ | exact pk_cm _ | exact pk_dots _ | exact pk_rs (nb := 32) (by decide) | exact pk_ls hx.ls | exact pk_dd hy.dd | exact pk_dd (nb := 77) (by decide) | exact hx.a | exact hx.b | exact hx.c | exact hx.d | exact hy.a | exact hy.b | exact hy.c | exact hy.d | exact pk_word (nb := 32) _ (by decide) (by decide) | exact pk_word (nb := 0) _ (by decide) (by decide) | exact pk_word (nb := 41) _ (by decide) (by decide) | exact pk_word (nb := 44) _ (by decide) (by decide) | exact pk_word (nb := 46) _ (by decide) (by decide))
    | 2, 2, _, _ => repeat' first | exact trivial | refine chain_cons ?_ ?_ | (first | exact pk_ass _ | exact pk_lp _ | exact pk_rp _ | exact pk_cm _ | exact pk_dots _ | exact pk_rs (nb := 32) (by decide) | exact pk_ls hx.ls | exact pk_dd hy.dd | exact pk_dd (nb := 77) (by decide) | exact hx.a | exact hx.b | exact hx.c | exact hx.d | exact hy.a | exact hy.b | exact hy.c | exact hy.d | exact pk_word (nb := 32) _ (by decide) (by decide) | exact pk_word (nb := 0) _ (by decide) (by decide) | exact pk_word (nb := 41) _ (by decide) (by decide) | exact pk_word (nb := 44) _ (by decide) (by decide) | exact pk_word (nb := 46) _ (by decide) (by decide))
    | 2, 3, _, _ => repeat' first | exact trivial | refine chain_cons ?_ ?_ | (first | exact pk_ass _ | exact pk_lp _ | exact pk_rp _ | exact pk_cm _ | exact pk_dots _ | exact pk_rs (nb := 32) (by decide) | exact pk_ls hx.ls | exact pk_dd hy.dd | exact pk_dd (nb := 77) (by decide) | exact hx.a | exact hx.b | exact hx.c | exact hx.d | exact hy.a | exact hy.b | exact hy.c | exact hy.d | exact pk_word (nb := 32) _ (by decide) (by decide) | exact pk_word (nb := 0) _ (by decide) (by decide) | exact pk_word (nb := 41) _ (by decide) (by decide) | exact pk_word (nb := 44) _ (by decide) (by decide) | exact pk_word (nb := 46) _ (by decide) (by decide))
    | 2, 4, _, _ => repeat' first | exact trivial | refine chain_cons ?_ ?_ | (first | exact pk_ass _ | exact pk_lp _ | exact pk_rp _ | exact pk_cm _ | exact pk_dots _ | exact pk_rs (nb := 32) (by decide) | exact pk_ls hx.ls | exact pk_dd hy.dd | exact pk_dd (nb := 77) (by decide) | exact hx.a | exact hx.b | exact hx.c | exact hx.d | exact hy.a | exact hy.b | exact hy.c | exact hy.d | exact pk_word (nb := 32) _ (by decide) (by decide) | exact pk_word (nb := 0) _ (by decide) (by decide) | exact pk_word (nb := 41) _ (by decide) (by decide) | exact pk_word (nb := 44) _ (by decide) (by decide) | exact pk_word (nb := 46) _ (by decide) (by decide))
theorem tB_size {x y : ByteArray} (hx : NumPc x) (hy : NumPc y) (form : Nat) (more : Bool) : (tB form x y more).size ≤ 60 := by
  have h1 := hx.sz
  have h2 := hy.sz
  have e1 : (⟨#[46, 46]⟩ : ByteArray).size = 2 := rfl
  have e2 : (⟨#[46, 46, 77, 65, 88]⟩ : ByteArray).size = 5 := rfl
  have e3 : (⟨#[77, 73, 78, 46, 46]⟩ : ByteArray).size = 5 := rfl
  have e4 : (⟨#[77, 73, 78, 46, 46, 77, 65, 88]⟩ : ByteArray).size = 8 := rfl
  have e5 : (⟨#[44, 32, 46, 46, 46]⟩ : ByteArray).size = 5 := rfl
  unfold tB
  split <;> split <;> simp only [ByteArray.size_append] <;> omega
theorem bndB_size (k : Nat) (t : ByteArray) : (bndB k t).size ≤ 40 + t.size := by
  unfold bndB
  split
  · rw [ByteArray.size_append, ByteArray.size_append]; show 9 + t.size + 1 ≤ _; omega
  · rw [ByteArray.size_append, ByteArray.size_append]; show 20 + t.size + 2 ≤ _; omega
  · rw [ByteArray.size_append, ByteArray.size_append]; show 16 + t.size + 10 ≤ _; omega
theorem bounds_toks {x y : ByteArray} (hx : NumPc x) (hy : NumPc y) (k form : Nat) (more : Bool) (hk : k < 3) (hf : form < 5) : toks (modB (bndB k (tB form x y more))) = .ok (toksP 0 (boundsP k (tP form x y more))) := by
  refine toks_text (bounds_chain hx hy k form more hk hf) (bounds_text k hk form x y more hf) ?_
  have h1 := tB_size hx hy form more
  have h2 := bndB_size k (tB form x y more)
  rw [modB_size]; omega
theorem marks_parse_bad (v : Int) (h0 : -9223372036854775808 ≤ v) (h1 : v ≤ 9223372036854775807) (mode : Nat) (h : mode < 3) (hx : v < 0 ∨ 268435456 < v) : parseT (toks (modB (mkB (numB v) mode))) = .error (31, 12) := by
  rw [marks_toks (num_pc v h0 h1) mode h]
  exact marks_bad _ mode h (by rwa [numT_numB v h0 h1])
theorem marks_parse (v : Int) (h0 : -9223372036854775808 ≤ v) (h1 : v ≤ 9223372036854775807) (mode : Nat) (h : mode < 3) (hx : ¬ (v < 0 ∨ 268435456 < v)) : parseT (toks (modB (mkB (numB v) mode))) = .ok { name := ⟨#[77]⟩, tagging := 0, names := [⟨#[65]⟩], types := [0], nodes := [{ kind := 4, mHas := true, mNum := v, mMode := (mode : Int) }] } := by
  rw [marks_toks (num_pc v h0 h1) mode h]
  have := marks_good (numB v) mode h (by rwa [numT_numB v h0 h1])
  rw [marksM, numT_numB v h0 h1] at this
  exact this
theorem bounds_parse (a b : Int) (h0 : -9223372036854775808 ≤ a) (h1 : a ≤ 9223372036854775807) (h2 : -9223372036854775808 ≤ b) (h3 : b ≤ 9223372036854775807) (k form : Nat) (more : Bool) (hk : k < 3) (hf : form < 5) : parseT (toks (modB (bndB k (tB form (numB a) (numB b) more)))) = .ok (boundsM k (conV form a b more)) := by
  rw [bounds_toks (num_pc a h0 h1) (num_pc b h2 h3) k form more hk hf]
  have := bounds_good k form (numB a) (numB b) more hk hf
  rw [numT_numB a h0 h1, numT_numB b h2 h3] at this
  exact this
end Go.Proofs.YtckcbgijddglpaaDoor
