/- The walk of WholeBack. -/
import Derived.Test.YtnbcehoddjcnoaaWhBk0
import Derived.Deep.RegionHeld3
namespace Go.Proofs.Ytnbcehoddjcnoaa
open Go.ChangeShapes Go.WideShapes Go.ChangeAt Go.RowKit

theorem held_fr {w w' : World} {g go : Nat} {cs : Array Value} (h : (∀ i, w.cell? ⟨go, i, none⟩ = cs[i]?) ∧ True) (hf : Fr g none w w') (hg : go ≠ g) (hlt : go < w.heap.size) : (∀ i, w'.cell? ⟨go, i, none⟩ = cs[i]?) ∧ True :=
  ⟨fun i => (World.cell?_of_block (a := ⟨go, i, none⟩) (hf.2.2.2.2 go hlt hg (fun e => by cases e))).trans (h.1 i), trivial⟩
theorem k_any {w wr w1 : World} {gr : Nat} (hk : Keeps w wr) (hf : Fr gr none wr w1) (h : w.heap.size ≤ gr) : Keeps w w1 := fr_keeps hk hf h (fun b e => by cases e)
theorem piece64 (v : Int) (k : Nat) (h0 : 0 ≤ v) (h1 : v ≤ 18446744073709551615) (hk : k < 64) : bits .and .u64 v (2 ^ k - 1) = v % 2 ^ k := by
  obtain ⟨x, rfl⟩ := Int.eq_ofNat_of_zero_le h0
  have hp : 2 ^ k ≤ 9223372036854775808 := by
    have := Nat.pow_le_pow_right (show 2 > 0 by omega) (show k ≤ 63 by omega)
    exact this
  have e : ((2 : Int) ^ k - 1) = ((2 ^ k - 1 : Nat) : Int) := by
    rw [Int.natCast_sub (Nat.one_le_two_pow), Int.natCast_pow]; rfl
  have := u64_and_nat x (2 ^ k - 1) (by omega) (by omega)
  rw [Nat.and_two_pow_sub_one_eq_mod] at this
  rw [e, this, Int.natCast_emod, Int.natCast_pow]
  rfl
theorem pow63 (k : Nat) (hk : k < 64) : (2 : Int) ^ k ≤ 9223372036854775808 := by
  have := Nat.pow_le_pow_right (show 2 > 0 by omega) (show k ≤ 63 by omega)
  have h2 : ((2 ^ k : Nat) : Int) ≤ ((2 ^ 63 : Nat) : Int) := Int.ofNat_le.2 this
  rw [Int.natCast_pow] at h2
  exact h2

/-! ### The list of Ops that are kept -/
def opCells (q : OpV) : List Value := [.int .i64 q.1, .int .i64 q.2.1, .int .u64 q.2.2.1, .int .u64 q.2.2.2.1, .slice q.2.2.2.2.1 (qB q).length q.2.2.2.2.2.1]
def rowC (L : List OpV) : List Value := L.flatMap opCells
theorem rowC_snoc (L : List OpV) (q : OpV) : rowC (L ++ [q]) = rowC L ++ opCells q := by simp [rowC]
theorem rowC_length (L : List OpV) : (rowC L).length = L.length * 5 := by
  induction L with
  | nil => rfl
  | cons q L ih => simp only [rowC, List.flatMap_cons, List.length_append, List.length_cons] at ih ⊢; rw [ih]; simp [opCells]; omega
theorem rowC_get : ∀ (L : List OpV) (i : Nat) (q : OpV), L[i]? = some q → ∀ j, j < 5 → (rowC L)[i * 5 + j]? = (opCells q)[j]? := by
  intro L
  induction L with
  | nil => intro i q h; simp at h
  | cons p L ih =>
    intro i q h j hj
    have hp : (opCells p).length = 5 := rfl
    cases i with
    | zero =>
      simp at h; subst h
      show (opCells p ++ rowC L)[0 * 5 + j]? = _
      rw [Nat.zero_mul, Nat.zero_add, List.getElem?_append_left (by omega)]
    | succ i =>
      simp at h
      show (opCells p ++ rowC L)[(i + 1) * 5 + j]? = _
      rw [List.getElem?_append_right (by omega), hp, show (i + 1) * 5 + j - 5 = i * 5 + j from by omega]
      exact ih i q h j hj
theorem op_info : (Try.prog.info? 38).map (fun i => (i.zero, i.size, i.bytes)) = some (some (.agg #[.int .i64 0, .int .i64 0, .int .u64 0, .int .u64 0, .slice none 0 0]), 5, 56) := by kernel_rfl
theorem opCells_one (q : OpV) : ∀ u ∈ opCells q, u.oneCell' = true := by
  intro u hu
  simp only [opCells, List.mem_cons, List.not_mem_nil, or_false] at hu
  rcases hu with rfl | rfl | rfl | rfl | rfl <;> rfl
theorem own_form2 {E : TypeId} {size : Nat} {w : World} {base : Nat} {v : Value} {n : Nat} {xs : List Value} (h : w.ownsRow base E size v n xs) : ∃ A c, v = .slice A n c ∧ n ≤ c := by
  rcases h.2 with ⟨rfl, rfl⟩ | ⟨g, cap, cur, rfl, _, _, h1, _⟩
  · exact ⟨none, 0, rfl, Nat.le_refl _⟩
  · exact ⟨_, cap, rfl, h1⟩
/-- What is known of the Ops that are kept. -/
def GoodL (w : World) (L : List OpV) : Prop := ∀ (i : Nat) (q : OpV), L[i]? = some q → GoodOp q ∧ Holds w q.2.2.2.2.1 (qB q)
theorem GoodL.ops {w : World} {L : List OpV} (h : GoodL w L) : GoodOps L := fun i q hq => (h i q hq).1
theorem goodL_snoc {w : World} {L : List OpV} {q : OpV} (h : GoodL w L) (hq : GoodOp q) (hh : Holds w q.2.2.2.2.1 (qB q)) : GoodL w (L ++ [q]) := by
  intro i p hp
  rcases Nat.lt_or_ge i L.length with h1 | h1
  · rw [List.getElem?_append_left h1] at hp
    exact h i p hp
  · rw [List.getElem?_append_right h1] at hp
    have : i - L.length = 0 := by
      rcases Nat.eq_zero_or_pos (i - L.length) with h2 | h2
      · exact h2
      · rw [List.getElem?_eq_none (by simp; omega)] at hp; cases hp
    rw [this] at hp
    simp at hp
    subst hp
    exact ⟨hq, hh⟩
theorem stN_snoc (L : List OpV) (q : OpV) : stN (L ++ [q]) (L.length + 1) = opN (stN L L.length) q := by
  have h1 : (L ++ [q]).take (L.length + 1) = L ++ [q] := List.take_of_length_le (by simp)
  have h2 : L.take L.length = L := List.take_of_length_le (Nat.le_refl _)
  unfold stN
  rw [h1, h2, List.foldl_append]; rfl
theorem stK_snoc (L : List OpV) (q : OpV) : stK (L ++ [q]) (L.length + 1) = stK L L.length + opK q := by
  have h1 : (L ++ [q]).take (L.length + 1) = L ++ [q] := List.take_of_length_le (by simp)
  have h2 : L.take L.length = L := List.take_of_length_le (Nat.le_refl _)
  unfold stK
  rw [h1, h2, List.foldl_append]; rfl
/-- The list's row, the writer, and that they lie apart. -/
def BkRow (w : World) (n : Nat) (rows : List Value) (Al : Option Addr) (cl : Nat) (N : Int) (nb m room : Nat) (A : Option Addr) (c : Nat) (wr : World) : Prop :=
  wr.ownsRow w.heap.size 38 5 (.slice Al n cl) n rows ∧ WrV w.heap.size wr w.heap.size N nb m room A c ∧ room < 8 ∧ (∀ b, rowOf Al = some b → b ≠ w.heap.size ∧ rowOf A ≠ some b)
def BkI (w : World) (L : List OpV) (Al : Option Addr) (cl : Nat) (wr : World) : Prop := ∃ m room A c, BkRow w L.length (rowC L) Al cl (stN L L.length) (stK L L.length) m room A c wr
theorem BkRow.keeps {w : World} {n : Nat} {rows : List Value} {Al : Option Addr} {cl : Nat} {N : Int} {nb m room : Nat} {A : Option Addr} {c : Nat} {wr w' : World} (h : BkRow w n rows Al cl N nb m room A c wr) (hk : Keeps wr w') : BkRow w n rows Al cl N nb m room A c w' :=
  ⟨own_keeps_ h.1 hk, h.2.1.keeps_ hk, h.2.2⟩
theorem bk_append {w wA w2 : World} {n : Nat} {rows news : List Value} {Al : Option Addr} {cl : Nat} {N : Int} {nb m room : Nat} {A : Option Addr} {c : Nat} {v' : Value} (h : BkRow w n rows Al cl N nb m room A c wA)
    (hown : w2.ownsRow w.heap.size 38 5 v' (n + 1) (rows ++ news)) (hg : wA.grownBy w2 (Value.slice Al n cl).ownBlock) (hat : v'.ownBlock = (Value.slice Al n cl).ownBlock ∨ v'.ownBlock = some wA.heap.size) :
    ∃ Al' cl', v' = .slice Al' (n + 1) cl' ∧ BkRow w (n + 1) (rows ++ news) Al' cl' N nb m room A c w2 := by
  obtain ⟨hO, hW, hr, hd⟩ := h
  obtain ⟨Al', cl', rfl, _⟩ := own_form2 hown
  rw [own_row rfl, own_row rfl] at hat
  rw [own_row rfl] at hg
  refine ⟨Al', cl', rfl, hown, ⟨hW.1, (hg.block _ hW.2.1.lt (fun e => (hd _ e.symm).1 rfl)).trans hW.2.1, own_kept hW.2.2 fun b e => ?_⟩, hr, fun b e => ?_⟩
  · have hb := hW.2.2.lt b e
    rw [own_row rfl] at e
    exact hg.block b hb.2 (fun e2 => (hd b e2.symm).2 e)
  · rcases hat with h | h
    · exact hd b (h.symm.trans e)
    · rw [h] at e
      injection e with e
      subst e
      refine ⟨Nat.ne_of_gt hW.2.1.lt, fun e => ?_⟩
      have := (hW.row_lt _ e).2
      omega
theorem bk_step {w w2 w3 : World} {L : List OpV} {q : OpV} {Al : Option Addr} {cl : Nat} {m room : Nat} {A : Option Addr} {c : Nat} (h : BkRow w (L.length + 1) (rowC L ++ opCells q) Al cl (stN L L.length) (stK L L.length) m room A c w2)
    (hS : St w.heap.size w2 w.heap.size A (opN (stN L L.length) q) (stK L L.length + opK q) w3) : BkI w (L ++ [q]) Al cl w3 := by
  obtain ⟨hO, hW, hr, hd⟩ := h
  obtain ⟨m', room', A', c', hW', hr', hf, hm⟩ := hS
  have hl : (L ++ [q]).length = L.length + 1 := by simp
  refine ⟨m', room', A', c', ?_⟩
  rw [hl, stN_snoc, stK_snoc, rowC_snoc]
  refine ⟨own_kept hO fun b e => ?_, hW', hr', fun b e => ?_⟩
  · have hb := hO.lt b e
    rw [own_row rfl] at e
    exact hf.2.2.2.2 b hb.2 (hd b e).1 (hd b e).2
  · have hb := hO.lt b ((own_row rfl).trans e)
    refine ⟨(hd b e).1, fun e2 => ?_⟩
    rcases hm with h | ⟨x, h, hx⟩
    · exact (hd b e).2 (h.symm.trans e2)
    · rw [h] at e2
      injection e2 with e2
      omega
theorem bk_keeps {w w2 w3 : World} {n : Nat} {rows : List Value} {Al : Option Addr} {cl : Nat} {N : Int} {nb m room : Nat} {A : Option Addr} {c : Nat} {N' : Int} {n' : Nat} (h : BkRow w n rows Al cl N nb m room A c w2) (hk : Keeps w w2)
    (hS : St w.heap.size w2 w.heap.size A N' n' w3) : Keeps w w3 := fr_keeps hk hS.fr (Nat.le_refl _) (fun b e => (h.2.1.row_lt b e).1)
theorem bk_grown {w wA w2 : World} {n : Nat} {rows : List Value} {Al : Option Addr} {cl : Nat} {N : Int} {nb m room : Nat} {A : Option Addr} {c : Nat} (h : BkRow w n rows Al cl N nb m room A c wA) (hk : Keeps w wA) (hg : wA.grownBy w2 (Value.slice Al n cl).ownBlock) : Keeps w w2 :=
  hk.grown hg (fun k e => (h.1.lt k e).1)
theorem bk_blk {wA w2 : World} {n : Nat} {Al : Option Addr} {cl : Nat} {go : Nat} {t : TypeId} {cs : Array Value} (hb : Blk wA go t cs) (hgo : ∀ b, rowOf Al = some b → b < go) (hg : wA.grownBy w2 (Value.slice Al n cl).ownBlock) : Blk w2 go t cs := by
  rw [own_row rfl] at hg
  exact (hg.block _ hb.lt (fun e => by have := hgo _ e.symm; omega)).trans hb
theorem bk_ops {w wr : World} {L : List OpV} {Al : Option Addr} {cl : Nat} (hO : wr.ownsRow w.heap.size 38 5 (.slice Al L.length cl) L.length (rowC L)) (hk : Keeps w wr) (hG : GoodL w L) : OpsAny wr Al L := by
  rcases Nat.eq_zero_or_pos L.length with h0 | h0
  · exact .inl (List.length_eq_zero_iff.1 h0)
  · obtain ⟨g, cap, hv, hb, hlt⟩ := hO.form h0
    injection hv with h1 h2 h3
    subst h1
    subst h3
    refine .inr ⟨g, 0, rfl, hlt, fun i q hq => ?_⟩
    have hi : i < L.length := (List.getElem?_eq_some_iff.1 hq).1
    have hc : ∀ j, j < 5 → wr.cell? ⟨g, 0 + i * 5 + j, none⟩ = (opCells q)[j]? := fun j hj => by
      rw [Nat.zero_add, hO.cellAt (i * 5 + j) (by omega)]
      exact rowC_get L i q hq j hj
    obtain ⟨⟨g1, g2, g3, g4, g5, g6, g7, g8⟩, hh⟩ := hG i q hq
    have hml : (qB q).length ≤ maxLen := by unfold maxLen; omega
    exact ⟨hc 0 (by omega), hc 1 (by omega), hc 2 (by omega), hc 3 (by omega), hc 4 (by omega), hh.keeps hk, g1, hml, g3, g4, g5, g6, g7, g8⟩
theorem one_op (w : World) (q : OpV) : Reads (w.alloc (.cells (opCells q).toArray 38)) (w.alloc (.cells (opCells q).toArray 38)).heap.size 5 (some ⟨w.heap.size, 0, none⟩) 1 (opCells q) :=
  Reads.of_own (World.ownsRow_lit (base := w.heap.size) w (opCells q).toArray 1 (Nat.le_refl _) (by simp only [maxLen]; omega) rfl)

set_option maxRecDepth 100000 in
set_option maxHeartbeats 4000000 in
theorem wholeBack_any (P : Option Addr) (ps : List OpV) (c0 : Nat) (w : World) (hp : OpsAny w P ps) (hpl : ps.length ≤ maxLen) :
    Calls Try.prog 5 #[.slice P ps.length c0] w fun e w' => e = .returned (.bool true) ∧ Keeps w w' := by
  obtain ⟨i0, hi0, hz0, hz1, hz2⟩ := info_parts op_info
  have hm : ps.length ≤ 9223372036854775807 := by unfold maxLen at hpl; exact hpl
  clear hpl
  have HP := hide hp
  clear hp
  generalize hn : ps.length = np at *
  have HN := hide hn
  clear hn
  have hk0 := (Keeps.refl w).alloc (.cells #[.slice none 0 0, .int .i64 0] 27)
  have HR0 := hide (show BkRow w 0 [] none 0 0 0 0 0 none 0 (w.alloc (.cells #[.slice none 0 0, .int .i64 0] 27)) from ⟨World.ownsRow_nil _ _ _ _, wh_new w _, by omega, fun b e => by cases e⟩)
  have HK0 := hide hk0
  clear hk0
  go_enter Try.func5, Try.ntmps5
  go_wp2_with fail
  refine (awake17_any _).mono ?_
  rintro e w1 ⟨rfl, hk1⟩
  have HI1 := hide (show Keeps w w1 ∧ GoodL w [] ∧ BkI w [] none 0 w1 from ⟨(unhide HK0).trans hk1, (fun i q hq => by simp at hq), 0, 0, none, 0, (unhide HR0).keeps hk1⟩)
  clear hk1
  go_wp2
  go_loopw [4, 5] (fun l i wr => ∃ (k : Nat) (L : List OpV) (Al : Option Addr) (cl : Nat) (lv : Value), k ≤ np ∧ k ≤ 40 ∧ L.length ≤ k ∧ lv = l ∧ lv = .slice Al L.length cl ∧ i = .int .i64 k ∧ Keeps w wr ∧ GoodL w L ∧ BkI w L Al cl wr) (fun _ i _ => np - (intOf i).toNat)
  case atStart => exact ⟨0, [], none, 0, _, by omega, by omega, by simp, rfl, rfl, rfl, (unhide HI1).1, (unhide HI1).2.1, (unhide HI1).2.2⟩
  case round =>
    obtain ⟨k, L, Al, cl, lv, hk, hk1, hLk, rfl, hlv, rfl, hkp, hgl, hbk⟩ := hrel
    by_cases hlt : k < np ∧ k < 40
    · obtain ⟨hlt, hlt60⟩ := hlt
      obtain ⟨b, o, kind, x, v, s, qa, qc, xs, rfl, hq, hc0, hc1, hc2, hc3, hc4, hh, h8, hql, hv0, hv1, hs0, hs1, hx0, hx1⟩ := (unhide HP).at_ (k := k) (by rw [unhide HN]; exact hlt)
      have hb := (by rcases unhide HP with h | ⟨b', o', e, hb, _⟩
                     · rw [h] at hq; simp at hq
                     · injection e with e; injection e with e1 _ _; rw [e1]; exact hb : b < w.heap.size)
      replace hc0 := (Below.cell (p := ⟨b, _, none⟩) hkp hb).trans hc0
      replace hc1 := (Below.cell (p := ⟨b, _, none⟩) hkp hb).trans hc1
      replace hc2 := (Below.cell (p := ⟨b, _, none⟩) hkp hb).trans hc2
      replace hc3 := (Below.cell (p := ⟨b, _, none⟩) hkp hb).trans hc3
      replace hc4 := (Below.cell (p := ⟨b, _, none⟩) hkp hb).trans hc4
      obtain ⟨m, room, A, c, hR⟩ := hbk
      have hop := (Keeps.refl wr).alloc (.cells #[.int .i64 kind, .int .i64 x, .int .u64 v, .int .u64 s, .slice qa xs.length qc] 38)
      have hOb := Blk.new wr 38 #[.int .i64 kind, .int .i64 x, .int .u64 v, .int .u64 s, .slice qa xs.length qc]
      have hROW := fun b e => (hR.1.lt b ((own_row rfl).trans e)).2
      have hwz := hkp.size
      have HLV := hide hlv
      clear hlv
      have HGL := hide hgl
      have HH := hide hh
      have H8 := hide h8
      have hnb : stK L L.length ≤ 64000 := by have := stK_le L hgl.ops L.length; omega
      unfold maxLen at hql
      by_cases hbig : 200 < xs.length
      · have HKF := hide (hkp.trans hop)
        have HBF := hide (show BkI w L Al cl (wr.alloc (.cells #[.int .i64 kind, .int .i64 x, .int .u64 v, .int .u64 s, .slice qa xs.length qc] 38)) from ⟨m, room, A, c, hR.keeps hop⟩)
        clear hkp hR hop hOb hgl hh h8 hq hROW
        have hLL := hLk
        generalize hLn : L.length = nL at *
        have HLN := hide hLn
        clear hLn
        go_wp2
        exact ⟨⟨k + 1, L, Al, cl, _, by omega, by omega, by have := unhide HLN; omega, rfl, (by rw [unhide HLN]; exact unhide HLV), by go_num, unhide HKF, unhide HGL, unhide HBF⟩, by simp [intOf]; omega⟩
      · have hsm : xs.length ≤ 200 := by omega
        have HGQ := hide (show GoodOp (kind, x, v, s, qa, qc, xs) from ⟨h8, hsm, hv0, hv1, hs0, hs1, hx0, hx1⟩)
        have HGN := hide (goodL_snoc hgl (unhide HGQ) hh)
        have HKP := hide ((hkp.trans hop).alloc (.cells #[.int .i64 kind, .int .i64 x, .int .u64 v, .int .u64 s, .slice qa xs.length qc] 38))
        have hRA := (hR.keeps hop).keeps ((Keeps.refl _).alloc (.cells #[.int .i64 kind, .int .i64 x, .int .u64 v, .int .u64 s, .slice qa xs.length qc] 38))
        have HRA := hide hRA
        have HOWN := hide (show World.ownsRow _ w.heap.size 38 5 lv L.length (rowC L) from by rw [unhide HLV]; exact hRA.1)
        have HOBA := hide (hOb.alloc (.cells #[.int .i64 kind, .int .i64 x, .int .u64 v, .int .u64 s, .slice qa xs.length qc] 38))
        have HROW := hide hROW
        have HRD := hide (show Reads ((wr.alloc (.cells #[.int .i64 kind, .int .i64 x, .int .u64 v, .int .u64 s, .slice qa xs.length qc] 38)).alloc (.cells #[.int .i64 kind, .int .i64 x, .int .u64 v, .int .u64 s, .slice qa xs.length qc] 38)) (wr.heap.size + 1 + 1) 5 (some ⟨wr.heap.size + 1, 0, none⟩) 1 (opCells (kind, x, v, s, qa, qc, xs)) from by have := one_op (wr.alloc (.cells #[.int .i64 kind, .int .i64 x, .int .u64 v, .int .u64 s, .slice qa xs.length qc] 38)) (kind, x, v, s, qa, qc, xs); rw [World.size_alloc, World.size_alloc] at this; exact this)
        have hKZ := ((hkp.trans hop).alloc (.cells #[.int .i64 kind, .int .i64 x, .int .u64 v, .int .u64 s, .slice qa xs.length qc] 38)).size
        have HKZ := hide hKZ
        have HAPP := hide (fun (L2 : List OpV) (e : L2 = L) => (show rowC L ++ opCells (kind, x, v, s, qa, qc, xs) = rowC L2 ++ opCells (kind, x, v, s, qa, qc, xs) from by rw [e]))
        clear hkp hR hop hOb hgl hh h8 hq hRA hbig hql hROW hKZ
        have HLE := hide hLk
        generalize hLn : L.length = nL at *
        have HLN := hide hLn
        clear hLn
        have HSTEP := hide fun (Al' : Option Addr) (cl' : Nat) (w2 w3 : World) (h : BkRow w (nL + 1) (rowC L ++ opCells (kind, x, v, s, qa, qc, xs)) Al' cl' (stN L nL) (stK L nL) m room A c w2) (hS : St w.heap.size w2 w.heap.size A (opN (stN L nL) (kind, x, v, s, qa, qc, xs)) (stK L nL + opK (kind, x, v, s, qa, qc, xs)) w3) => (show BkI w (L ++ [(kind, x, v, s, qa, qc, xs)]) Al' cl' w3 from by
          have e := unhide HLN
          subst e
          exact bk_step h hS)
        have HSL := hide (show (L ++ [(kind, x, v, s, qa, qc, xs)]).length = nL + 1 from by rw [List.length_append, unhide HLN]; rfl)
        generalize stK L nL = nb at *
        generalize stN L nL = N at *
        by_cases h1 : kind = 1
        · subst h1
          have HE1 := hide (show opK (1, x, v, s, qa, qc, xs) = 8 * xs.length from if_pos rfl)
          have HE2 := hide (show opN N (1, x, v, s, qa, qc, xs) = appB N xs from if_pos rfl)
          have HCX := hide fun (Al' : Option Addr) (cl' : Nat) (w2 : World) (h : BkRow w (nL + 1) (rowC L ++ opCells (1, x, v, s, qa, qc, xs)) Al' cl' N nb m room A c w2) (hk2 : Keeps w w2) => wOctets_any qa qc xs.length xs h.2.1 h.2.2.1 hk2.size rfl (unhide H8) (fun w' hf => (unhide HH).keeps (fr_keeps hk2 hf (Nat.le_refl _) (fun b e => (h.2.1.row_lt b e).1))) (by omega)
          go_wp2_with (at_builtin; go_loud (refine wpList_append_any _ rfl (.tmp 33) (.tmp 35) _ rfl w.heap.size 38 i0 _ 5 56 Try.underlying22 hi0 hz0 hz1 hz2 rfl (by omega) _ nL _ rfl (unhide HOWN) _ _ 1 1 _ rfl (unhide HRD) (opCells_one _) (by simp only [maxLen]; omega) (by omega) (unhide HKZ) ?_; intro v' w2 hown2 hg2 hat2; rw [unhide HLV] at hg2 hat2; obtain ⟨Al', cl', hv2, hR2⟩ := bk_append (unhide HRA) hown2 hg2 hat2; have HV2 := hide hv2; clear hv2; have hk2 := bk_grown (unhide HRA) (unhide HKP) hg2; have hob2 := bk_blk (unhide HOBA) (unhide HROW) hg2; obtain ⟨hoc2, hof2, hol2⟩ := hob2.facts; have HC1 := hide (unhide HCX Al' cl' w2 hR2 hk2); have HR2 := hide hR2; have HK2 := hide hk2; clear hown2 hg2 hat2 hR2 hk2 hob2))
          with_reducible refine (unhide HC1).mono ?_
          rintro e w3 ⟨rfl, hS⟩
          rw [← unhide HE2, ← unhide HE1] at hS
          have HBF := hide (unhide HSTEP Al' cl' _ _ (unhide HR2) hS)
          have HKF := hide (bk_keeps (unhide HR2) (unhide HK2) hS)
          clear hS
          go_wp2
          exact ⟨⟨k + 1, _, Al', cl', _, by omega, by omega, by rw [unhide HSL]; have := unhide HLE; omega, rfl, (by rw [unhide HSL]; exact unhide HV2), by go_num, unhide HKF, unhide HGN, unhide HBF⟩, by simp [intOf]; omega⟩
        · have e1 : (kind == 1) = false := beq_eq_false_iff_ne.2 h1
          by_cases h2 : kind = 2
          · subst h2
            have HE1 := hide (show opK (2, x, v, s, qa, qc, xs) = Lib.bitLen s.toNat from (if_neg h1).trans (if_pos rfl))
            have HE2 := hide (show opN N (2, x, v, s, qa, qc, xs) = tot N (min v s) (Lib.bitLen s.toNat) from (if_neg h1).trans (if_pos rfl))
            have HCX := hide fun (Al' : Option Addr) (cl' : Nat) (w2 : World) (h : BkRow w (nL + 1) (rowC L ++ opCells (2, x, v, s, qa, qc, xs)) Al' cl' N nb m room A c w2) (hk2 : Keeps w w2) => wBetween_st v s (St.start h.2.1 h.2.2.1) hk2.size hv0 hv1 hs0 hs1 (by omega)
            go_wp2_with (at_builtin; go_loud (refine wpList_append_any _ rfl (.tmp 33) (.tmp 35) _ rfl w.heap.size 38 i0 _ 5 56 Try.underlying22 hi0 hz0 hz1 hz2 rfl (by omega) _ nL _ rfl (unhide HOWN) _ _ 1 1 _ rfl (unhide HRD) (opCells_one _) (by simp only [maxLen]; omega) (by omega) (unhide HKZ) ?_; intro v' w2 hown2 hg2 hat2; rw [unhide HLV] at hg2 hat2; obtain ⟨Al', cl', hv2, hR2⟩ := bk_append (unhide HRA) hown2 hg2 hat2; have HV2 := hide hv2; clear hv2; have hk2 := bk_grown (unhide HRA) (unhide HKP) hg2; have hob2 := bk_blk (unhide HOBA) (unhide HROW) hg2; obtain ⟨hoc2, hof2, hol2⟩ := hob2.facts; have HC1 := hide (unhide HCX Al' cl' w2 hR2 hk2); have HR2 := hide hR2; have HK2 := hide hk2; clear hown2 hg2 hat2 hR2 hk2 hob2))
            with_reducible refine (unhide HC1).mono ?_
            rintro e w3 ⟨rfl, hS⟩
            rw [← unhide HE2, ← unhide HE1] at hS
            have HBF := hide (unhide HSTEP Al' cl' _ _ (unhide HR2) hS)
            have HKF := hide (bk_keeps (unhide HR2) (unhide HK2) hS)
            clear hS
            go_wp2
            exact ⟨⟨k + 1, _, Al', cl', _, by omega, by omega, by rw [unhide HSL]; have := unhide HLE; omega, rfl, (by rw [unhide HSL]; exact unhide HV2), by go_num, unhide HKF, unhide HGN, unhide HBF⟩, by simp [intOf]; omega⟩
          · have e2 : (kind == 2) = false := beq_eq_false_iff_ne.2 h2
            by_cases h3 : kind = 3
            · subst h3
              have HE1 := hide (show opK (3, x, v, s, qa, qc, xs) = smL (smM x) from (if_neg h1).trans ((if_neg h2).trans (if_pos rfl)))
              have HE2 := hide (show opN N (3, x, v, s, qa, qc, xs) = smN N (smM x) from (if_neg h1).trans ((if_neg h2).trans (if_pos rfl)))
              have hsr := smM_range x
              have HCX := hide fun (Al' : Option Addr) (cl' : Nat) (w2 : World) (h : BkRow w (nL + 1) (rowC L ++ opCells (3, x, v, s, qa, qc, xs)) Al' cl' N nb m room A c w2) (hk2 : Keeps w w2) (y : Int) (hy : y = smM x) => wSmall_st y (smM x) (by omega) (St.start h.2.1 h.2.2.1) hk2.size (by omega) (by omega)
              clear hsr
              go_wp2_with (at_builtin; go_loud (refine wpList_append_any _ rfl (.tmp 33) (.tmp 35) _ rfl w.heap.size 38 i0 _ 5 56 Try.underlying22 hi0 hz0 hz1 hz2 rfl (by omega) _ nL _ rfl (unhide HOWN) _ _ 1 1 _ rfl (unhide HRD) (opCells_one _) (by simp only [maxLen]; omega) (by omega) (unhide HKZ) ?_; intro v' w2 hown2 hg2 hat2; rw [unhide HLV] at hg2 hat2; obtain ⟨Al', cl', hv2, hR2⟩ := bk_append (unhide HRA) hown2 hg2 hat2; have HV2 := hide hv2; clear hv2; have hk2 := bk_grown (unhide HRA) (unhide HKP) hg2; have hob2 := bk_blk (unhide HOBA) (unhide HROW) hg2; obtain ⟨hoc2, hof2, hol2⟩ := hob2.facts; have HC1 := hide (unhide HCX Al' cl' w2 hR2 hk2); have HR2 := hide hR2; have HK2 := hide hk2; clear hown2 hg2 hat2 hR2 hk2 hob2))
              refine (unhide HC1 _ (by simp only [smM, IntKind.wrap_u64]; rw [Int.tmod_eq_emod_of_nonneg (by omega)]; simp only [wrap64]; omega)).mono ?_
              rintro e w3 ⟨rfl, hS⟩
              rw [← unhide HE2, ← unhide HE1] at hS
              have HBF := hide (unhide HSTEP Al' cl' _ _ (unhide HR2) hS)
              have HKF := hide (bk_keeps (unhide HR2) (unhide HK2) hS)
              clear hS
              go_wp2
              exact ⟨⟨k + 1, _, Al', cl', _, by omega, by omega, by rw [unhide HSL]; have := unhide HLE; omega, rfl, (by rw [unhide HSL]; exact unhide HV2), by go_num, unhide HKF, unhide HGN, unhide HBF⟩, by simp [intOf]; omega⟩
            · have e3 : (kind == 3) = false := beq_eq_false_iff_ne.2 h3
              have HE1 := hide (show opK (kind, x, v, s, qa, qc, xs) = wN x from (if_neg h1).trans ((if_neg h2).trans (if_neg h3)))
              have HE2 := hide (show opN N (kind, x, v, s, qa, qc, xs) = tot N v (wN x) from (if_neg h1).trans ((if_neg h2).trans (if_neg h3)))
              have hcl := wN_eq x
              have HCX := hide fun (Al' : Option Addr) (cl' : Nat) (w2 : World) (h : BkRow w (nL + 1) (rowC L ++ opCells (kind, x, v, s, qa, qc, xs)) Al' cl' N nb m room A c w2) (hk2 : Keeps w w2) => wBits_st v x (wN x) (St.start h.2.1 h.2.2.1) hk2.size hv0 hv1 hcl.1 (by omega)
              clear h1 h2 h3 hcl
              go_wp2_with (at_builtin; go_loud (refine wpList_append_any _ rfl (.tmp 33) (.tmp 35) _ rfl w.heap.size 38 i0 _ 5 56 Try.underlying22 hi0 hz0 hz1 hz2 rfl (by omega) _ nL _ rfl (unhide HOWN) _ _ 1 1 _ rfl (unhide HRD) (opCells_one _) (by simp only [maxLen]; omega) (by omega) (unhide HKZ) ?_; intro v' w2 hown2 hg2 hat2; rw [unhide HLV] at hg2 hat2; obtain ⟨Al', cl', hv2, hR2⟩ := bk_append (unhide HRA) hown2 hg2 hat2; have HV2 := hide hv2; clear hv2; have hk2 := bk_grown (unhide HRA) (unhide HKP) hg2; have hob2 := bk_blk (unhide HOBA) (unhide HROW) hg2; obtain ⟨hoc2, hof2, hol2⟩ := hob2.facts; have HC1 := hide (unhide HCX Al' cl' w2 hR2 hk2); have HR2 := hide hR2; have HK2 := hide hk2; clear hown2 hg2 hat2 hR2 hk2 hob2))
              with_reducible refine (unhide HC1).mono ?_
              rintro e w3 ⟨rfl, hS⟩
              rw [← unhide HE2, ← unhide HE1] at hS
              have HBF := hide (unhide HSTEP Al' cl' _ _ (unhide HR2) hS)
              have HKF := hide (bk_keeps (unhide HR2) (unhide HK2) hS)
              clear hS
              go_wp2
              exact ⟨⟨k + 1, _, Al', cl', _, by omega, by omega, by rw [unhide HSL]; have := unhide HLE; omega, rfl, (by rw [unhide HSL]; exact unhide HV2), by go_num, unhide HKF, unhide HGN, unhide HBF⟩, by simp [intOf]; omega⟩
    · subst hlv
      have HGL := hide hgl
      have hrg := stN_range L hgl.ops L.length
      have HENDV := hide (end_octW _ _ hrg.1 hrg.2)
      have hnf : stK L L.length ≤ 64000 := by have := stK_le L hgl.ops L.length; omega
      have HMONO := hide (stK_mono L)
      have hlen := octW_length (stN L L.length) (stK L L.length)
      have hys : (octW (stN L L.length) (stK L L.length)).length ≤ 20000 := by omega
      have hyn : stK L L.length ≤ 8 * (octW (stN L L.length) (stK L L.length)).length := by omega
      have HY8 := hide (octW_bytes (stN L L.length) (stK L L.length))
      obtain ⟨m, room, A1, c1, hR⟩ := hbk
      have HCB := hide (wBytes_st (base := w.heap.size) (g := w.heap.size) ⟨m, room, A1, c1, hR.2.1, hR.2.2.1⟩ (by omega))
      have HOPS3 := hide fun (w3 : World) (hk3 : Keeps wr w3) => bk_ops (own_keeps_ hR.1 hk3) (hkp.trans hk3) hgl
      have HBI := hide fun i q => rd_bits L hgl.ops i L.length q
      have HBT := hide fun i q => rd_between L hgl.ops i L.length q
      have HOC := hide fun i q => rd_octs L hgl.ops i L.length q
      have HSL := hide fun i q => rd_small L hgl.ops i L.length q
      have HKP := hide hkp
      have HYN := hide hyn
      have hz0 : stK L 0 = 0 := rfl
      have hgz0 := hR.2.1.2.1.lt
      clear hkp hR hrg hlen hgl hyn
      generalize hygen : octW (stN L L.length) (stK L L.length) = ys at *
      clear hygen
      generalize hFn : L.length = F at *
      have HLF := hide hFn
      clear hFn
      have hF60 : F ≤ 40 := by omega
      have hkk : (k : Int) < (np : Int) → ¬ ((k : Int) < 40) := by omega
      clear hlt
      have hfirst : ∀ (Q : Prop), (((k : Int) < (np : Int)) → ¬ ((k : Int) < 40) → Q) → (¬ ((k : Int) < (np : Int)) → Q) → Q := fun Q h1 h2 => by
        by_cases h : (k : Int) < (np : Int)
        · exact h1 h (hkk h)
        · exact h2 h
      clear hkk
      refine hfirst _ (fun hA hB => ?_) (fun hB => ?_)
      all_goals
        clear hfirst
        go_wp2_with fail
        with_reducible refine (unhide HCB).mono ?_
        rintro e w3 ⟨A3, c3, rfl, hc3, hf3⟩
        have HKP3 := hide ((unhide HKP).trans hf3.2)
        have HP3 := hide (unhide HOPS3 w3 hf3.2)
        have HCN := hide (wrNew_any A3 ys c3 w3 hf3.holds (by omega))
        have hz3 := hf3.2.size
        clear hf3 hc3
        go_wp2_with fail
        with_reducible refine (unhide HCN).mono ?_
        rintro e w4 ⟨gr, A, c, rfl, hrv, hgr, hrow, hk4, hcl⟩
        have HK4 := hide hk4
        have HGR := hide hgr
        have HRV := hide hrv
        have hgrl := hrv.1.lt
        clear hrv hrow hk4
        go_wp2
        go_loopw [8] (fun i wr => ∃ j : Nat, j ≤ F ∧ i = .int .i64 j ∧ Keeps w3 wr ∧ gr < wr.heap.size ∧ WRV wr gr A c ys (stK L j) 0) (fun i _ => F - (intOf i).toNat)
        case atStart => exact ⟨0, Nat.zero_le _, rfl, unhide HK4, hgrl, unhide HRV⟩
        case round =>
          obtain ⟨j, hj, rfl, hkp, hgrw, hR⟩ := hrel
          by_cases hlt : j < F
          · have hmj := unhide HMONO j F (by omega)
            obtain ⟨b, o, kind, x, v, s, qa, qc, xs, rfl, hq, hc0, hc1, hc2, hc3, hc4, hh, h8, hql, hv0, hv1, hs0, hs1, hx0, hx1⟩ := ((unhide HP3).keeps hkp).at_ (k := j) (by rw [unhide HLF]; omega)
            have HSK := hide (stK_succ L j _ hq)
            have hop := (Keeps.refl wr).alloc (.cells #[.int .i64 kind, .int .i64 x, .int .u64 v, .int .u64 s, .slice qa xs.length qc] 38)
            have hOb := Blk.new wr 38 #[.int .i64 kind, .int .i64 x, .int .u64 v, .int .u64 s, .slice qa xs.length qc]
            have HR := hide ((hR.keeps hop).keeps (Keeps.refl _).drew)
            have HR0 := hide (hR.keeps hop)
            have HKP := hide (hkp.trans hop)
            have hsz : gr < (wr.alloc (.cells #[.int .i64 kind, .int .i64 x, .int .u64 v, .int .u64 s, .slice qa xs.length qc] 38)).heap.size := by rw [World.size_alloc]; omega
            have HSZ := hide hsz
            have HOB := hide hOb
            have HHX := hide (unhide HGL j _ hq).2
            have H8 := hide h8
            have HQ := hide hq
            have hF1 : j + 1 ≤ F := by omega
            have hnext := unhide HMONO (j + 1) F (by omega)
            rw [unhide HSK] at hnext
            unfold maxLen at hql
            obtain ⟨hoc, hof, hol⟩ := hOb.facts
            clear hkp hR hop hOb hh h8 hq hsz
            by_cases h1 : kind = 1
            · subst h1
              obtain ⟨b1, b2⟩ := unhide HOC j _ (unhide HQ) hF1 rfl
              simp only [qB] at b1 b2
              rw [b1] at HSK hnext
              have hc1 := wrOctets_any (xs.length : Int) xs.length (by omega) (unhide HR) (unhide HY8) (by omega) (by have := unhide HYN; omega) hcl (by have := unhide HYN; omega) (by have := unhide HYN; omega)
              rw [b2, ← unhide HSK] at hc1
              have HC1 := hide hc1
              clear b1 b2 hnext hc1 hmj
              go_wp2
              refine wp_region_held_drew (S := fun w' => (∀ i, w'.cell? ⟨wr.heap.size, i, none⟩ = (#[.int .i64 1, .int .i64 x, .int .u64 v, .int .u64 s, .slice qa xs.length qc] : Array Value)[i]?) ∧ True) (by kernel_rfl) ?_ (fun hHeld => ?_)
              · exact ⟨(unhide HOB).drew.cell, trivial⟩
              refine wpAnyH_take (i := 0) (oi := { dst := some 103, op := Op.move (Operand.tmp 7), type := 47, pos := "law.go:144", after := #[], guard := none }) (v := ?_) rfl (by kernel_rfl) (by kernel_rfl) (by kernel_rfl) (fun _ _ _ h => h) (Or.inl ⟨by rfl, ?_⟩) (by assumption) ?_
              rotate_left
              · intro w hSw
                go_simp
                try with_reducible rfl
              try simp only [Act.put, List.setIfInBounds_toArray, List.set_cons_zero, List.set_cons_succ]
              refine wpAnyH_take (i := 1) (oi := { dst := some 104, op := Op.fieldAddr 38 (Operand.tmp 9) 4, type := 0, pos := "law.go:144", after := #[], guard := none }) (v := ?_) rfl (by kernel_rfl) (by kernel_rfl) (by kernel_rfl) (fun _ _ _ h => h) (Or.inl ⟨by rfl, ?_⟩) (by assumption) ?_
              rotate_left
              · intro w hSw
                go_simp
                try with_reducible rfl
              try simp only [Act.put, List.setIfInBounds_toArray, List.set_cons_zero, List.set_cons_succ]
              refine wpAnyH_take (i := 2) (oi := { dst := some 105, op := Op.load 23 (Operand.tmp 104), type := 23, pos := "law.go:144", after := #[{ on := 1, ground := Ground.data }], guard := none }) (v := ?_) rfl (by kernel_rfl) (by kernel_rfl) (by kernel_rfl) (fun _ _ _ h => h) (Or.inl ⟨by rfl, ?_⟩) (by assumption) ?_
              rotate_left
              · intro w hSw
                go_simp
                try with_reducible rfl
              try simp only [Act.put, List.setIfInBounds_toArray, List.set_cons_zero, List.set_cons_succ]
              refine wpAnyH_take (i := 3) (oi := { dst := some 106, op := Op.call { callee := Callee.builtin Builtin.len, args := #[Operand.tmp 105], argTypes := #[23] }, type := 3, pos := "law.go:144", after := #[{ on := 2, ground := Ground.data }], guard := none }) (v := ?_) rfl (by kernel_rfl) (by kernel_rfl) (by kernel_rfl) (fun _ _ _ h => h) (Or.inl ⟨by rfl, ?_⟩) (by assumption) ?_
              rotate_left
              · intro w hSw
                go_simp
                try with_reducible rfl
              try simp only [Act.put, List.setIfInBounds_toArray, List.set_cons_zero, List.set_cons_succ]
              refine wpAnyH_take (i := 5) (oi := { dst := some 108, op := Op.fieldAddr 38 (Operand.tmp 9) 4, type := 0, pos := "law.go:144", after := #[], guard := none }) (v := ?_) rfl (by kernel_rfl) (by kernel_rfl) (by kernel_rfl) (fun _ _ _ h => h) (Or.inl ⟨by rfl, ?_⟩) (by assumption) ?_
              rotate_left
              · intro w hSw
                go_simp
                try with_reducible rfl
              try simp only [Act.put, List.setIfInBounds_toArray, List.set_cons_zero, List.set_cons_succ]
              refine wpAnyH_take (i := 6) (oi := { dst := some 109, op := Op.load 23 (Operand.tmp 108), type := 23, pos := "law.go:144", after := #[{ on := 5, ground := Ground.data }], guard := none }) (v := ?_) rfl (by kernel_rfl) (by kernel_rfl) (by kernel_rfl) (fun _ _ _ h => h) (Or.inl ⟨by rfl, ?_⟩) (by assumption) ?_
              rotate_left
              · intro w hSw
                go_simp
                try with_reducible rfl
              try simp only [Act.put, List.setIfInBounds_toArray, List.set_cons_zero, List.set_cons_succ]
              refine wpAnyH_ready (rs := [4]) (by kernel_rfl) (by simp) ?_
              refine AllReadyH.cons (o := { dst := some 107, op := Op.call { callee := Callee.value (Operand.func 29), args := #[Operand.tmp 103, Operand.tmp 106], argTypes := #[47, 3] }, type := 23, pos := "law.go:144", after := #[{ on := 0, ground := Ground.data }, { on := 3, ground := Ground.data }], guard := none }) rfl (fun K hK => ?_) AllReadyH.nil
              go_simp
              go_at_call 29
              with_reducible refine (unhide HC1).mono ?_
              rintro e w7 ⟨B, d, rfl, hd7, hhB, _, hR7, hf7⟩
              have HR7 := hide hR7
              have HFR7 := hide hf7
              have HHB := hide hhB
              have HSM := hide (sameBytes_any B qa xs xs d qc w7 hhB ((unhide HHX).keeps ((unhide HKP3).trans (k_any (unhide HKP).drew hf7 (unhide HGR)))) (unhide H8) (unhide H8))
              rw [decide_eq_true rfl] at HSM
              clear hR7 hf7 hhB hd7
              go_wp2_with fail
              refine hK.out _ _ ?_ (fun hHeld => ?_)
              · exact held_fr (by assumption) (unhide HFR7) (by have := unhide HGR; omega) (by have e1 := World.size_alloc wr (.cells #[.int .i64 1, .int .i64 x, .int .u64 v, .int .u64 s, .slice qa xs.length qc] 38); exact Nat.lt_of_lt_of_eq (Nat.lt_succ_self _) e1.symm)
              clear hK K
              try simp only [Act.put, List.setIfInBounds_toArray, List.set_cons_zero, List.set_cons_succ]
              refine wpAnyH_ready (rs := [7]) (by kernel_rfl) (by simp) ?_
              refine AllReadyH.cons (o := { dst := some 110, op := Op.call { callee := Callee.value (Operand.func 9), args := #[Operand.tmp 107, Operand.tmp 109], argTypes := #[23, 23] }, type := 4, pos := "law.go:144", after := #[{ on := 4, ground := Ground.data }, { on := 6, ground := Ground.data }, { on := 4, ground := Ground.chain }], guard := none }) rfl (fun K hK => ?_) AllReadyH.nil
              go_simp
              go_at_call 9
              with_reducible refine (unhide HSM).mono ?_
              rintro e wn ⟨rfl, hwn⟩
              rw [← hwn]
              clear hwn
              go_wp2_with fail
              refine hK.out _ _ ?_ (fun hHeld => ?_)
              · assumption
              clear hK K
              try simp only [Act.put, List.setIfInBounds_toArray, List.set_cons_zero, List.set_cons_succ]
              refine wpAnyH_take (i := 8) (oi := { dst := some 10, op := Op.assign (Operand.tmp 110), type := 4, pos := "law.go:144", after := #[{ on := 7, ground := Ground.data }, { on := 7, ground := Ground.chain }, { on := 0, ground := Ground.phase }, { on := 1, ground := Ground.phase }, { on := 2, ground := Ground.phase }, { on := 3, ground := Ground.phase }, { on := 4, ground := Ground.phase }, { on := 5, ground := Ground.phase }, { on := 6, ground := Ground.phase }, { on := 7, ground := Ground.phase }], guard := none }) (v := ?_) rfl (by kernel_rfl) (by kernel_rfl) (by kernel_rfl) (fun _ _ _ h => h) (Or.inl ⟨by rfl, ?_⟩) (by assumption) ?_
              rotate_left
              · intro w hSw
                go_simp
                try with_reducible rfl
              try simp only [Act.put, List.setIfInBounds_toArray, List.set_cons_zero, List.set_cons_succ]
              refine wpAnyH_done (by kernel_rfl) ?_ _
              have HKF := hide (k_any (unhide HKP).drew (unhide HFR7) (unhide HGR))
              have hszf : gr < w7.heap.size := Nat.lt_of_lt_of_le (unhide HSZ) (unhide HFR7).2.2.2.1
              have HSZF := hide hszf
              clear hHeld hszf
              go_wp2
              exact ⟨⟨j + 1, by omega, by go_num, unhide HKF, unhide HSZF, unhide HR7⟩, by simp [intOf]; omega⟩
            · have e1 : (kind == 1) = false := beq_eq_false_iff_ne.2 h1
              by_cases h2 : kind = 2
              · subst h2
                obtain ⟨b1, b2⟩ := unhide HBT j _ (unhide HQ) hF1 rfl
                simp only at b1 b2
                rw [b1] at HSK hnext
                have d1 : rdVal ys (stK L j) 0 (Lib.bitLen s.toNat) = min v s := (if_pos ⟨rfl, by have := unhide HYN; omega⟩).trans b2
                have d2 : rdAt (8 * ys.length) (stK L j) 0 (Lib.bitLen s.toNat) = stK L j + Lib.bitLen s.toNat := by unfold rdAt; rw [if_pos ⟨rfl, by have := unhide HYN; omega⟩]
                have d3 : rdF (8 * ys.length) (stK L j) 0 (Lib.bitLen s.toNat) = 0 := by unfold rdF; rw [if_pos rfl, if_pos (by have := unhide HYN; omega)]
                have hms : min v s ≤ s := Int.min_le_right _ _
                have hc1 := wrBetween_any s hs0 hs1 (unhide HR) (unhide HY8) (by omega) (by have := unhide HYN; omega)
                unfold btV btA btF at hc1
                rw [d1, d2, d3, if_pos hms, if_pos hms, if_pos hms, ← unhide HSK] at hc1
                have HC1 := hide hc1
                clear b1 b2 d1 d2 d3 hms hnext hc1 hmj h1 e1
                by_cases hvs : v ≤ s
                · rw [show min v s = v from by omega] at HC1
                  have hmn : min v s = v := by omega
                  go_wp2
                  refine wp_region_held_drew (S := fun w' => (∀ i, w'.cell? ⟨wr.heap.size, i, none⟩ = (#[.int .i64 2, .int .i64 x, .int .u64 v, .int .u64 s, .slice qa xs.length qc] : Array Value)[i]?) ∧ True) (by kernel_rfl) ?_ (fun hHeld => ?_)
                  · exact ⟨(unhide HOB).drew.cell, trivial⟩
                  refine wpAnyH_take (i := 0) (oi := { dst := some 113, op := Op.move (Operand.tmp 7), type := 47, pos := "law.go:146", after := #[], guard := none }) (v := ?_) rfl (by kernel_rfl) (by kernel_rfl) (by kernel_rfl) (fun _ _ _ h => h) (Or.inl ⟨by rfl, ?_⟩) (by assumption) ?_
                  rotate_left
                  · intro w hSw
                    go_simp
                    try with_reducible rfl
                  try simp only [Act.put, List.setIfInBounds_toArray, List.set_cons_zero, List.set_cons_succ]
                  refine wpAnyH_take (i := 1) (oi := { dst := some 114, op := Op.fieldAddr 38 (Operand.tmp 9) 3, type := 0, pos := "law.go:146", after := #[], guard := none }) (v := ?_) rfl (by kernel_rfl) (by kernel_rfl) (by kernel_rfl) (fun _ _ _ h => h) (Or.inl ⟨by rfl, ?_⟩) (by assumption) ?_
                  rotate_left
                  · intro w hSw
                    go_simp
                    try with_reducible rfl
                  try simp only [Act.put, List.setIfInBounds_toArray, List.set_cons_zero, List.set_cons_succ]
                  refine wpAnyH_take (i := 2) (oi := { dst := some 115, op := Op.load 36 (Operand.tmp 114), type := 36, pos := "law.go:146", after := #[{ on := 1, ground := Ground.data }], guard := none }) (v := ?_) rfl (by kernel_rfl) (by kernel_rfl) (by kernel_rfl) (fun _ _ _ h => h) (Or.inl ⟨by rfl, ?_⟩) (by assumption) ?_
                  rotate_left
                  · intro w hSw
                    go_simp
                    try with_reducible rfl
                  try simp only [Act.put, List.setIfInBounds_toArray, List.set_cons_zero, List.set_cons_succ]
                  refine wpAnyH_take (i := 4) (oi := { dst := some 117, op := Op.fieldAddr 38 (Operand.tmp 9) 2, type := 0, pos := "law.go:146", after := #[], guard := none }) (v := ?_) rfl (by kernel_rfl) (by kernel_rfl) (by kernel_rfl) (fun _ _ _ h => h) (Or.inl ⟨by rfl, ?_⟩) (by assumption) ?_
                  rotate_left
                  · intro w hSw
                    go_simp
                    try with_reducible rfl
                  try simp only [Act.put, List.setIfInBounds_toArray, List.set_cons_zero, List.set_cons_succ]
                  refine wpAnyH_take (i := 5) (oi := { dst := some 118, op := Op.load 36 (Operand.tmp 117), type := 36, pos := "law.go:146", after := #[{ on := 4, ground := Ground.data }], guard := none }) (v := ?_) rfl (by kernel_rfl) (by kernel_rfl) (by kernel_rfl) (fun _ _ _ h => h) (Or.inl ⟨by rfl, ?_⟩) (by assumption) ?_
                  rotate_left
                  · intro w hSw
                    go_simp
                    try with_reducible rfl
                  try simp only [Act.put, List.setIfInBounds_toArray, List.set_cons_zero, List.set_cons_succ]
                  refine wpAnyH_take (i := 6) (oi := { dst := some 119, op := Op.fieldAddr 38 (Operand.tmp 9) 3, type := 0, pos := "law.go:146", after := #[], guard := none }) (v := ?_) rfl (by kernel_rfl) (by kernel_rfl) (by kernel_rfl) (fun _ _ _ h => h) (Or.inl ⟨by rfl, ?_⟩) (by assumption) ?_
                  rotate_left
                  · intro w hSw
                    go_simp
                    try with_reducible rfl
                  try simp only [Act.put, List.setIfInBounds_toArray, List.set_cons_zero, List.set_cons_succ]
                  refine wpAnyH_take (i := 7) (oi := { dst := some 120, op := Op.load 36 (Operand.tmp 119), type := 36, pos := "law.go:146", after := #[{ on := 6, ground := Ground.data }], guard := none }) (v := ?_) rfl (by kernel_rfl) (by kernel_rfl) (by kernel_rfl) (fun _ _ _ h => h) (Or.inl ⟨by rfl, ?_⟩) (by assumption) ?_
                  rotate_left
                  · intro w hSw
                    go_simp
                    try with_reducible rfl
                  try simp only [Act.put, List.setIfInBounds_toArray, List.set_cons_zero, List.set_cons_succ]
                  refine wpAnyH_take (i := 8) (oi := { dst := some 121, op := Op.call { callee := Callee.builtin Builtin.min, args := #[Operand.tmp 118, Operand.tmp 120], argTypes := #[36, 36] }, type := 36, pos := "law.go:146", after := #[{ on := 5, ground := Ground.data }, { on := 7, ground := Ground.data }], guard := none }) (v := ?_) rfl (by kernel_rfl) (by kernel_rfl) (by kernel_rfl) (fun _ _ _ h => h) (Or.inl ⟨by rfl, ?_⟩) (by assumption) ?_
                  rotate_left
                  · intro w hSw
                    go_simp
                    try with_reducible rfl
                  try simp only [Act.put, List.setIfInBounds_toArray, List.set_cons_zero, List.set_cons_succ]
                  refine wpAnyH_ready (rs := [3]) (by kernel_rfl) (by simp) ?_
                  refine AllReadyH.cons (o := { dst := some 116, op := Op.call { callee := Callee.value (Operand.func 31), args := #[Operand.tmp 113, Operand.tmp 115], argTypes := #[47, 36] }, type := 36, pos := "law.go:146", after := #[{ on := 0, ground := Ground.data }, { on := 2, ground := Ground.data }], guard := none }) rfl (fun K hK => ?_) AllReadyH.nil
                  go_simp
                  go_at_call 31
                  with_reducible refine (unhide HC1).mono ?_
                  rintro e w7 ⟨rfl, hR7, hf7⟩
                  have HR7 := hide hR7
                  have HFR7 := hide hf7
                  clear hR7 hf7
                  go_wp2_with fail
                  refine hK.out _ _ ?_ (fun hHeld => ?_)
                  · exact held_fr (by assumption) (unhide HFR7) (by have := unhide HGR; omega) (by have e1 := World.size_alloc wr (.cells #[.int .i64 2, .int .i64 x, .int .u64 v, .int .u64 s, .slice qa xs.length qc] 38); exact Nat.lt_of_lt_of_eq (Nat.lt_succ_self _) e1.symm)
                  clear hK K
                  try simp only [Act.put, List.setIfInBounds_toArray, List.set_cons_zero, List.set_cons_succ]
                  refine wpAnyH_take (i := 9) (oi := { dst := some 122, op := Op.binOp BinOp.eql 36 (Operand.tmp 116) (Operand.tmp 121) 36, type := 4, pos := "law.go:146", after := #[{ on := 3, ground := Ground.data }, { on := 8, ground := Ground.data }], guard := none }) (v := ?_) rfl (by kernel_rfl) (by kernel_rfl) (by kernel_rfl) (fun _ _ _ h => h) (Or.inl ⟨by rfl, ?_⟩) (by assumption) ?_
                  rotate_left
                  · intro w hSw
                    go_simp
                    try with_reducible rfl
                  try simp only [Act.put, List.setIfInBounds_toArray, List.set_cons_zero, List.set_cons_succ]
                  refine wpAnyH_take (i := 10) (oi := { dst := some 10, op := Op.assign (Operand.tmp 122), type := 4, pos := "law.go:146", after := #[{ on := 9, ground := Ground.data }, { on := 3, ground := Ground.chain }, { on := 0, ground := Ground.phase }, { on := 1, ground := Ground.phase }, { on := 2, ground := Ground.phase }, { on := 3, ground := Ground.phase }, { on := 4, ground := Ground.phase }, { on := 5, ground := Ground.phase }, { on := 6, ground := Ground.phase }, { on := 7, ground := Ground.phase }, { on := 8, ground := Ground.phase }, { on := 9, ground := Ground.phase }], guard := none }) (v := ?_) rfl (by kernel_rfl) (by kernel_rfl) (by kernel_rfl) (fun _ _ _ h => h) (Or.inl ⟨by rfl, ?_⟩) (by assumption) ?_
                  rotate_left
                  · intro w hSw
                    go_simp
                    try with_reducible rfl
                  try simp only [Act.put, List.setIfInBounds_toArray, List.set_cons_zero, List.set_cons_succ]
                  refine wpAnyH_done (by kernel_rfl) ?_ _
                  have HKF := hide (k_any (unhide HKP).drew (unhide HFR7) (unhide HGR))
                  have hszf : gr < w7.heap.size := Nat.lt_of_lt_of_le (unhide HSZ) (unhide HFR7).2.2.2.1
                  have HSZF := hide hszf
                  clear hHeld hszf
                  go_wp2
                  exact ⟨⟨j + 1, by omega, by go_num, unhide HKF, unhide HSZF, unhide HR7⟩, by simp [intOf]; omega⟩
                · rw [show min v s = s from by omega] at HC1
                  have hmn : min v s = s := by omega
                  go_wp2
                  refine wp_region_held_drew (S := fun w' => (∀ i, w'.cell? ⟨wr.heap.size, i, none⟩ = (#[.int .i64 2, .int .i64 x, .int .u64 v, .int .u64 s, .slice qa xs.length qc] : Array Value)[i]?) ∧ True) (by kernel_rfl) ?_ (fun hHeld => ?_)
                  · exact ⟨(unhide HOB).drew.cell, trivial⟩
                  refine wpAnyH_take (i := 0) (oi := { dst := some 113, op := Op.move (Operand.tmp 7), type := 47, pos := "law.go:146", after := #[], guard := none }) (v := ?_) rfl (by kernel_rfl) (by kernel_rfl) (by kernel_rfl) (fun _ _ _ h => h) (Or.inl ⟨by rfl, ?_⟩) (by assumption) ?_
                  rotate_left
                  · intro w hSw
                    go_simp
                    try with_reducible rfl
                  try simp only [Act.put, List.setIfInBounds_toArray, List.set_cons_zero, List.set_cons_succ]
                  refine wpAnyH_take (i := 1) (oi := { dst := some 114, op := Op.fieldAddr 38 (Operand.tmp 9) 3, type := 0, pos := "law.go:146", after := #[], guard := none }) (v := ?_) rfl (by kernel_rfl) (by kernel_rfl) (by kernel_rfl) (fun _ _ _ h => h) (Or.inl ⟨by rfl, ?_⟩) (by assumption) ?_
                  rotate_left
                  · intro w hSw
                    go_simp
                    try with_reducible rfl
                  try simp only [Act.put, List.setIfInBounds_toArray, List.set_cons_zero, List.set_cons_succ]
                  refine wpAnyH_take (i := 2) (oi := { dst := some 115, op := Op.load 36 (Operand.tmp 114), type := 36, pos := "law.go:146", after := #[{ on := 1, ground := Ground.data }], guard := none }) (v := ?_) rfl (by kernel_rfl) (by kernel_rfl) (by kernel_rfl) (fun _ _ _ h => h) (Or.inl ⟨by rfl, ?_⟩) (by assumption) ?_
                  rotate_left
                  · intro w hSw
                    go_simp
                    try with_reducible rfl
                  try simp only [Act.put, List.setIfInBounds_toArray, List.set_cons_zero, List.set_cons_succ]
                  refine wpAnyH_take (i := 4) (oi := { dst := some 117, op := Op.fieldAddr 38 (Operand.tmp 9) 2, type := 0, pos := "law.go:146", after := #[], guard := none }) (v := ?_) rfl (by kernel_rfl) (by kernel_rfl) (by kernel_rfl) (fun _ _ _ h => h) (Or.inl ⟨by rfl, ?_⟩) (by assumption) ?_
                  rotate_left
                  · intro w hSw
                    go_simp
                    try with_reducible rfl
                  try simp only [Act.put, List.setIfInBounds_toArray, List.set_cons_zero, List.set_cons_succ]
                  refine wpAnyH_take (i := 5) (oi := { dst := some 118, op := Op.load 36 (Operand.tmp 117), type := 36, pos := "law.go:146", after := #[{ on := 4, ground := Ground.data }], guard := none }) (v := ?_) rfl (by kernel_rfl) (by kernel_rfl) (by kernel_rfl) (fun _ _ _ h => h) (Or.inl ⟨by rfl, ?_⟩) (by assumption) ?_
                  rotate_left
                  · intro w hSw
                    go_simp
                    try with_reducible rfl
                  try simp only [Act.put, List.setIfInBounds_toArray, List.set_cons_zero, List.set_cons_succ]
                  refine wpAnyH_take (i := 6) (oi := { dst := some 119, op := Op.fieldAddr 38 (Operand.tmp 9) 3, type := 0, pos := "law.go:146", after := #[], guard := none }) (v := ?_) rfl (by kernel_rfl) (by kernel_rfl) (by kernel_rfl) (fun _ _ _ h => h) (Or.inl ⟨by rfl, ?_⟩) (by assumption) ?_
                  rotate_left
                  · intro w hSw
                    go_simp
                    try with_reducible rfl
                  try simp only [Act.put, List.setIfInBounds_toArray, List.set_cons_zero, List.set_cons_succ]
                  refine wpAnyH_take (i := 7) (oi := { dst := some 120, op := Op.load 36 (Operand.tmp 119), type := 36, pos := "law.go:146", after := #[{ on := 6, ground := Ground.data }], guard := none }) (v := ?_) rfl (by kernel_rfl) (by kernel_rfl) (by kernel_rfl) (fun _ _ _ h => h) (Or.inl ⟨by rfl, ?_⟩) (by assumption) ?_
                  rotate_left
                  · intro w hSw
                    go_simp
                    try with_reducible rfl
                  try simp only [Act.put, List.setIfInBounds_toArray, List.set_cons_zero, List.set_cons_succ]
                  refine wpAnyH_take (i := 8) (oi := { dst := some 121, op := Op.call { callee := Callee.builtin Builtin.min, args := #[Operand.tmp 118, Operand.tmp 120], argTypes := #[36, 36] }, type := 36, pos := "law.go:146", after := #[{ on := 5, ground := Ground.data }, { on := 7, ground := Ground.data }], guard := none }) (v := ?_) rfl (by kernel_rfl) (by kernel_rfl) (by kernel_rfl) (fun _ _ _ h => h) (Or.inl ⟨by rfl, ?_⟩) (by assumption) ?_
                  rotate_left
                  · intro w hSw
                    go_simp
                    try with_reducible rfl
                  try simp only [Act.put, List.setIfInBounds_toArray, List.set_cons_zero, List.set_cons_succ]
                  refine wpAnyH_ready (rs := [3]) (by kernel_rfl) (by simp) ?_
                  refine AllReadyH.cons (o := { dst := some 116, op := Op.call { callee := Callee.value (Operand.func 31), args := #[Operand.tmp 113, Operand.tmp 115], argTypes := #[47, 36] }, type := 36, pos := "law.go:146", after := #[{ on := 0, ground := Ground.data }, { on := 2, ground := Ground.data }], guard := none }) rfl (fun K hK => ?_) AllReadyH.nil
                  go_simp
                  go_at_call 31
                  with_reducible refine (unhide HC1).mono ?_
                  rintro e w7 ⟨rfl, hR7, hf7⟩
                  have HR7 := hide hR7
                  have HFR7 := hide hf7
                  clear hR7 hf7
                  go_wp2_with fail
                  refine hK.out _ _ ?_ (fun hHeld => ?_)
                  · exact held_fr (by assumption) (unhide HFR7) (by have := unhide HGR; omega) (by have e1 := World.size_alloc wr (.cells #[.int .i64 2, .int .i64 x, .int .u64 v, .int .u64 s, .slice qa xs.length qc] 38); exact Nat.lt_of_lt_of_eq (Nat.lt_succ_self _) e1.symm)
                  clear hK K
                  try simp only [Act.put, List.setIfInBounds_toArray, List.set_cons_zero, List.set_cons_succ]
                  refine wpAnyH_take (i := 9) (oi := { dst := some 122, op := Op.binOp BinOp.eql 36 (Operand.tmp 116) (Operand.tmp 121) 36, type := 4, pos := "law.go:146", after := #[{ on := 3, ground := Ground.data }, { on := 8, ground := Ground.data }], guard := none }) (v := ?_) rfl (by kernel_rfl) (by kernel_rfl) (by kernel_rfl) (fun _ _ _ h => h) (Or.inl ⟨by rfl, ?_⟩) (by assumption) ?_
                  rotate_left
                  · intro w hSw
                    go_simp
                    try with_reducible rfl
                  try simp only [Act.put, List.setIfInBounds_toArray, List.set_cons_zero, List.set_cons_succ]
                  refine wpAnyH_take (i := 10) (oi := { dst := some 10, op := Op.assign (Operand.tmp 122), type := 4, pos := "law.go:146", after := #[{ on := 9, ground := Ground.data }, { on := 3, ground := Ground.chain }, { on := 0, ground := Ground.phase }, { on := 1, ground := Ground.phase }, { on := 2, ground := Ground.phase }, { on := 3, ground := Ground.phase }, { on := 4, ground := Ground.phase }, { on := 5, ground := Ground.phase }, { on := 6, ground := Ground.phase }, { on := 7, ground := Ground.phase }, { on := 8, ground := Ground.phase }, { on := 9, ground := Ground.phase }], guard := none }) (v := ?_) rfl (by kernel_rfl) (by kernel_rfl) (by kernel_rfl) (fun _ _ _ h => h) (Or.inl ⟨by rfl, ?_⟩) (by assumption) ?_
                  rotate_left
                  · intro w hSw
                    go_simp
                    try with_reducible rfl
                  try simp only [Act.put, List.setIfInBounds_toArray, List.set_cons_zero, List.set_cons_succ]
                  refine wpAnyH_done (by kernel_rfl) ?_ _
                  have HKF := hide (k_any (unhide HKP).drew (unhide HFR7) (unhide HGR))
                  have hszf : gr < w7.heap.size := Nat.lt_of_lt_of_le (unhide HSZ) (unhide HFR7).2.2.2.1
                  have HSZF := hide hszf
                  clear hHeld hszf
                  go_wp2
                  exact ⟨⟨j + 1, by omega, by go_num, unhide HKF, unhide HSZF, unhide HR7⟩, by simp [intOf]; omega⟩
              · have e2 : (kind == 2) = false := beq_eq_false_iff_ne.2 h2
                by_cases h3 : kind = 3
                · subst h3
                  obtain ⟨b1, b2⟩ := unhide HSL j _ (unhide HQ) hF1 rfl
                  simp only at b1 b2
                  rw [b1] at HSK hnext
                  have hc1 := wrSmall_any (unhide HR) (unhide HY8) (by omega) hcl (by have := unhide HYN; omega)
                  unfold slV slA slF at hc1
                  rw [b2, if_pos ⟨rfl, rfl⟩, if_pos ⟨rfl, rfl⟩, if_pos rfl, ← unhide HSK] at hc1
                  have HC1 := hide hc1
                  have hsr := smM_range x
                  have hu0 : 0 ≤ IntKind.u64.wrap x := by rw [IntKind.wrap_u64]; omega
                  have hsv : (IntKind.u64.wrap x).tmod 10001 = smM x := by rw [Int.tmod_eq_emod_of_nonneg hu0, IntKind.wrap_u64]; rfl
                  have hsv2 : IntKind.u64.wrap x % 10001 = smM x := by rw [IntKind.wrap_u64]; rfl
                  have hsw : wrap64 (smM x) = smM x := by simp only [wrap64]; omega
                  have hsw1 : IntKind.i64.wrap (smM x) = smM x := by rw [IntKind.wrap_i64]; omega
                  have hsw2 : IntKind.u64.wrap (smM x) = smM x := by rw [IntKind.wrap_u64]; omega
                  clear b1 b2 hnext hc1 hmj h1 h2 e1 e2
                  generalize smM x = mx at *
                  go_wp2
                  refine wp_region_held_drew (S := fun w' => (∀ i, w'.cell? ⟨wr.heap.size, i, none⟩ = (#[.int .i64 3, .int .i64 x, .int .u64 v, .int .u64 s, .slice qa xs.length qc] : Array Value)[i]?) ∧ True) (by kernel_rfl) ?_ (fun hHeld => ?_)
                  · exact ⟨(unhide HOB).drew.cell, trivial⟩
                  refine wpAnyH_take (i := 0) (oi := { dst := some 125, op := Op.move (Operand.tmp 7), type := 47, pos := "law.go:148", after := #[], guard := none }) (v := ?_) rfl (by kernel_rfl) (by kernel_rfl) (by kernel_rfl) (fun _ _ _ h => h) (Or.inl ⟨by rfl, ?_⟩) (by assumption) ?_
                  rotate_left
                  · intro w hSw
                    go_simp
                    try with_reducible rfl
                  try simp only [Act.put, List.setIfInBounds_toArray, List.set_cons_zero, List.set_cons_succ]
                  refine wpAnyH_take (i := 2) (oi := { dst := some 127, op := Op.fieldAddr 38 (Operand.tmp 9) 1, type := 0, pos := "law.go:148", after := #[], guard := none }) (v := ?_) rfl (by kernel_rfl) (by kernel_rfl) (by kernel_rfl) (fun _ _ _ h => h) (Or.inl ⟨by rfl, ?_⟩) (by assumption) ?_
                  rotate_left
                  · intro w hSw
                    go_simp
                    try with_reducible rfl
                  try simp only [Act.put, List.setIfInBounds_toArray, List.set_cons_zero, List.set_cons_succ]
                  refine wpAnyH_take (i := 3) (oi := { dst := some 128, op := Op.load 3 (Operand.tmp 127), type := 3, pos := "law.go:148", after := #[{ on := 2, ground := Ground.data }], guard := none }) (v := ?_) rfl (by kernel_rfl) (by kernel_rfl) (by kernel_rfl) (fun _ _ _ h => h) (Or.inl ⟨by rfl, ?_⟩) (by assumption) ?_
                  rotate_left
                  · intro w hSw
                    go_simp
                    try with_reducible rfl
                  try simp only [Act.put, List.setIfInBounds_toArray, List.set_cons_zero, List.set_cons_succ]
                  refine wpAnyH_take (i := 4) (oi := { dst := some 129, op := Op.convert 3 62 (Operand.tmp 128), type := 62, pos := "law.go:148", after := #[{ on := 3, ground := Ground.data }], guard := none }) (v := ?_) rfl (by kernel_rfl) (by kernel_rfl) (by kernel_rfl) (fun _ _ _ h => h) (Or.inl ⟨by rfl, ?_⟩) (by assumption) ?_
                  rotate_left
                  · intro w hSw
                    go_simp
                    try with_reducible rfl
                  try simp only [Act.put, List.setIfInBounds_toArray, List.set_cons_zero, List.set_cons_succ]
                  refine wpAnyH_take (i := 5) (oi := { dst := some 130, op := Op.binOp BinOp.rem 62 (Operand.tmp 129) (Operand.const (Value.int IntKind.u64 10001)) 62, type := 62, pos := "law.go:148", after := #[{ on := 4, ground := Ground.data }], guard := none }) (v := ?_) rfl (by kernel_rfl) (by kernel_rfl) (by kernel_rfl) (fun _ _ _ h => h) (Or.inl ⟨by rfl, ?_⟩) (by assumption) ?_
                  rotate_left
                  · intro w hSw
                    go_simp
                    try with_reducible rfl
                  try simp only [Act.put, List.setIfInBounds_toArray, List.set_cons_zero, List.set_cons_succ]
                  refine wpAnyH_take (i := 6) (oi := { dst := some 131, op := Op.convert 62 3 (Operand.tmp 130), type := 3, pos := "law.go:148", after := #[{ on := 5, ground := Ground.data }], guard := none }) (v := ?_) rfl (by kernel_rfl) (by kernel_rfl) (by kernel_rfl) (fun _ _ _ h => h) (Or.inl ⟨by rfl, ?_⟩) (by assumption) ?_
                  rotate_left
                  · intro w hSw
                    go_simp
                    try with_reducible rfl
                  try simp only [Act.put, List.setIfInBounds_toArray, List.set_cons_zero, List.set_cons_succ]
                  refine wpAnyH_ready (rs := [1]) (by kernel_rfl) (by simp) ?_
                  refine AllReadyH.cons (o := { dst := some 126, op := Op.call { callee := Callee.value (Operand.func 33), args := #[Operand.tmp 125], argTypes := #[47] }, type := 3, pos := "law.go:148", after := #[{ on := 0, ground := Ground.data }], guard := none }) rfl (fun K hK => ?_) AllReadyH.nil
                  go_simp
                  go_at_call 33
                  with_reducible refine (unhide HC1).mono ?_
                  rintro e w7 ⟨rfl, hR7, hf7⟩
                  have HR7 := hide hR7
                  have HFR7 := hide hf7
                  clear hR7 hf7
                  go_wp2_with fail
                  refine hK.out _ _ ?_ (fun hHeld => ?_)
                  · exact held_fr (by assumption) (unhide HFR7) (by have := unhide HGR; omega) (by have e1 := World.size_alloc wr (.cells #[.int .i64 3, .int .i64 x, .int .u64 v, .int .u64 s, .slice qa xs.length qc] 38); exact Nat.lt_of_lt_of_eq (Nat.lt_succ_self _) e1.symm)
                  clear hK K
                  try simp only [Act.put, List.setIfInBounds_toArray, List.set_cons_zero, List.set_cons_succ]
                  refine wpAnyH_take (i := 7) (oi := { dst := some 132, op := Op.binOp BinOp.eql 3 (Operand.tmp 126) (Operand.tmp 131) 3, type := 4, pos := "law.go:148", after := #[{ on := 1, ground := Ground.data }, { on := 6, ground := Ground.data }], guard := none }) (v := ?_) rfl (by kernel_rfl) (by kernel_rfl) (by kernel_rfl) (fun _ _ _ h => h) (Or.inl ⟨by rfl, ?_⟩) (by assumption) ?_
                  rotate_left
                  · intro w hSw
                    go_simp
                    try with_reducible rfl
                  try simp only [Act.put, List.setIfInBounds_toArray, List.set_cons_zero, List.set_cons_succ]
                  refine wpAnyH_take (i := 8) (oi := { dst := some 10, op := Op.assign (Operand.tmp 132), type := 4, pos := "law.go:148", after := #[{ on := 7, ground := Ground.data }, { on := 1, ground := Ground.chain }, { on := 0, ground := Ground.phase }, { on := 1, ground := Ground.phase }, { on := 2, ground := Ground.phase }, { on := 3, ground := Ground.phase }, { on := 4, ground := Ground.phase }, { on := 5, ground := Ground.phase }, { on := 6, ground := Ground.phase }, { on := 7, ground := Ground.phase }], guard := none }) (v := ?_) rfl (by kernel_rfl) (by kernel_rfl) (by kernel_rfl) (fun _ _ _ h => h) (Or.inl ⟨by rfl, ?_⟩) (by assumption) ?_
                  rotate_left
                  · intro w hSw
                    go_simp
                    try with_reducible rfl
                  try simp only [Act.put, List.setIfInBounds_toArray, List.set_cons_zero, List.set_cons_succ]
                  refine wpAnyH_done (by kernel_rfl) ?_ _
                  have HKF := hide (k_any (unhide HKP).drew (unhide HFR7) (unhide HGR))
                  have hszf : gr < w7.heap.size := Nat.lt_of_lt_of_le (unhide HSZ) (unhide HFR7).2.2.2.1
                  have HSZF := hide hszf
                  clear hHeld hszf
                  go_wp2
                  exact ⟨⟨j + 1, by omega, by go_num, unhide HKF, unhide HSZF, unhide HR7⟩, by simp [intOf]; omega⟩
                · have e3 : (kind == 3) = false := beq_eq_false_iff_ne.2 h3
                  obtain ⟨b1, b2⟩ := unhide HBI j _ (unhide HQ) hF1 h1 h2 h3
                  simp only at b1 b2
                  rw [b1] at HSK hnext
                  obtain ⟨hcl1, hcl2, hcl3⟩ := wN_eq x
                  have d1 : rdVal ys (stK L j) 0 (wN x) = v % 2 ^ wN x := (if_pos ⟨rfl, by have := unhide HYN; omega⟩).trans b2
                  have d2 : rdAt (8 * ys.length) (stK L j) 0 (wN x) = stK L j + wN x := by unfold rdAt; rw [if_pos ⟨rfl, by have := unhide HYN; omega⟩]
                  have d3 : rdF (8 * ys.length) (stK L j) 0 (wN x) = 0 := by unfold rdF; rw [if_pos rfl, if_pos (by have := unhide HYN; omega)]
                  have HC1 := hide (wrBits_any x (wN x) hcl1 (unhide HR0) (unhide HY8) (by omega) (by have := unhide HYN; omega))
                  rw [d1, d2, d3, ← unhide HSK] at HC1
                  have HPC := hide (fun h : wN x < 64 => piece64 v (wN x) hv0 hv1 h)
                  have HPW := hide (pow63 (wN x))
                  have hp0 := two_pos (wN x)
                  have hr0 := Int.emod_nonneg v (Int.ne_of_gt hp0)
                  have hr1 := Int.emod_lt_of_pos v hp0
                  have hvm : v % 18446744073709551616 = v := by omega
                  clear b1 b2 d1 d2 d3 hnext hql hcl2 hmj h1 h2 h3
                  by_cases hx : 0 < x
                  · by_cases hx3 : x < 64
                    · obtain ⟨kb, rfl⟩ : ∃ K : Nat, x = (K : Int) := ⟨x.toNat, by omega⟩
                      have hKe : wN (kb : Int) = kb := by omega
                      rw [hKe] at HC1 HPC HPW hp0 hr0 hr1
                      have hand := unhide HPC (by omega)
                      have hpw := unhide HPW (by omega)
                      clear hKe HPC HPW
                      have hmm : max 0 (min (kb : Int) 64) = kb := by omega
                      have m1 : IntKind.u64.wrap (kb : Int) = kb := by rw [IntKind.wrap_u64]; omega
                      have m3 : IntKind.u64.wrap ((2 : Int) ^ kb) = 2 ^ kb := by rw [IntKind.wrap_u64]; omega
                      have m4 : IntKind.u64.wrap ((2 : Int) ^ kb - 1) = 2 ^ kb - 1 := by rw [IntKind.wrap_u64]; omega
                      generalize v % 2 ^ kb = rv at *
                      go_wp2_with fail
                      all_goals first
                        | (exfalso; omega)
                        | skip
                      with_reducible refine (unhide HC1).mono ?_
                      rintro e w7 ⟨rfl, hR7, hf7⟩
                      have HR7 := hide hR7
                      have HKF := hide (k_any (unhide HKP) hf7 (unhide HGR))
                      have hszf : gr < w7.heap.size := Nat.lt_of_lt_of_le (unhide HSZ) hf7.2.2.2.1
                      have HSZF := hide hszf
                      clear hR7 hf7 hszf
                      go_wp2
                      exact ⟨⟨j + 1, by omega, by go_num, unhide HKF, unhide HSZF, unhide HR7⟩, by simp [intOf]; omega⟩
                    · have hKe : wN x = 64 := by omega
                      rw [hKe, show (2 : Int) ^ 64 = 18446744073709551616 from by decide, hvm] at HC1
                      have hmm : max 0 (min x 64) = 64 := by omega
                      clear hKe HPC HPW hp0 hr0 hr1
                      go_wp2_with fail
                      all_goals first
                        | (exfalso; omega)
                        | skip
                      with_reducible refine (unhide HC1).mono ?_
                      rintro e w7 ⟨rfl, hR7, hf7⟩
                      have HR7 := hide hR7
                      have HKF := hide (k_any (unhide HKP) hf7 (unhide HGR))
                      have hszf : gr < w7.heap.size := Nat.lt_of_lt_of_le (unhide HSZ) hf7.2.2.2.1
                      have HSZF := hide hszf
                      clear hR7 hf7 hszf
                      go_wp2
                      exact ⟨⟨j + 1, by omega, by go_num, unhide HKF, unhide HSZF, unhide HR7⟩, by simp [intOf]; omega⟩
                  · have hKe : wN x = 0 := by omega
                    rw [hKe, show (2 : Int) ^ 0 = 1 from by decide, show v % 1 = 0 from by omega] at HC1
                    have hand : bits .and .u64 v 0 = 0 := by
                      have := unhide HPC (by omega)
                      rw [hKe, show (2 : Int) ^ 0 - 1 = 0 from by decide, show (2 : Int) ^ 0 = 1 from by decide, show v % 1 = 0 from by omega] at this
                      exact this
                    clear hKe HPC HPW hp0 hr0 hr1
                    have m1 : IntKind.u64.wrap 0 = 0 := by decide
                    have m2 : IntKind.u64.wrap 1 = 1 := by decide
                    by_cases hx0 : x = 0
                    · subst hx0
                      have hmm : max 0 (min (0 : Int) 64) = 0 := by omega
                      go_wp2_with fail
                      with_reducible refine (unhide HC1).mono ?_
                      rintro e w7 ⟨rfl, hR7, hf7⟩
                      have HR7 := hide hR7
                      have HKF := hide (k_any (unhide HKP) hf7 (unhide HGR))
                      have hszf : gr < w7.heap.size := Nat.lt_of_lt_of_le (unhide HSZ) hf7.2.2.2.1
                      have HSZF := hide hszf
                      clear hR7 hf7 hszf
                      go_wp2
                      exact ⟨⟨j + 1, by omega, by go_num, unhide HKF, unhide HSZF, unhide HR7⟩, by simp [intOf]; omega⟩
                    · have hxn : x < 0 := by omega
                      have hmm : max 0 (min x 64) = 0 := by omega
                      clear hx hx0
                      go_wp2_with fail
                      all_goals first
                        | (exfalso; omega)
                        | skip
                      with_reducible refine (unhide HC1).mono ?_
                      rintro e w7 ⟨rfl, hR7, hf7⟩
                      have HR7 := hide hR7
                      have HKF := hide (k_any (unhide HKP) hf7 (unhide HGR))
                      have hszf : gr < w7.heap.size := Nat.lt_of_lt_of_le (unhide HSZ) hf7.2.2.2.1
                      have HSZF := hide hszf
                      clear hR7 hf7 hszf
                      go_wp2
                      exact ⟨⟨j + 1, by omega, by go_num, unhide HKF, unhide HSZF, unhide HR7⟩, by simp [intOf]; omega⟩
          · obtain rfl : j = F := by omega
            have HKP := hide hkp
            have HCE := hide (wrErr_any hR)
            have HCD := hide (wrEnd_any hR (unhide HY8) (by omega) (unhide HYN))
            rw [unhide HENDV] at HCD
            clear hkp hR
            go_wp2_with fail
            with_reducible refine (unhide HCE).mono ?_
            rintro e w7 ⟨rfl, hw7⟩
            rw [hw7]
            clear hw7
            go_wp2_with fail
            with_reducible refine (unhide HCD).mono ?_
            rintro e w8 ⟨rfl, hk8⟩
            have HK8 := hide hk8
            clear hk8
            go_wp2
            go_ret
            exact ⟨rfl, ((unhide HKP3).trans (unhide HKP)).trans (unhide HK8)⟩
end Go.Proofs.Ytnbcehoddjcnoaa
