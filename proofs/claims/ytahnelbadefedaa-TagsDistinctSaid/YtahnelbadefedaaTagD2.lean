/- The contracts of Distinct, In, and the reference's Distinct. -/
import Derived.Test.YtahnelbadefedaaTagD1
namespace Go.Proofs.Ytahnelbadefedaa
open Go.ChangeShapes Go.WideShapes Go.ChangeAt Go.RowKit Go.Maps

theorem HoldsT.at_ {w : World} {A : Option Addr} {ts : List (Int × Int)} (h : HoldsT w A ts) {k : Nat} (hk : k < ts.length) :
    ∃ b o, A = some ⟨b, o, none⟩ ∧ w.cell? ⟨b, o + k * 2, none⟩ = some (.int .i64 (ts.getD k (0, 0)).1) ∧ w.cell? ⟨b, o + k * 2 + 1, none⟩ = some (.int .i64 (ts.getD k (0, 0)).2) ∧ b < w.heap.size := by
  have hget : ∀ (us : List (Int × Int)) (k : Nat), k < us.length → (TagL us)[k * 2]? = some (.int .i64 (us.getD k (0, 0)).1) ∧ (TagL us)[k * 2 + 1]? = some (.int .i64 (us.getD k (0, 0)).2) := by
    intro us
    induction us with
    | nil => intro k hk; simp at hk
    | cons u us ih =>
      intro k hk
      cases k with
      | zero => simp [TagL, tagCells]
      | succ k =>
        have := ih k (by simpa using hk)
        rw [show (k + 1) * 2 = k * 2 + 1 + 1 from by omega]
        simpa [TagL, tagCells] using this
  obtain ⟨ad, e, hb, hc⟩ := h.2 (by omega)
  obtain ⟨b, o, spot⟩ := ad
  have h0 := hc 0 _ (by have := (hget ts 0 (by omega)).1; simpa using this)
  rw [show (⟨b, o, spot⟩ : Addr).add 0 = ⟨b, o, spot⟩ from by simp [Addr.add]] at h0
  have hs := World.cell?_spot h0
  simp only at hs
  subst hs
  have hadd : ∀ j, (⟨b, o, none⟩ : Addr).add j = ⟨b, o + j, none⟩ := by intro j; unfold Addr.add; split <;> simp_all
  obtain ⟨g1, g2⟩ := hget ts k hk
  refine ⟨b, o, e, ?_, ?_, hb⟩
  · rw [← hadd]; exact hc _ _ g1
  · rw [show o + k * 2 + 1 = o + (k * 2 + 1) from by omega, ← hadd]; exact hc _ _ g2

theorem holdsT_of_own {w : World} {base : Nat} {A : Option Addr} {c : Nat} {ts : List (Int × Int)} (h : w.ownsRow base 23 2 (.slice A ts.length c) ts.length (TagL ts)) : HoldsT w A ts := by
  rcases h.2 with ⟨e, hn⟩ | ⟨g, cap, cur, e, _, _, _, _⟩
  · injection e with e1 e2 e3
    have : ts = [] := List.eq_nil_of_length_eq_zero hn
    subst this
    exact HoldsT.empty _ _
  · exact Reads.of_own h

abbrev PartT := Option Addr × Nat × List (Int × Int)
def flatT (ps : List PartT) : List (Int × Int) := ps.flatMap (·.2.2)
def PartsT (w : World) (A : Option Addr) (ps : List PartT) : Prop := ps = [] ∨ ∃ b o, A = some ⟨b, o, none⟩ ∧ b < w.heap.size ∧ ∀ i q, ps[i]? = some q →
  w.cell? ⟨b, o + i, none⟩ = some (.slice q.1 q.2.2.length q.2.1) ∧ HoldsT w q.1 q.2.2 ∧ (∀ t ∈ q.2.2, InT t)
theorem PartsT.keeps {w w' : World} {A : Option Addr} {ps : List PartT} (h : PartsT w A ps) (hk : Keeps w w') : PartsT w' A ps := by
  rcases h with h | ⟨b, o, e, hb, hp⟩
  · exact .inl h
  · refine .inr ⟨b, o, e, Nat.lt_of_lt_of_le hb hk.size, fun i q hq => ?_⟩
    obtain ⟨h1, h2, h3⟩ := hp i q hq
    exact ⟨(Below.cell (p := ⟨b, _, none⟩) hk hb).trans h1, h2.keeps hk, h3⟩
theorem PartsT.at_ {w : World} {A : Option Addr} {ps : List PartT} (h : PartsT w A ps) {k : Nat} (hk : k < ps.length) :
    ∃ b o qa qc ts, A = some ⟨b, o, none⟩ ∧ ps[k]? = some (qa, qc, ts) ∧ w.cell? ⟨b, o + k, none⟩ = some (.slice qa ts.length qc) ∧ HoldsT w qa ts ∧ (∀ t ∈ ts, InT t) ∧ b < w.heap.size := by
  rcases h with rfl | ⟨b, o, e, hb, hp⟩
  · simp at hk
  · have hq := List.getElem?_eq_getElem hk
    generalize ps[k] = q at hq
    have h2 := hp k q hq
    obtain ⟨qa, qc, ts⟩ := q
    exact ⟨b, o, qa, qc, ts, e, hq, h2.1, h2.2.1, h2.2.2, hb⟩
theorem flatT_take (ps : List PartT) (k : Nat) (q : PartT) (h : ps[k]? = some q) : flatT (ps.take (k + 1)) = flatT (ps.take k) ++ q.2.2 := by
  rw [List.take_add_one, h]; simp [flatT]
theorem flatT_le1 (ps : List PartT) (k : Nat) (q : PartT) (h : ps[k]? = some q) : (flatT (ps.take k)).length + q.2.2.length ≤ (flatT ps).length := by
  have e : flatT ps = flatT (ps.take (k + 1)) ++ flatT (ps.drop (k + 1)) := by
    unfold flatT; rw [← List.flatMap_append, List.take_append_drop]
  rw [e, flatT_take ps k q h, List.length_append, List.length_append]; omega

theorem nodup_rev (l : List (Int × Int)) : l.reverse.Nodup ↔ l.Nodup := by
  unfold List.Nodup
  rw [List.pairwise_reverse]
  constructor
  · intro h; exact h.imp (fun h => Ne.symm h)
  · intro h; exact h.imp (fun h => Ne.symm h)
def DRel (w : World) (acc : List (Int × Int)) (wr : World) : Prop :=
  ∃ D, wr.ownsMap Try.prog 23 (plainElem (H := Unit) Try.prog 3) w.heap.size acc.length D ∧ MapD D acc.reverse ∧ Keeps w wr
set_option maxRecDepth 100000 in
set_option maxHeartbeats 4000000 in
theorem distinct_any (P : Option Addr) (ps : List PartT) (np c : Nat) (w : World) (hnp : ps.length = np) (hp : PartsT w P ps) (hl0 : np ≤ 1000000) (hl1 : (flatT ps).length ≤ 1000000) :
    Calls Try.prog 10 #[.slice P np c] w fun e w' => e = .returned (.bool (decide (flatT ps).Nodup)) ∧ Keeps w w' := by
  have HP := hide hp
  have HNP := hide hnp
  have HI := hide (show DRel w [] (w.alloc (.map #[] 0)) from ⟨.map [], World.ownsMap_made _ _ _ _, MapD.start, (Keeps.refl _).alloc _⟩)
  have hmm := @run_makeMap Try.prog
  clear hp hnp
  go_enter Try.func10, Try.ntmps10
  go_wp2
  clear hmm
  go_loopw [3, 12] (fun n i wr => ∃ k : Nat, k ≤ np ∧ i = .int .i64 k ∧ n = .int .i64 (flatT (ps.take k)).length ∧ DRel w (flatT (ps.take k)) wr) (fun _ i _ => np - (intOf i).toNat)
  case atStart => exact ⟨0, by omega, rfl, rfl, unhide HI⟩
  case round =>
    obtain ⟨k, hk, rfl, rfl, hR⟩ := hrel
    by_cases hlt : k < np
    · obtain ⟨D0, hD0, hM0, hkp⟩ := hR
      obtain ⟨b, o, qa, qc, ts, rfl, hq, hc, hh, hr, hb⟩ := (unhide HP).at_ (k := k) (by rw [unhide HNP]; exact hlt)
      replace hc := (Below.cell (p := ⟨b, _, none⟩) hkp hb).trans hc
      have hfl := flatT_le1 ps k _ hq
      have HFT := hide (flatT_take ps k _ hq)
      have HR := hide (show DRel w (flatT (ps.take k)) wr from ⟨D0, hD0, hM0, hkp⟩)
      have HHT := hide (hh)
      have HRT := hide hr
      have HKP := hide hkp
      simp only at hfl HFT
      generalize flatT (ps.take k) = done at *
      have hlt1 : ts.length ≤ 1000000 := by omega
      have hld : done.length ≤ 1000000 := by omega
      clear hD0 hM0 hkp hq hh hr
      go_wp2
      go_loopw [3, 18] (fun n j wr' => ∃ l : Nat, l ≤ ts.length ∧ j = .int .i64 l ∧ n = .int .i64 (done.length + l : Nat) ∧ DRel w (done ++ ts.take l) wr') (fun _ j _ => ts.length - (intOf j).toNat)
      case atStart => exact ⟨0, by omega, rfl, rfl, by simpa using unhide HR⟩
      case round =>
        obtain ⟨l, hl, rfl, rfl, hR2⟩ := hrel
        by_cases hlt2 : l < ts.length
        · obtain ⟨D, hD, hM, hkp2⟩ := hR2
          obtain ⟨b3, o3, rfl, hc1, hc2, hb3⟩ := ((unhide HHT).keeps hkp2).at_ hlt2
          have htk : ts.take (l + 1) = ts.take l ++ [ts.getD l (0, 0)] := by rw [List.take_succ_eq_append_getElem hlt2]; simp [hlt2]
          have hin := unhide HRT (ts.getD l (0, 0)) (by rw [show ts.getD l (0, 0) = ts[l] from by simp [hlt2]]; exact List.getElem_mem _)
          have hlen : (done ++ ts.take l).length = done.length + l := by rw [List.length_append, List.length_take]; omega
          have HTK := hide htk
          have HLEN := hide hlen
          rw [hlen] at hD
          generalize ts.getD l (0, 0) = t at *
          obtain ⟨t1, t2⟩ := t
          have hD2 := hD.alloc (.cells #[.int .i64 t1, .int .i64 t2] 23)
          have HD2 := hide hD2
          have HM := hide (hM.put (t1, t2) hin)
          have HKEY := hide (tag_key (t1, t2) hin)
          have HK2 := hide (hkp2.alloc (.cells #[.int .i64 t1, .int .i64 t2] 23))
          have hszw : w.heap.size ≤ wr.heap.size := hkp2.size
          clear hD hM hkp2 hD2 htk hlen hin
          go_wp2_with (first | (at_mapUpdate; refine wpList_mapUpdate_own _ rfl (.tmp 22) (.tmp 23) (.tmp 24) 36 rfl 23 3 tagKeyed Try.underlying36 _ w.heap.size (done.length + l) _ rfl (unhide HD2) (by unfold maxLen; omega) _ _ _ rfl rfl (unhide HKEY) _ [] (plainElem_int Try.underlying3 (WalkArith.wf_i64 (by omega))) ?_; intro w5 hown5 hg5; have HOWN5 := hide hown5; have HG5 := hide hg5; clear hown5 hg5))
          refine ⟨⟨l + 1, by omega, by go_num, congrArg (Value.int IntKind.i64) (by omega), ?_⟩, by simp [intOf]; omega⟩
          rw [unhide HTK, ← List.append_assoc]
          have h5 := unhide HOWN5
          rw [show done.length + l + 1 = (done ++ ts.take l ++ [(t1, t2)]).length from by rw [List.length_append, unhide HLEN]; rfl] at h5
          exact ⟨_, h5, by rw [List.reverse_append]; exact unhide HM _, (unhide HK2).grown (unhide HG5) (fun x e => by injection e with e; omega)⟩
        · obtain rfl : l = ts.length := by omega
          have HR2 := hide hR2
          clear hR2
          go_wp2
          refine ⟨⟨k + 1, by omega, by go_num, ?_, ?_⟩, by simp [intOf]; omega⟩
          · rw [unhide HFT, List.length_append]
          · rw [unhide HFT]
            have := unhide HR2
            rwa [List.take_length] at this
    · obtain rfl : k = np := by omega
      obtain ⟨D, hD, hM, hkp⟩ := hR
      have hsz := hM.2.2
      have hnd := nd_iff (flatT (ps.take k)).reverse
      have hle := nd_le (flatT (ps.take k)).reverse
      rw [List.length_reverse] at hnd hle
      have hall : ps.take k = ps := List.take_of_length_le (by rw [unhide HNP]; exact Nat.le_refl _)
      rw [hall] at hD hsz hnd hle ⊢
      have HRES := hide (show ((Maps.size D : Int) == ((flatT ps).length : Int)) = decide (flatT ps).Nodup from by
        rw [hsz]
        by_cases h : (flatT ps).Nodup
        · rw [decide_eq_true h, hnd.2 ((nodup_rev _).2 h)]
          simp
        · rw [decide_eq_false h, beq_eq_false_iff_ne]
          intro e
          exact h ((nodup_rev _).1 (hnd.1 (by omega))))
      have HD := hide hD
      have HKP := hide hkp
      clear hD hM hkp hsz hnd hle hall
      go_wp2_with (first | (at_len; refine wpList_len_own _ rfl _ 36 rfl 23 3 Try.underlying36 _ w.heap.size _ _ rfl (unhide HD) ?_))
      go_ret
      exact ⟨ret_bool (unhide HRES), unhide HKP⟩
end Go.Proofs.Ytahnelbadefedaa
