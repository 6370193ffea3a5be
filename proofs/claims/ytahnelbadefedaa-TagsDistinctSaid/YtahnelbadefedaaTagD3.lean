/- The contracts of In at tags, and of the reference's Distinct. -/
import Derived.Test.YtahnelbadefedaaTagD2
namespace Go.Proofs.Ytahnelbadefedaa
open Go.ChangeShapes Go.WideShapes Go.ChangeAt Go.RowKit Go.Maps

set_option maxRecDepth 100000 in
set_option maxHeartbeats 2000000 in
theorem in_any (A : Option Addr) (ts : List (Int × Int)) (n c : Nat) (t : Int × Int) (hn : ts.length = n) (w : World) (hh : HoldsT w A ts) (hl : n ≤ 1000000) :
    Calls Try.prog 12 #[.slice A n c, tagVal t] w fun e w' => e = .returned (.bool (decide (t ∈ ts))) ∧ Keeps w w' := by
  obtain ⟨t1, t2⟩ := t
  have HN := hide hn
  have HH := hide hh
  have hb0 := Blk.new w 23 #[.int .i64 t1, .int .i64 t2]
  have hx1 : (w.alloc (.cells #[.int .i64 t1, .int .i64 t2] 23)).cell? ⟨w.heap.size, 0, none⟩ = some (.int .i64 t1) := hb0.cell 0
  have hx2 : (w.alloc (.cells #[.int .i64 t1, .int .i64 t2] 23)).cell? ⟨w.heap.size, 1, none⟩ = some (.int .i64 t2) := hb0.cell 1
  have HK0 := hide ((Keeps.refl w).alloc (.cells #[.int .i64 t1, .int .i64 t2] 23))
  clear hn hh hb0
  go_enter Try.func12, Try.ntmps12
  go_wp2
  generalize hW : w.alloc (.cells #[.int .i64 t1, .int .i64 t2] 23) = W0 at *
  have HHW := hide ((unhide HH).keeps (unhide HK0))
  clear hW
  go_loopw [5] (fun i wr => ∃ k : Nat, k ≤ n ∧ i = .int .i64 k ∧ ¬ (t1, t2) ∈ ts.take k ∧ wr.heap = W0.heap ∧ Keeps W0 wr) (fun i _ => n - (intOf i).toNat)
  case atStart => exact ⟨0, by omega, rfl, by simp, rfl, Keeps.refl _⟩
  case round =>
    obtain ⟨k, hk, rfl, hno, hheap, hkw⟩ := hrel
    have HNO := hide hno
    by_cases hlt : k < n
    · have hkt : k < ts.length := by rw [unhide HN]; exact hlt
      obtain ⟨b, o, rfl, hc1, hc2, hb⟩ := ((unhide HHW).keeps hkw).at_ hkt
      have hy1 : wr.cell? ⟨w.heap.size, 0, none⟩ = some (.int .i64 t1) := (World.cell?_of_block (a := ⟨w.heap.size, 0, none⟩) (by rw [hheap])).trans hx1
      have hy2 : wr.cell? ⟨w.heap.size, 1, none⟩ = some (.int .i64 t2) := (World.cell?_of_block (a := ⟨w.heap.size, 1, none⟩) (by rw [hheap])).trans hx2
      have htk : ts.take (k + 1) = ts.take k ++ [ts.getD k (0, 0)] := by rw [List.take_succ_eq_append_getElem hkt]; simp [hkt]
      have hmem : ts.getD k (0, 0) ∈ ts := by rw [show ts.getD k (0, 0) = ts[k] from by simp [hkt]]; exact List.getElem_mem _
      have HTK := hide htk
      have HMEM := hide hmem
      have HHE := hide hheap
      have HKW := hide hkw
      clear htk hmem hno hheap hkw hkt hx1 hx2
      generalize ts.getD k (0, 0) = u at *
      obtain ⟨u1, u2⟩ := u
      by_cases g1 : u1 = t1
      · subst g1
        by_cases g2 : u2 = t2
        · subst g2
          go_wp2
          go_region
          go_wp2
          go_ret
          exact ⟨ret_bool (decide_eq_true (unhide HMEM)).symm, ((unhide HK0).trans (unhide HKW)).drew⟩
        · have x2 : (u2 == t2) = false := beq_eq_false_iff_ne.2 g2
          have HG2 := hide g2
          clear g2
          go_wp2
          go_region
          go_wp2
          refine ⟨⟨k + 1, by omega, by go_num, ?_, unhide HHE, (unhide HKW).drew⟩, by simp [intOf]; omega⟩
          rw [unhide HTK, List.mem_append]
          intro h
          rcases h with h | h
          · exact unhide HNO h
          · simp at h; exact unhide HG2 h.symm
      · have x1 : (u1 == t1) = false := beq_eq_false_iff_ne.2 g1
        have HG1 := hide g1
        clear g1
        go_wp2
        go_region
        go_wp2
        refine ⟨⟨k + 1, by omega, by go_num, ?_, unhide HHE, (unhide HKW).drew⟩, by simp [intOf]; omega⟩
        rw [unhide HTK, List.mem_append]
        intro h
        rcases h with h | h
        · exact unhide HNO h
        · simp at h; exact unhide HG1 h.1.symm
    · obtain rfl : k = n := by omega
      have HKW := hide hkw
      clear hkw hheap hno
      go_wp2
      go_ret
      have := unhide HNO
      rw [List.take_of_length_le (by rw [unhide HN]; exact Nat.le_refl _)] at this
      exact ⟨ret_bool (decide_eq_false this).symm, (unhide HK0).trans (unhide HKW)⟩

theorem own_keeps2 {w w' : World} {base : Nat} {e : TypeId} {size : Nat} {v : Value} {n : Nat} {xs : List Value} (h : w.ownsRow base e size v n xs) (hk : Keeps w w') : w'.ownsRow base e size v n xs := by
  refine ⟨h.1, ?_⟩
  have hl := h.lt
  rcases h.2 with hn | ⟨g, cap, cur, rfl, hbb, hgg, rest⟩
  · exact .inl hn
  · exact .inr ⟨g, cap, cur, rfl, hbb, (hk.block g (hl g rfl).2).trans hgg, rest⟩
theorem one_tag (w : World) (a b : Int) : Reads (w.alloc (.cells #[.int .i64 a, .int .i64 b] 23)) (w.alloc (.cells #[.int .i64 a, .int .i64 b] 23)).heap.size 2 (some ⟨w.heap.size, 0, none⟩) 1 (TagL [(a, b)]) := by
  refine ⟨by simp [TagL, tagCells], fun _ => ⟨_, rfl, by simp, fun j u hu => ?_⟩⟩
  have hb := Blk.new w 23 #[.int .i64 a, .int .i64 b]
  rw [show (⟨w.heap.size, 0, none⟩ : Addr).add j = ⟨w.heap.size, j, none⟩ from by unfold Addr.add; split <;> simp_all, hb.cell]
  simpa [TagL, tagCells] using hu
def RdRel (w : World) (acc : List (Int × Int)) (v : Value) (wr : World) : Prop := wr.ownsRow w.heap.size 23 2 v acc.length (TagL acc) ∧ Keeps w wr ∧ acc.Nodup
theorem nodup_snoc (l : List (Int × Int)) (t : Int × Int) : (l ++ [t]).Nodup ↔ l.Nodup ∧ ¬ t ∈ l := by
  rw [List.nodup_append]
  constructor
  · intro h; exact ⟨h.1, fun hm => h.2.2 t hm t (by simp) rfl⟩
  · intro h
    refine ⟨h.1, by simp, fun a ha b hb e => ?_⟩
    simp at hb
    rw [hb] at e
    exact h.2 (e ▸ ha)
theorem flatT_drop (ps : List PartT) (k : Nat) (q : PartT) (h : ps[k]? = some q) (l : Nat) : flatT ps = (flatT (ps.take k) ++ q.2.2.take l) ++ (q.2.2.drop l ++ flatT (ps.drop (k + 1))) := by
  have e : flatT ps = flatT (ps.take (k + 1)) ++ flatT (ps.drop (k + 1)) := by
    unfold flatT; rw [← List.flatMap_append, List.take_append_drop]
  rw [e, flatT_take ps k q h, List.append_assoc, List.append_assoc, ← List.append_assoc (q.2.2.take l), List.take_append_drop]
set_option maxRecDepth 100000 in
set_option maxHeartbeats 4000000 in
theorem refDistinct_any (P : Option Addr) (ps : List PartT) (np c : Nat) (w : World) (hnp : ps.length = np) (hp : PartsT w P ps) (hl0 : np ≤ 1000000) (hl1 : (flatT ps).length ≤ 1000000) :
    Calls Try.prog 11 #[.slice P np c] w fun e w' => e = .returned (.bool (decide (flatT ps).Nodup)) ∧ Keeps w w' := by
  obtain ⟨i0, hi0, hz0, hz1, hz2⟩ := info_parts tag_info
  have HP := hide hp
  have HNP := hide hnp
  have HI := hide (show RdRel w [] (.slice none 0 0) w from ⟨World.ownsRow_nil _ _ _ _, Keeps.refl _, List.nodup_nil⟩)
  clear hp hnp
  go_enter Try.func11, Try.ntmps11
  go_wp2
  go_loopw [3, 4] (fun v i wr => ∃ k : Nat, k ≤ np ∧ i = .int .i64 k ∧ RdRel w (flatT (ps.take k)) v wr) (fun _ i _ => np - (intOf i).toNat)
  case atStart => exact ⟨0, by omega, rfl, unhide HI⟩
  case round =>
    obtain ⟨k, hk, rfl, hR⟩ := hrel
    by_cases hlt : k < np
    · have hkp := hR.2.1
      obtain ⟨b, o, qa, qc, ts, rfl, hq, hc, hh, hr, hb⟩ := (unhide HP).at_ (k := k) (by rw [unhide HNP]; exact hlt)
      have hcw := hc
      replace hc := (Below.cell (p := ⟨b, _, none⟩) hkp hb).trans hc
      have hfl := flatT_le1 ps k _ hq
      have HFT := hide (flatT_take ps k _ hq)
      have HFD := hide (flatT_drop ps k _ hq)
      have HR := hide hR
      have HHT := hide hh
      have HCW := hide hcw
      have HB := hide hb
      simp only at hfl HFT HFD
      generalize flatT (ps.take k) = done at *
      have hlt1 : ts.length ≤ 1000000 := by omega
      have hld : done.length ≤ 1000000 := by omega
      clear hR hq hh hr hkp hcw
      go_wp2
      go_loopw [3, 5] (fun v j wr' => ∃ l : Nat, l ≤ ts.length ∧ j = .int .i64 l ∧ RdRel w (done ++ ts.take l) v wr') (fun _ j _ => ts.length - (intOf j).toNat)
      case atStart => exact ⟨0, by omega, rfl, by simpa using unhide HR⟩
      case round =>
        obtain ⟨l, hl, rfl, hR2⟩ := hrel
        have hkp2 := hR2.2.1
        have hc2 := (Below.cell (p := ⟨b, _, none⟩) hkp2 (unhide HB)).trans (unhide HCW)
        by_cases hlt2 : l < ts.length
        · obtain ⟨b3, o3, rfl, hd1, hd2, hb3⟩ := ((unhide HHT).keeps hkp2).at_ hlt2
          obtain ⟨A5, c5, rfl, hc5⟩ := own_form2 hR2.1
          have htk : ts.take (l + 1) = ts.take l ++ [ts.getD l (0, 0)] := by rw [List.take_succ_eq_append_getElem hlt2]; simp [hlt2]
          have hdr : ts.drop l = ts.getD l (0, 0) :: ts.drop (l + 1) := by rw [List.drop_eq_getElem_cons hlt2]; simp [hlt2]
          have hlen : (done ++ ts.take l).length = done.length + l := by rw [List.length_append, List.length_take]; omega
          have HTK := hide htk
          have HDR := hide hdr
          have HLEN := hide hlen
          have hholds := holdsT_of_own hR2.1
          generalize hln : (done ++ ts.take l).length = nn at *
          generalize htg : ts.getD l (0, 0) = t at *
          have HTG := hide htg
          have HLN := hide hln
          clear htg
          have HC1 := hide (in_any A5 (done ++ ts.take l) nn c5 t hln wr hholds (by omega))
          have HR2 := hide hR2
          have hnl : nn ≤ 2000000 := by omega
          clear hlen
          obtain ⟨t1, t2⟩ := t
          by_cases hm : (t1, t2) ∈ done ++ ts.take l
          · rw [decide_eq_true hm] at HC1
            have HF := hide (show decide (flatT ps).Nodup = false from decide_eq_false (fun h => by
              rw [unhide HFD l, List.nodup_append] at h
              rw [unhide HDR] at h
              exact h.2.2 _ hm _ (by simp) rfl))
            clear hR2 htk hdr hholds hm hln
            go_wp2_with fail
            with_reducible refine (unhide HC1).mono ?_
            rintro e w2 ⟨rfl, hk2⟩
            have HK2 := hide hk2
            clear hk2
            go_wp2
            go_ret
            exact ⟨ret_bool (unhide HF).symm, (unhide HR2).2.1.trans (unhide HK2)⟩
          · rw [decide_eq_false hm] at HC1
            have HM := hide hm
            clear hR2 htk hdr hholds hm hln
            go_wp2_with fail
            with_reducible refine (unhide HC1).mono ?_
            rintro e w2 ⟨rfl, hk2⟩
            have hkk := (unhide HR2).2.1.trans hk2
            have hcc := (Below.cell (p := ⟨b, _, none⟩) hkk (unhide HB)).trans (unhide HCW)
            obtain ⟨b4, o4, e4, hd3, hd4, _⟩ := ((unhide HHT).keeps hkk).at_ hlt2
            injection e4 with e4
            injection e4 with e5 e6 _
            subst e5; subst e6
            rw [unhide HTG] at hd3 hd4
            have hown := own_keeps2 (unhide HR2).1 hk2
            rw [unhide HLN] at hown
            have HOWN2 := hide (hown.alloc (.cells #[.int .i64 t1, .int .i64 t2] 23))
            have HRD := hide (one_tag w2 t1 t2)
            have HK2 := hide (hkk.alloc (.cells #[.int .i64 t1, .int .i64 t2] 23))
            have HLT := hide (hown.alloc (.cells #[.int .i64 t1, .int .i64 t2] 23)).lt
            have hszk := hkk.size
            clear hown hkk hk2
            go_wp2_with (at_builtin; refine wpList_append_any _ rfl (.tmp 30) (.tmp 38) _ rfl w.heap.size 23 i0 _ 2 16 Try.underlying26 hi0 hz0 hz1 hz2 rfl (by omega) _ nn _ rfl (unhide HOWN2) _ _ 1 1 (TagL [(t1, t2)]) rfl (unhide HRD) (tagL_one _) (by simp only [maxLen]; omega) (by omega) (by rw [World.size_alloc]; omega) ?_; intro v' w5 hown5 hg5 _hat5; have HFIN := hide (show RdRel w (done ++ ts.take (l + 1)) v' w5 from by
              rw [unhide HTK, ← List.append_assoc]
              refine ⟨?_, (unhide HK2).grown hg5 (fun x e => (unhide HLT x e).1), (nodup_snoc _ _).2 ⟨(unhide HR2).2.2, unhide HM⟩⟩
              rw [List.length_append, unhide HLN, tagL_append]
              exact hown5); clear hown5 hg5 _hat5)
            exact ⟨⟨l + 1, by omega, by go_num, unhide HFIN⟩, by simp [intOf]; omega⟩
        · obtain rfl : l = ts.length := by omega
          have HR2 := hide hR2
          clear hR2
          go_wp2
          refine ⟨⟨k + 1, by omega, by go_num, ?_⟩, by simp [intOf]; omega⟩
          rw [unhide HFT]
          have := unhide HR2
          rwa [List.take_length] at this
    · obtain rfl : k = np := by omega
      have hall : ps.take k = ps := List.take_of_length_le (by rw [unhide HNP]; exact Nat.le_refl _)
      rw [hall] at hR
      have HF := hide (show decide (flatT ps).Nodup = true from decide_eq_true hR.2.2)
      have HKP := hide hR.2.1
      clear hR hall
      go_wp2
      go_ret
      exact ⟨ret_bool (unhide HF).symm, unhide HKP⟩
end Go.Proofs.Ytahnelbadefedaa
