/- SyntaxSound, walked. -/
import Derived.Test.YtckcbgijddglpaaGreatDoorSynZ0
import Derived.Test.YtckcbgijddglpaaGreatDoorSynS2
namespace Go.Proofs.YtckcbgijddglpaaGreatDoor
open Go.ChangeShapes Go.WideShapes Go.ChangeAt Go.RowKit Go.PlainAid
set_option linter.unusedVariables false
set_option linter.unusedSimpArgs false
set_option linter.unnecessarySimpa false
theorem isEmpty_ne {s : ByteArray} (h : 0 < s.size) : s.toList.isEmpty = false := by
  rw [ByteArray.toList_eq]
  have : 0 < s.data.toList.length := by simpa using h
  cases hs : s.data.toList with
  | nil => rw [hs] at this; simp at this
  | cons a l => rfl
theorem isEmpty_eq {s : ByteArray} (h : s.size = 0) : s.toList.isEmpty = true := by
  rw [ByteArray.toList_eq]
  have : s.data.toList.length = 0 := by simpa using h
  rw [List.eq_nil_of_length_eq_zero this]; rfl
/-- What the law reads of a module. -/
theorem ModAt.lists {w0 w1 : World} {V : Nat} {md : ModV} (h : ModAt w0 w1 V md) : ∃ A2 c2 A3 c3 A4 c4, Blk w1 V 27 #[.string md.name, .int .i64 md.tagging, .slice A2 md.names.length c2, .slice A3 md.types.length c3, .slice A4 md.nodes.length c4] ∧
    (0 < md.names.length → ∃ R, A2 = some ⟨R, 0, none⟩ ∧ R < w1.heap.size ∧ ∀ k s, md.names[k]? = some s → w1.cell? ⟨R, k, none⟩ = some (.string s)) ∧
    (0 < md.types.length → ∃ R, A3 = some ⟨R, 0, none⟩ ∧ R < w1.heap.size ∧ ∀ k t, md.types[k]? = some t → w1.cell? ⟨R, k, none⟩ = some (.int .i64 (t : Nat))) ∧
    md.nodes.length ≤ 300 ∧ md.types.length = md.names.length ∧ md.names.length ≤ 40 := by
  obtain ⟨h1, A2, c2, A3, c3, A4, c4, hb, g, _, h2, h3, h4, h5⟩ := h
  refine ⟨A2, c2, A3, c3, A4, c4, hb, fun hp => ?_, fun hp => ?_, h5⟩
  · obtain ⟨R, c, e, _, hR⟩ := h2.form hp
    injection e with e1 e2 e3
    refine ⟨R, e1, hR, fun k s hk => ?_⟩
    have hkl := (List.getElem?_eq_some_iff.1 hk).1
    rw [e1] at h2
    rw [h2.cellAt _ (by simpa using hkl), strsC, List.getElem?_map, hk]; rfl
  · obtain ⟨R, c, e, _, hR⟩ := h3.form hp
    injection e with e1 e2 e3
    refine ⟨R, e1, hR, fun k t hk => ?_⟩
    have hkl := (List.getElem?_eq_some_iff.1 hk).1
    rw [e1] at h3
    rw [h3.cellAt _ (by simpa using hkl), intsC, List.getElem?_map, hk]; rfl
theorem fieldsC_get : ∀ (qs : List (FieldV × Value)) (k : Nat) (q : FieldV × Value), qs[k]? = some q → ∀ o, o < 11 → (fieldsC qs)[k * 11 + o]? = (fieldC q.1 q.2)[o]?
  | [], k, q, h, o, ho => by simp at h
  | p :: qs, 0, q, h, o, ho => by
    simp at h; subst h
    show ((fieldC p.1 p.2) ++ fieldsC qs)[0 * 11 + o]? = _
    rw [Nat.zero_mul, Nat.zero_add, List.getElem?_append_left (by show o < 11; exact ho)]
  | p :: qs, k + 1, q, h, o, ho => by
    simp at h
    have hl : (fieldC p.1 p.2).length = 11 := rfl
    show ((fieldC p.1 p.2) ++ fieldsC qs)[(k + 1) * 11 + o]? = _
    rw [List.getElem?_append_right (by rw [hl]; omega), hl, show (k + 1) * 11 + o - 11 = k * 11 + o by omega]
    exact fieldsC_get qs k q h o ho
theorem own_slice {w : World} {base : Nat} {e : TypeId} {size : Nat} {v : Value} {n : Nat} {xs : List Value} (h : w.ownsRow base e size v n xs) : ∃ A c, v = .slice A n c := by
  rcases h.2 with ⟨rfl, rfl⟩ | ⟨g, cap, cur, rfl, _⟩
  · exact ⟨none, 0, rfl⟩
  · exact ⟨_, _, rfl⟩
theorem FO.ge {N b R : Nat} {fs : List FieldV} (h : FO N b R fs) : ∀ (k : Nat) (f : FieldV), fs[k]? = some f → b + k < f.type := by
  intro k
  induction k with
  | zero => intro f hf; exact (h 0 f hf).1
  | succ k ih =>
    intro f hf
    obtain ⟨g, hg⟩ : ∃ g, fs[k]? = some g := ⟨_, List.getElem?_eq_getElem (by have := (List.getElem?_eq_some_iff.1 hf).1; omega)⟩
    have h1 := ih g hg
    have h2 := (h (k + 1) f hf).2.2.2.1 k g rfl hg
    omega
/-- A node, with its lists. -/
theorem ModAt.nodeF {w0 w1 : World} {V : Nat} {md : ModV} (h : ModAt w0 w1 V md) {k : Nat} {n : NodeV} (hk : md.nodes[k]? = some n) : ∃ A2 c2 A3 c3 R c Ai ci Af cf, Blk w1 V 27 #[.string md.name, .int .i64 md.tagging, .slice A2 md.names.length c2, .slice A3 md.types.length c3, .slice (some ⟨R, 0, none⟩) md.nodes.length c] ∧ R < w1.heap.size ∧ (∀ o u, o < 16 → (nodeC n (.slice Ai n.items.length ci) (.slice Af n.fields.length cf))[o]? = some u → w1.cell? ⟨R, k * 16 + o, none⟩ = some u) ∧
    (0 < n.fields.length → ∃ F, Af = some ⟨F, 0, none⟩ ∧ F < w1.heap.size ∧ ∀ j f, n.fields[j]? = some f → ∃ Ab cb, ∀ o u, o < 11 → (fieldC f (.slice Ab f.dflt.b.length cb))[o]? = some u → w1.cell? ⟨F, j * 11 + o, none⟩ = some u) := by
  obtain ⟨h1, A2, c2, A3, c3, A4, c4, h2, g, _, _, _, ⟨qs, hq, hrow, hqs⟩, _⟩ := h
  have hkl : k < md.nodes.length := (List.getElem?_eq_some_iff.1 hk).1
  obtain ⟨R, c, e, _, hR⟩ := hrow.form (by omega)
  rw [e] at h2 hrow
  have hql : qs.length = md.nodes.length := by rw [← hq, List.length_map]
  obtain ⟨q, hqk⟩ : ∃ q, qs[k]? = some q := ⟨_, List.getElem?_eq_getElem (by omega)⟩
  have hq1 : q.1 = n := by
    have h2 : (qs.map (·.1))[k]? = some q.1 := by rw [List.getElem?_map, hqk]; rfl
    rw [hq, hk] at h2
    exact (Option.some.inj h2).symm
  obtain ⟨hi, fs, hfs, hfrow, hfb⟩ := hqs q (List.mem_of_getElem? hqk)
  obtain ⟨Ai, ci, ei⟩ := own_slice hi.1
  obtain ⟨Af, cf, ef⟩ := own_slice hfrow.1
  rw [hq1] at hfs ei ef hfrow
  refine ⟨A2, c2, A3, c3, R, c, Ai, ci, Af, cf, h2, hR, fun o u ho hu => ?_, fun hp => ?_⟩
  · rw [hrow.cellAt _ (by omega), nodesC_get qs k q hqk o ho, hq1, ei, ef]
    exact hu
  · obtain ⟨F, d, ef2, _, hF⟩ := hfrow.1.form hp
    rw [ef] at ef2
    injection ef2 with e1 e2 e3
    refine ⟨F, e1, hF, fun j f hj => ?_⟩
    have hjl : j < n.fields.length := (List.getElem?_eq_some_iff.1 hj).1
    have hfl : fs.length = n.fields.length := by rw [← hfs, List.length_map]
    obtain ⟨x, hx⟩ : ∃ x, fs[j]? = some x := ⟨_, List.getElem?_eq_getElem (by omega)⟩
    have hx1 : x.1 = f := by
      have h2 : (fs.map (·.1))[j]? = some x.1 := by rw [List.getElem?_map, hx]; rfl
      rw [hfs, hj] at h2
      exact (Option.some.inj h2).symm
    obtain ⟨Ab, cb, eb, _⟩ := hfb x (List.mem_of_getElem? hx)
    rw [hx1] at eb
    refine ⟨Ab, cb, fun o u ho hu => ?_⟩
    have hr := hfrow.1
    rw [ef, e1] at hr
    rw [hr.cellAt _ (by omega), fieldsC_get fs j x hx o ho, hx1, eb]
    exact hu
set_option maxRecDepth 100000 in
set_option maxHeartbeats 16000000 in
theorem syntaxSound_any {w : World} (hL : LexW w) (s : ByteArray) : Calls Tryz.prog 4 #[.string s] w fun e w' => e = .returned (.bool true) ∧ Keeps w w' := by
  have HA := hide (fun (w1 : World) (hk : Keeps w w1) => awake05_any (hL.keeps hk))
  by_cases h1 : 9000 < s.size
  · have h1I : (9000 : Int) < (s.size : Int) := by omega
    clear hL
    go_enter Tryz.func4, Tryz.ntmps4
    go_wp2_with fail
    refine (unhide HA _ (Keeps.refl _)).mono ?_
    rintro e w1 ⟨rfl, hk⟩
    go_wp2
    go_ret
    exact ⟨rfl, hk⟩
  have h1I : ¬ (9000 : Int) < (s.size : Int) := by omega
  have hpr := parseM_any hL s (by omega)
  clear hL h1
  rcases hr : parseT (toks s) with ⟨p, x⟩ | md
  · rw [hr] at hpr
    have hx0 := parseT_ne hr
    have HPR := hide hpr
    clear hr hpr
    go_enter Tryz.func4, Tryz.ntmps4
    go_wp2_with fail
    refine (unhide HPR).mono ?_
    rintro e w1 ⟨rfl, hk1⟩
    have HK1 := hide hk1
    have HT1 := hide (Blk.new w1 27 #[.string ⟨#[]⟩, .int .i64 0, .slice none 0 0, .slice none 0 0, .slice none 0 0])
    clear hk1
    go_wp2_with fail
    refine (unhide HA _ ((unhide HK1).alloc _)).mono ?_
    rintro e w2 ⟨rfl, hk2⟩
    have HK2 := hide (((unhide HK1).alloc _).trans hk2)
    have HT2 := hide ((unhide HT1).keeps hk2)
    clear hk2
    go_wp2_with fail
    refine (unhide HA _ (unhide HK2)).mono ?_
    rintro e w3 ⟨rfl, hk3⟩
    have HK3 := hide ((unhide HK2).trans hk3)
    obtain ⟨htc, htf, -⟩ := ((unhide HT2).keeps hk3).facts
    clear hk3
    go_wp2_with fail
    refine (sameModule_nil _).mono ?_
    rintro e w4 ⟨rfl, hk4⟩
    go_wp2
    go_ret
    exact ⟨rfl, (unhide HK3).trans hk4⟩
  · rw [hr] at hpr
    obtain ⟨hok, hnm⟩ := parseT_ok hr
    have HPR := hide hpr
    clear hr hpr
    go_enter Tryz.func4, Tryz.ntmps4
    go_wp2_with fail
    refine (unhide HPR).mono ?_
    rintro e w1 ⟨A2, c2, A3, c3, A4, c4, rfl, hmh, hk1⟩
    have HMA := hide (show ModAt w (w1.alloc (.cells #[.string md.name, .int .i64 md.tagging, .slice A2 md.names.length c2, .slice A3 md.types.length c3, .slice A4 md.nodes.length c4] 27)) w1.heap.size md from ⟨hk1.alloc _, A2, c2, A3, c3, A4, c4, Blk.new w1 27 _, hmh.keeps ((Keeps.refl w1).alloc _)⟩)
    have HK1 := hide hk1
    clear hk1 hmh
    go_wp2_with fail
    refine (unhide HA _ (unhide HMA).1).mono ?_
    rintro e w2 ⟨rfl, hk2⟩
    have HM2 := hide ((unhide HMA).keeps hk2)
    generalize w1.heap.size = V at *
    obtain ⟨B2, d2, B3, d3, B4, d4, hb, hnames, htypes, hN, hlen, h40⟩ := (unhide HM2).lists
    have HB2 := hide hb
    have HNM := hide hnames
    have HTY := hide htypes
    obtain ⟨htc, htf, -⟩ := hb.facts
    have hnz := isEmpty_ne hnm
    have HOK := hide hok
    generalize hnn : md.names.length = n at *
    have h40I : decide ((40 : Int) < (n : Int)) = false := decide_eq_false (by omega)
    have hNI : decide ((300 : Int) < (md.nodes.length : Int)) = false := decide_eq_false (by omega)
    rw [hlen] at htc HB2 HTY
    clear hk2 hb hnames htypes hok hnm
    go_wp2_with fail
    go_loopw [6] (fun iv wr => ∃ k : Nat, k ≤ n ∧ iv = .int .i64 k ∧ Hid (Keeps w2 wr)) (fun iv _ => n - (intOf iv).toNat)
    case atStart => exact ⟨0, Nat.zero_le _, rfl, hide (Keeps.refl _)⟩
    case round =>
      obtain ⟨k, hk, rfl, hkw⟩ := hrel
      obtain ⟨hwc, hwf, -⟩ := ((unhide HB2).keeps (unhide hkw)).facts
      by_cases hlt : k < n
      · have hltI : (k : Int) < (n : Int) := by omega
        obtain ⟨R3, rfl, hR3, hct⟩ := unhide HTY (by omega)
        obtain ⟨R2, rfl, hR2, hcn⟩ := unhide HNM (by omega)
        obtain ⟨t, ht⟩ : ∃ t, md.types[k]? = some t := ⟨_, List.getElem?_eq_getElem (by omega)⟩
        obtain ⟨nm, hn⟩ : ∃ s, md.names[k]? = some s := ⟨_, List.getElem?_eq_getElem (by omega)⟩
        have d3' : wr.cell? ⟨R3, k, none⟩ = some (.int .i64 (t : Nat)) := (Below.cell (p := ⟨R3, k, none⟩) (unhide hkw) hR3).trans (hct k t ht)
        have d2' : wr.cell? ⟨R2, k, none⟩ = some (.string nm) := (Below.cell (p := ⟨R2, k, none⟩) (unhide hkw) hR2).trans (hcn k nm hn)
        obtain ⟨hT, hprev⟩ := (unhide HOK).types k t ht
        have hE := isEmpty_ne ((unhide HOK).names k nm hn)
        have hD0 : decide ((t : Int) < 0) = false := decide_eq_false (by omega)
        have hD1 : decide (md.nodes.length ≤ t) = false := decide_eq_false (by omega)
        have hD1' : decide ((md.nodes.length : Int) ≤ (t : Int)) = false := decide_eq_false (by omega)
        by_cases hk0 : k = 0
        · subst hk0
          clear hprev hct hcn ht hn
          go_wp2
          as_aux_lemma =>
            go_big_quiet (fail)
            go_wp2
            go_round
            case rel => exact ⟨0 + 1, by omega, rfl, hide ((unhide hkw).drewN _)⟩
            case measure => simp [intOf]; omega
        · obtain ⟨t', ht'⟩ : ∃ t, md.types[k - 1]? = some t := ⟨_, List.getElem?_eq_getElem (by omega)⟩
          have hlt' := hprev (k - 1) t' (by omega) ht'
          have d4' : wr.cell? ⟨R3, k - 1, none⟩ = some (.int .i64 (t' : Nat)) := (Below.cell (p := ⟨R3, k - 1, none⟩) (unhide hkw) hR3).trans (hct (k - 1) t' ht')
          have hD2 : decide (t ≤ t') = false := decide_eq_false (by omega)
          have hD2' : decide ((t : Int) ≤ (t' : Int)) = false := decide_eq_false (by omega)
          have hkI : (0 : Int) < (k : Int) := by omega
          have hD4 : decide ((0 : Int) < (k : Int)) = true := decide_eq_true (by omega)
          have hD5 : decide (0 < k) = true := decide_eq_true (by omega)
          have hj2 : ((k : Int) - 1).toNat = k - 1 := by omega
          have hj3 : (0 : Int) ≤ (k : Int) - 1 := by omega
          have hj4 : (k : Int) - 1 < (n : Int) := by omega
          clear hprev hct hcn ht hn ht' hlt'
          go_wp2
          as_aux_lemma =>
            go_big_quiet (fail)
            go_wp2
            go_round
            case rel => exact ⟨k + 1, by omega, by go_num, hide ((unhide hkw).drewN _)⟩
            case measure => simp [intOf]; omega
      · obtain rfl : k = n := by omega
        go_wp2_with fail
        have HKW := hide (unhide hkw)
        clear hwc hwf hkw
        go_loopw [7, 8, 9, 10] (fun iv _ _ _ ww => ∃ i : Nat, i ≤ md.nodes.length ∧ iv = .int .i64 i ∧ Hid (Keeps w2 ww)) (fun iv _ _ _ _ => md.nodes.length - (intOf iv).toNat)
        case atStart => exact ⟨0, Nat.zero_le _, rfl, HKW⟩
        case round =>
          obtain ⟨i, hi, rfl, hkw⟩ := hrel
          by_cases hlt : i < md.nodes.length
          · have hltI : (i : Int) < (md.nodes.length : Int) := by omega
            obtain ⟨nd, hnd⟩ : ∃ t, md.nodes[i]? = some t := ⟨_, List.getElem?_eq_getElem (by omega)⟩
            obtain ⟨C2, e2, C3, e3, R, c, Ai, ci, Af, cf, hbm, hR, hc, hflds⟩ := ((unhide HM2).keeps (unhide hkw)).nodeF hnd
            obtain ⟨hwc, hwf, -⟩ := hbm.facts
            have n0 : wr.cell? ⟨R, i * 16, none⟩ = some (.int .i64 nd.kind) := hc 0 _ (by decide) rfl
            have n1 : wr.cell? ⟨R, i * 16 + 1, none⟩ = some (.string nd.name) := hc 1 _ (by decide) rfl
            have n2 : wr.cell? ⟨R, i * 16 + 2, none⟩ = some (.bool nd.mHas) := hc 2 _ (by decide) rfl
            have n3 : wr.cell? ⟨R, i * 16 + 3, none⟩ = some (.int .i64 nd.mNum) := hc 3 _ (by decide) rfl
            have n4 : wr.cell? ⟨R, i * 16 + 4, none⟩ = some (.int .i64 nd.mMode) := hc 4 _ (by decide) rfl
            have n5 : wr.cell? ⟨R, i * 16 + 5, none⟩ = some (.bool nd.con.has) := hc 5 _ (by decide) rfl
            have n6 : wr.cell? ⟨R, i * 16 + 6, none⟩ = some (.bool nd.con.hasLow) := hc 6 _ (by decide) rfl
            have n7 : wr.cell? ⟨R, i * 16 + 7, none⟩ = some (.bool nd.con.hasHigh) := hc 7 _ (by decide) rfl
            have n8 : wr.cell? ⟨R, i * 16 + 8, none⟩ = some (.bool nd.con.more) := hc 8 _ (by decide) rfl
            have n9 : wr.cell? ⟨R, i * 16 + 9, none⟩ = some (.int .i64 nd.con.low) := hc 9 _ (by decide) rfl
            have n10 : wr.cell? ⟨R, i * 16 + 10, none⟩ = some (.int .i64 nd.con.high) := hc 10 _ (by decide) rfl
            have n11 : wr.cell? ⟨R, i * 16 + 11, none⟩ = some (.slice Ai nd.items.length ci) := hc 11 _ (by decide) rfl
            have n12 : wr.cell? ⟨R, i * 16 + 12, none⟩ = some (.slice Af nd.fields.length cf) := hc 12 _ (by decide) rfl
            have n13 : wr.cell? ⟨R, i * 16 + 13, none⟩ = some (.int .i64 (nd.root : Nat)) := hc 13 _ (by decide) rfl
            have n14 : wr.cell? ⟨R, i * 16 + 14, none⟩ = some (.bool nd.more) := hc 14 _ (by decide) rfl
            have n15 : wr.cell? ⟨R, i * 16 + 15, none⟩ = some (.int .i64 (nd.of : Nat)) := hc 15 _ (by decide) rfl
            have hNO := hide ((unhide HOK).nodes i nd hnd)
            have HFL := hide hflds
            have HBM := hide hbm
            have HBN := hide (Blk.new wr 40 #[.int .i64 nd.kind, .string nd.name, .bool nd.mHas, .int .i64 nd.mNum, .int .i64 nd.mMode, .bool nd.con.has, .bool nd.con.hasLow, .bool nd.con.hasHigh, .bool nd.con.more, .int .i64 nd.con.low, .int .i64 nd.con.high, .slice Ai nd.items.length ci, .slice Af nd.fields.length cf, .int .i64 (nd.root : Nat), .bool nd.more, .int .i64 (nd.of : Nat)])
            have HKN := hide ((Keeps.refl wr).alloc (.cells #[.int .i64 nd.kind, .string nd.name, .bool nd.mHas, .int .i64 nd.mNum, .int .i64 nd.mMode, .bool nd.con.has, .bool nd.con.hasLow, .bool nd.con.hasHigh, .bool nd.con.more, .int .i64 nd.con.low, .int .i64 nd.con.high, .slice Ai nd.items.length ci, .slice Af nd.fields.length cf, .int .i64 (nd.root : Nat), .bool nd.more, .int .i64 (nd.of : Nat)] 40))
            clear hc hflds hbm hnd
            have hk1 : decide (nd.kind < 1) = false := decide_eq_false (by have := (unhide hNO).kind; omega)
            have hk2 : decide (11 < nd.kind) = false := decide_eq_false (by have := (unhide hNO).kind; omega)
            have hr0 : decide ((nd.root : Int) < 0) = false := decide_eq_false (by omega)
            have hr1 : decide (max (nd.fields.length : Int) (nd.items.length : Int) < (nd.root : Int)) = false := decide_eq_false (by have := (unhide hNO).root; omega)
            have hnm : (nd.kind == 11) = !nd.name.toList.isEmpty := by
              by_cases h : nd.kind = 11
              · rw [isEmpty_ne ((unhide hNO).name.1 h), h]; rfl
              · have h0 : nd.name.size = 0 := by have := mt (unhide hNO).name.2 h; omega
                rw [isEmpty_eq h0, beq_eq_false_iff_ne.2 h]; rfl
            go_wp2
            generalize wr.alloc (.cells #[.int .i64 nd.kind, .string nd.name, .bool nd.mHas, .int .i64 nd.mNum, .int .i64 nd.mMode, .bool nd.con.has, .bool nd.con.hasLow, .bool nd.con.hasHigh, .bool nd.con.more, .int .i64 nd.con.low, .int .i64 nd.con.high, .slice Ai nd.items.length ci, .slice Af nd.fields.length cf, .int .i64 (nd.root : Nat), .bool nd.more, .int .i64 (nd.of : Nat)] 40) = W1 at HBN HKN ⊢
            generalize wr.heap.size = Vn at HBN ⊢
            go_loopw [9, 10] (fun iv _ ww => ∃ j : Nat, j ≤ nd.fields.length ∧ iv = .int .i64 j ∧ Hid (Keeps W1 ww)) (fun iv _ _ => nd.fields.length - (intOf iv).toNat)
            case atStart => exact ⟨0, Nat.zero_le _, rfl, hide (Keeps.refl _)⟩
            case round =>
              obtain ⟨j, hj, rfl, hkw2⟩ := hrel
              obtain ⟨hnc, hnf, -⟩ := ((unhide HBN).keeps (unhide hkw2)).facts
              have HKK := hide ((unhide HKN).trans (unhide hkw2))
              obtain ⟨hwc2, hwf2, -⟩ := ((unhide HBM).keeps (unhide HKK)).facts
              by_cases hltj : j < nd.fields.length
              · have hltjI : (j : Int) < (nd.fields.length : Int) := by omega
                obtain ⟨f, hf⟩ : ∃ t, nd.fields[j]? = some t := ⟨_, List.getElem?_eq_getElem (by omega)⟩
                obtain ⟨hf1, hf2, hf3, hprev, hgrp⟩ := (unhide hNO).flds j f hf
                have hjB : j < 300 := by have := (unhide hNO).flds.ge j f hf; omega
                obtain ⟨F, rfl, hF, hFc⟩ := unhide HFL (by omega)
                obtain ⟨Ab, cb, hcf⟩ := hFc j f hf
                have c0 : wr.cell? ⟨F, j * 11, none⟩ = some (.string f.name) := (Below.cell (p := ⟨F, j * 11, none⟩) (unhide HKK) hF).trans (hcf 0 _ (by decide) rfl)
                have c1 : wr.cell? ⟨F, j * 11 + 1, none⟩ = some (.int .i64 (f.type : Nat)) := (Below.cell (p := ⟨F, j * 11 + 1, none⟩) (unhide HKK) hF).trans (hcf 1 _ (by decide) rfl)
                have c2 : wr.cell? ⟨F, j * 11 + 2, none⟩ = some (.bool f.optional) := (Below.cell (p := ⟨F, j * 11 + 2, none⟩) (unhide HKK) hF).trans (hcf 2 _ (by decide) rfl)
                have c3 : wr.cell? ⟨F, j * 11 + 3, none⟩ = some (.bool f.has) := (Below.cell (p := ⟨F, j * 11 + 3, none⟩) (unhide HKK) hF).trans (hcf 3 _ (by decide) rfl)
                have c4 : wr.cell? ⟨F, j * 11 + 4, none⟩ = some (.int .i64 f.dflt.kind) := (Below.cell (p := ⟨F, j * 11 + 4, none⟩) (unhide HKK) hF).trans (hcf 4 _ (by decide) rfl)
                have c5 : wr.cell? ⟨F, j * 11 + 5, none⟩ = some (.int .i64 f.dflt.n) := (Below.cell (p := ⟨F, j * 11 + 5, none⟩) (unhide HKK) hF).trans (hcf 5 _ (by decide) rfl)
                have c6 : wr.cell? ⟨F, j * 11 + 6, none⟩ = some (.slice Ab f.dflt.b.length cb) := (Below.cell (p := ⟨F, j * 11 + 6, none⟩) (unhide HKK) hF).trans (hcf 6 _ (by decide) rfl)
                have c7 : wr.cell? ⟨F, j * 11 + 7, none⟩ = some (.slice none 0 0) := (Below.cell (p := ⟨F, j * 11 + 7, none⟩) (unhide HKK) hF).trans (hcf 7 _ (by decide) rfl)
                have c8 : wr.cell? ⟨F, j * 11 + 8, none⟩ = some (.int .i64 0) := (Below.cell (p := ⟨F, j * 11 + 8, none⟩) (unhide HKK) hF).trans (hcf 8 _ (by decide) rfl)
                have c9 : wr.cell? ⟨F, j * 11 + 9, none⟩ = some (.slice none 0 0) := (Below.cell (p := ⟨F, j * 11 + 9, none⟩) (unhide HKK) hF).trans (hcf 9 _ (by decide) rfl)
                have c10 : wr.cell? ⟨F, j * 11 + 10, none⟩ = some (.int .i64 (f.group : Nat)) := (Below.cell (p := ⟨F, j * 11 + 10, none⟩) (unhide HKK) hF).trans (hcf 10 _ (by decide) rfl)
                have hE := isEmpty_ne hf3
                have hD0 : decide (f.type ≤ i) = false := decide_eq_false (by omega)
                have hD0' : decide ((f.type : Int) ≤ (i : Int)) = false := decide_eq_false (by omega)
                have hD1 : decide (md.nodes.length ≤ f.type) = false := decide_eq_false (by omega)
                have hD1' : decide ((md.nodes.length : Int) ≤ (f.type : Int)) = false := decide_eq_false (by omega)
                clear hcf hf hf1 hf2 hf3
                have hpv : 0 < j → ∃ f' : FieldV, f'.type < f.type ∧ wr.cell? ⟨F, (j - 1) * 11 + 1, none⟩ = some (.int .i64 (f'.type : Nat)) := fun hjp => by
                  obtain ⟨f', hf'⟩ : ∃ t, nd.fields[j - 1]? = some t := ⟨_, List.getElem?_eq_getElem (by omega)⟩
                  obtain ⟨Ab', cb', hc'⟩ := hFc (j - 1) f' hf'
                  exact ⟨f', hprev (j - 1) f' (by omega) hf', (Below.cell (p := ⟨F, (j - 1) * 11 + 1, none⟩) (unhide HKK) hF).trans (hc' 1 _ (by decide) rfl)⟩
                have HPV := hide hpv
                clear hprev hFc hpv
                have HBF := hide (Blk.new wr 47 #[.string f.name, .int .i64 (f.type : Nat), .bool f.optional, .bool f.has, .int .i64 f.dflt.kind, .int .i64 f.dflt.n, .slice Ab f.dflt.b.length cb, .slice none 0 0, .int .i64 0, .slice none 0 0, .int .i64 (f.group : Nat)])
                have HKF := hide ((Keeps.refl wr).alloc (.cells #[.string f.name, .int .i64 (f.type : Nat), .bool f.optional, .bool f.has, .int .i64 f.dflt.kind, .int .i64 f.dflt.n, .slice Ab f.dflt.b.length cb, .slice none 0 0, .int .i64 0, .slice none 0 0, .int .i64 (f.group : Nat)] 47))
                go_wp2
                generalize wr.alloc (.cells #[.string f.name, .int .i64 (f.type : Nat), .bool f.optional, .bool f.has, .int .i64 f.dflt.kind, .int .i64 f.dflt.n, .slice Ab f.dflt.b.length cb, .slice none 0 0, .int .i64 0, .slice none 0 0, .int .i64 (f.group : Nat)] 47) = W2 at HBF HKF ⊢
                generalize wr.heap.size = Vf at HBF ⊢
                clear hnc hnf hwc2 hwf2 c0 c1 c2 c3 c4 c5 c6 c7 c8 c9 c10
                obtain ⟨hfc, hff, -⟩ := (unhide HBF).facts
                obtain ⟨hnc3, hnf3, -⟩ := ((unhide HBN).keeps ((unhide hkw2).trans (unhide HKF))).facts
                obtain ⟨hwc3, hwf3, -⟩ := ((unhide HBM).keeps ((unhide HKK).trans (unhide HKF))).facts
                by_cases hj0 : j = 0
                · have hD6 : decide ((0 : Int) < (j : Int)) = false := decide_eq_false (by omega)
                  have hD7 : decide (0 < j) = false := decide_eq_false (by omega)
                  clear HPV
                  by_cases hg : 0 < f.group
                  · have hr := hgrp hg
                    have hG1 : decide ((0 : Int) < (f.group : Int)) = true := decide_eq_true (by omega)
                    have hG2 : decide (0 < f.group) = true := decide_eq_true hg
                    have hG3 : decide ((j : Int) < (nd.root : Int)) = false := decide_eq_false (by omega)
                    have hG4 : decide (j < nd.root) = false := decide_eq_false (by omega)
                    clear hgrp
                    as_aux_lemma =>
                      go_big_quiet (fail)
                      go_wp2
                      go_round
                      case rel => exact ⟨j + 1, by omega, by go_num, hide (((unhide hkw2).trans (unhide HKF)).drewN _)⟩
                      case measure => simp [intOf]; omega
                  · have hG1 : decide ((0 : Int) < (f.group : Int)) = false := decide_eq_false (by omega)
                    have hG2 : decide (0 < f.group) = false := decide_eq_false hg
                    clear hgrp
                    as_aux_lemma =>
                      go_big_quiet (fail)
                      go_wp2
                      go_round
                      case rel => exact ⟨j + 1, by omega, by go_num, hide (((unhide hkw2).trans (unhide HKF)).drewN _)⟩
                      case measure => simp [intOf]; omega
                · obtain ⟨f', hlt', g1⟩ := unhide HPV (by omega)
                  have hD5 : decide (f.type ≤ f'.type) = false := decide_eq_false (by omega)
                  have hD5' : decide ((f.type : Int) ≤ (f'.type : Int)) = false := decide_eq_false (by omega)
                  have hjI : (0 : Int) < (j : Int) := by omega
                  have hD6 : decide ((0 : Int) < (j : Int)) = true := decide_eq_true (by omega)
                  have hD7 : decide (0 < j) = true := decide_eq_true (by omega)
                  have hj2 : ((j : Int) - 1).toNat = j - 1 := by omega
                  have hj3 : (0 : Int) ≤ (j : Int) - 1 := by omega
                  have hj4 : (j : Int) - 1 < (nd.fields.length : Int) := by omega
                  have g2 : W2.cell? ⟨F, (j - 1) * 11 + 1, none⟩ = some (.int .i64 (f'.type : Nat)) := (Below.cell (p := ⟨F, (j - 1) * 11 + 1, none⟩) (unhide HKF) (Nat.lt_of_lt_of_le hF (unhide HKK).size)).trans g1
                  clear g1 hlt' HPV
                  by_cases hg : 0 < f.group
                  · have hr := hgrp hg
                    have hG1 : decide ((0 : Int) < (f.group : Int)) = true := decide_eq_true (by omega)
                    have hG2 : decide (0 < f.group) = true := decide_eq_true hg
                    have hG3 : decide ((j : Int) < (nd.root : Int)) = false := decide_eq_false (by omega)
                    have hG4 : decide (j < nd.root) = false := decide_eq_false (by omega)
                    clear hgrp
                    as_aux_lemma =>
                      go_big_quiet (fail)
                      go_wp2
                      go_round
                      case rel => exact ⟨j + 1, by omega, by go_num, hide (((unhide hkw2).trans (unhide HKF)).drewN _)⟩
                      case measure => simp [intOf]; omega
                  · have hG1 : decide ((0 : Int) < (f.group : Int)) = false := decide_eq_false (by omega)
                    have hG2 : decide (0 < f.group) = false := decide_eq_false hg
                    clear hgrp
                    as_aux_lemma =>
                      go_big_quiet (fail)
                      go_wp2
                      go_round
                      case rel => exact ⟨j + 1, by omega, by go_num, hide (((unhide hkw2).trans (unhide HKF)).drewN _)⟩
                      case measure => simp [intOf]; omega
              · obtain rfl : j = nd.fields.length := by omega
                by_cases h10 : nd.kind = 10
                · have hof := (unhide hNO).of_ h10
                  have ho1 : decide (nd.of ≤ i) = false := decide_eq_false (by omega)
                  have ho2 : decide (md.nodes.length ≤ nd.of) = false := decide_eq_false (by omega)
                  have ho3 : ¬ nd.of ≤ i := by omega
                  have ho4 : ¬ md.nodes.length ≤ nd.of := by omega
                  have h10b : (nd.kind == 10) = true := beq_iff_eq.2 h10
                  clear hof
                  go_wp2
                  go_round
                  case rel => exact ⟨i + 1, by omega, by go_num, hide ((unhide hkw).trans (unhide HKK))⟩
                  case measure => simp [intOf]; omega
                · have h10b : (nd.kind == 10) = false := beq_eq_false_iff_ne.2 h10
                  go_wp2
                  go_round
                  case rel => exact ⟨i + 1, by omega, by go_num, hide ((unhide hkw).trans (unhide HKK))⟩
                  case measure => simp [intOf]; omega
          · obtain rfl : i = md.nodes.length := by omega
            obtain ⟨hwc, hwf, -⟩ := ((unhide HB2).keeps (unhide hkw)).facts
            go_wp2
            go_ret
            exact ⟨rfl, (unhide HM2).1.trans (unhide hkw)⟩
end Go.Proofs.YtckcbgijddglpaaGreatDoor
