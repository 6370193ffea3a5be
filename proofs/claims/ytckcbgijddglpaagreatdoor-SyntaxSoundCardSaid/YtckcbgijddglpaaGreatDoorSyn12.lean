/- The parser's stream: a hexadecimal string. -/
import Derived.Test.YtckcbgijddglpaaGreatDoorSyn11
import Derived.Test.YtckcbgijddglpaaGreatDoorSynN2
import Derived.Deep.RegionHeld3
import Derived.Deep.QuietTactic
import Derived.BigQuiet
import Derived.IntWalk
namespace Go.Proofs.YtckcbgijddglpaaGreatDoor
open Go.ChangeShapes Go.WideShapes Go.ChangeAt Go.RowKit Go.PlainAid
set_option linter.unusedVariables false
set_option linter.unnecessarySimpa false
set_option linter.unusedSimpArgs false

def nibI (c : Int) : Int := if 65 ≤ c then c - 55 else if 48 ≤ c then c - 48 else c + 208
theorem nibI_range {c : Int} (h0 : 0 ≤ c) (h1 : c ≤ 255) : 0 ≤ nibI c ∧ nibI c ≤ 255 := by unfold nibI; split <;> (try split) <;> omega
theorem nib_nat (c : UInt8) : ((nib c).toNat : Int) = nibI (c.toNat : Nat) := by
  have hc := c.toNat_lt
  unfold nib nibI
  by_cases h : 65 ≤ c.toNat
  · rw [if_pos h, if_pos (by omega), UInt8.toNat_add, UInt8.toNat_sub_of_le _ _ (by rw [UInt8.le_iff_toNat_le]; exact h)]
    simp; omega
  · rw [if_neg h, if_neg (by omega)]
    by_cases h2 : 48 ≤ c.toNat
    · rw [if_pos (by omega), UInt8.toNat_sub_of_le _ _ (by rw [UInt8.le_iff_toNat_le]; exact h2)]
      simp; omega
    · rw [if_neg (by omega), UInt8.toNat_sub]
      simp; omega
set_option maxHeartbeats 1000000 in
theorem nibble_any (c : Int) (w : World) (h0 : 0 ≤ c) (h1 : c ≤ 255) : Calls Tryz.prog 136 #[.int .u8 c] w fun e w' => e = .returned (.int .u8 (nibI c)) ∧ w' = w := by
  by_cases h : 65 ≤ c
  · have HE := hide (show nibI c = c - 55 by unfold nibI; rw [if_pos h])
    go_enter Tryz.func136, Tryz.ntmps136
    go_wp2
    go_ret
    exact ⟨ret_int (by rw [unhide HE]; omega), rfl⟩
  · by_cases h2 : 48 ≤ c
    · have HE := hide (show nibI c = c - 48 by unfold nibI; rw [if_neg h, if_pos h2])
      go_enter Tryz.func136, Tryz.ntmps136
      go_wp2
      go_ret
      exact ⟨ret_int (by rw [unhide HE]), rfl⟩
    · have HE := hide (show nibI c = c + 208 by unfold nibI; rw [if_neg h, if_neg h2])
      go_enter Tryz.func136, Tryz.ntmps136
      go_wp2
      go_ret
      exact ⟨ret_int (by rw [unhide HE]; omega), rfl⟩
/-- The first m bytes that digits say. -/
def hexN (ds : List UInt8) (m : Nat) : List UInt8 := (hexB ds).take m
theorem hexB_len : ∀ (ds : List UInt8), (hexB ds).length = ds.length / 2
  | [] => rfl
  | [_] => by simp [hexB]
  | a :: b :: r => by rw [hexB, List.length_cons, hexB_len r]; simp only [List.length_cons]; omega
theorem hexB_get : ∀ (ds : List UInt8) (m : Nat) (a b : UInt8), ds[2 * m]? = some a → ds[2 * m + 1]? = some b → (hexB ds)[m]? = some (nib a <<< 4 ||| nib b)
  | [], m, a, b, h, _ => by simp at h
  | [_], m, a, b, _, h => by simp at h
  | x :: y :: r, 0, a, b, h1, h2 => by
    simp at h1 h2; subst h1; subst h2; rfl
  | x :: y :: r, m + 1, a, b, h1, h2 => by
    rw [show 2 * (m + 1) = 2 * m + 2 by omega] at h1
    rw [show 2 * (m + 1) + 1 = (2 * m + 1) + 2 by omega] at h2
    simp only [List.getElem?_cons_succ] at h1 h2
    rw [hexB, List.getElem?_cons_succ]
    exact hexB_get r m a b h1 h2
theorem hexN_next {ds : List UInt8} {m : Nat} {a b : UInt8} (h1 : ds[2 * m]? = some a) (h2 : ds[2 * m + 1]? = some b) : hexN ds (m + 1) = hexN ds m ++ [nib a <<< 4 ||| nib b] := by
  have := hexB_get ds m a b h1 h2
  obtain ⟨hl, hg⟩ := List.getElem?_eq_some_iff.1 this
  rw [hexN, hexN, List.take_succ_eq_append_getElem hl, hg]
theorem hex_or (a b : UInt8) : bits .or .u8 (IntKind.u8.wrap (nibI (a.toNat : Nat) * 16)) (nibI (b.toNat : Nat)) = ((nib a <<< 4 ||| nib b).toNat : Nat) := by
  rw [← nib_nat, ← nib_nat]
  have h1 := (nib a).toNat_lt
  have h2 := (nib b).toNat_lt
  have e : IntKind.u8.wrap (((nib a).toNat : Int) * 16) = (((nib a).toNat * 16 % 256 : Nat) : Int) := by rw [IntKind.wrap_u8]; omega
  rw [e, u8_or_nat _ _ (by omega) (by omega)]
  rw [UInt8.toNat_or, UInt8.toNat_shiftLeft]
  simp [Nat.shiftLeft_eq]
theorem u8_info' : (Tryz.prog.info? 5).map (fun i => (i.zero, i.size, i.bytes)) = some (some (.int .u8 0), 1, 1) := by kernel_rfl
theorem one_u8 (w : World) (x : Int) : Reads (w.alloc (.cells #[.int .u8 x] 5)) (w.heap.size + 1) 1 (some ⟨w.heap.size, 0, none⟩) 1 [.int .u8 x] := by
  refine ⟨rfl, fun _ => ⟨_, rfl, by simp, fun j u hu => ?_⟩⟩
  have hb : Blk (w.alloc (.cells #[.int .u8 x] 5)) w.heap.size 5 #[.int .u8 x] := Blk.new _ _ _
  have := hb.cell j
  rw [show (#[.int .u8 x] : Array Value)[j]? = [Value.int .u8 x][j]? by simp] at this
  rw [hu] at this
  by_cases h0 : j = 0
  · subst h0; simpa [Addr.add] using this
  · simpa [Addr.add, h0] using this
section
variable {w : World} {g : Nat} {A : Option Addr} {c : Nat} {l : List Tok} {i : Nat} {m0 m1 m2 m3 m4 : Value}
set_option maxRecDepth 100000 in
set_option maxHeartbeats 8000000 in
theorem hex_q (h : PQ w g A c l i m0 m1 m2 m3 m4) {x : ByteArray} {j : Nat} (hT : tokT l i 4 = .ok (x, j)) (hx : x.size ≤ 1000000) :
    Calls Tryz.prog 134 #[.pointer (some ⟨g, 0, none⟩)] w fun e w' => ∃ vb, e = .returned (.tuple #[vb, .bool true]) ∧ PQ w' g A c l j m0 m1 m2 m3 m4 ∧ FS (· = g) w w' ∧ BytesH w' (fun b => w.heap.size ≤ b) vb (hexB x.data.toList) := by
  have HT := hide (token_q h 4)
  rw [hT] at HT
  have hb := get_bt x
  obtain ⟨i0, hi0, hz0, hz1, hz2⟩ := info_parts u8_info'
  clear h hT
  go_enter Tryz.func134, Tryz.ntmps134
  go_wp2_with fail
  refine (unhide HT).mono ?_
  rintro e w1 ⟨⟨rfl, hp⟩, hf⟩
  have HP1 := hide hp
  have HF1 := hide hf
  clear hp hf HT
  go_wp2
  go_loopw [6, 7] (fun v k wr => ∃ m Z : Nat, Z = 2 * m ∧ Z ≤ x.size ∧ k = .int .i64 (Z : Nat) ∧ Keeps w1 wr ∧ wr.ownsRow w1.heap.size 5 1 v m (bytesC (hexN x.data.toList m))) (fun _ k _ => x.size + 3 - (intOf k).toNat)
  case atStart => exact ⟨0, 0, rfl, by omega, rfl, Keeps.refl _, World.ownsRow_nil _ _ _ _⟩
  case round =>
    obtain ⟨m, Z, hZ, hm, rfl, hk, ho⟩ := hrel
    have HK := hide hk
    have HO := hide ho
    clear hk ho
    by_cases hlt : Z + 1 < x.size
    · have hltI : (Z : Int) + 1 < (x.size : Int) := by omega
      have hg0 := byteAt_eq (s := x) (k := Z) (by omega)
      have hg1 := byteAt_eq (s := x) (k := Z + 1) (by omega)
      have hn0 := byteAt_nat (s := x) (k := Z) (by omega)
      have hn1 := byteAt_nat (s := x) (k := Z + 1) (by omega)
      have HNX := hide (hexN_next (ds := x.data.toList) (m := m) (by rw [← hZ]; exact hg0) (by rw [← hZ]; exact hg1))
      have HZ := hide hZ
      clear hZ
      have hor := hex_or (byteAt x Z) (byteAt x (Z + 1))
      have HN1 := hide (fun w => nibble_any (bt x Z) w (by omega) (by have := (byteAt x Z).toNat_lt; omega))
      have HN2 := hide (fun w => nibble_any (bt x (Z + 1)) w (by omega) (by have := (byteAt x (Z + 1)).toNat_lt; omega))
      rw [hn0, hn1] at hor
      have hb0 : ((x[Z]'(by omega)).toNat : Int) = bt x Z := hb _ _
      have hb1 : ((x[Z + 1]'(by omega)).toNat : Int) = bt x (Z + 1) := hb _ _
      generalize (nib (byteAt x Z) <<< 4 ||| nib (byteAt x (Z + 1))) = ub at *
      have HUB := hide (show bytesC (hexN x.data.toList (m + 1)) = bytesC (hexN x.data.toList m) ++ [.int .u8 (ub.toNat : Nat)] by rw [unhide HNX]; simp [bytesC])
      generalize hvv : ((ub.toNat : Nat) : Int) = vv at *
      clear hg0 hg1 hn0 hn1 HNX
      generalize hq0 : bt x Z = q0 at *
      generalize hq1 : bt x (Z + 1) = q1 at *
      generalize nibI q0 = n0 at *
      generalize nibI q1 = n1 at *
      have hmb : m ≤ 1000000 := by have := unhide HZ; omega
      have hw1 : IntKind.i64.wrap ((Z : Int) + 1) = (Z : Int) + 1 := IntWalk.i64_in _ (by omega)
      have hz1' : (0 : Int) ≤ (Z : Int) + 1 := by omega
      have ht1 : ((Z : Int) + 1).toNat = Z + 1 := by omega
      have hZI : (Z : Int) < (x.size : Int) := by omega
      have HO1 := hide ((unhide HO).drew.alloc (.cells #[.int .u8 vv] 5))
      have HRD := hide (one_u8 wr.drew vv)
      generalize hexN x.data.toList m = xs0 at *
      go_wp2
      refine wp_region_held_drew (S := fun _ => True) (by kernel_rfl) trivial (fun hHeld => ?_)
      refine wpAnyH_take (i := 0) (oi := { dst := some 20, op := Op.move (Operand.tmp 6), type := 41, pos := "stream.go:102", after := #[], guard := none }) (v := ?_) rfl (by kernel_rfl) (by kernel_rfl) (by kernel_rfl) (fun _ _ _ h => h) (Or.inl ⟨by rfl, ?_⟩) (by assumption) ?_
      rotate_left
      · intro w hSw
        go_simp
        try with_reducible rfl
      try simp only [Act.put, List.setIfInBounds_toArray, List.set_cons_zero, List.set_cons_succ]
      refine wpAnyH_take (i := 1) (oi := { dst := some 21, op := Op.move (Operand.tmp 4), type := 9, pos := "stream.go:102", after := #[], guard := none }) (v := ?_) rfl (by kernel_rfl) (by kernel_rfl) (by kernel_rfl) (fun _ _ _ h => h) (Or.inl ⟨by rfl, ?_⟩) (by assumption) ?_
      rotate_left
      · intro w hSw
        go_simp
        try with_reducible rfl
      try simp only [Act.put, List.setIfInBounds_toArray, List.set_cons_zero, List.set_cons_succ]
      refine wpAnyH_take (i := 2) (oi := { dst := some 22, op := Op.move (Operand.tmp 7), type := 3, pos := "stream.go:102", after := #[], guard := none }) (v := ?_) rfl (by kernel_rfl) (by kernel_rfl) (by kernel_rfl) (fun _ _ _ h => h) (Or.inl ⟨by rfl, ?_⟩) (by assumption) ?_
      rotate_left
      · intro w hSw
        go_simp
        try with_reducible rfl
      try simp only [Act.put, List.setIfInBounds_toArray, List.set_cons_zero, List.set_cons_succ]
      refine wpAnyH_take (i := 3) (oi := { dst := some 23, op := Op.index 9 (Operand.tmp 21) (Operand.tmp 22), type := 5, pos := "stream.go:102", after := #[{ on := 1, ground := Ground.data }, { on := 2, ground := Ground.data }], guard := none }) (v := ?_) rfl (by kernel_rfl) (by kernel_rfl) (by kernel_rfl) (fun _ _ _ h => h) (Or.inl ⟨by rfl, ?_⟩) (by assumption) ?_
      rotate_left
      · intro w hSw
        go_simp
        try with_reducible rfl
      try simp only [Act.put, List.setIfInBounds_toArray, List.set_cons_zero, List.set_cons_succ]
      refine wpAnyH_take (i := 6) (oi := { dst := some 26, op := Op.move (Operand.tmp 4), type := 9, pos := "stream.go:102", after := #[], guard := none }) (v := ?_) rfl (by kernel_rfl) (by kernel_rfl) (by kernel_rfl) (fun _ _ _ h => h) (Or.inl ⟨by rfl, ?_⟩) (by assumption) ?_
      rotate_left
      · intro w hSw
        go_simp
        try with_reducible rfl
      try simp only [Act.put, List.setIfInBounds_toArray, List.set_cons_zero, List.set_cons_succ]
      refine wpAnyH_take (i := 7) (oi := { dst := some 27, op := Op.move (Operand.tmp 7), type := 3, pos := "stream.go:102", after := #[], guard := none }) (v := ?_) rfl (by kernel_rfl) (by kernel_rfl) (by kernel_rfl) (fun _ _ _ h => h) (Or.inl ⟨by rfl, ?_⟩) (by assumption) ?_
      rotate_left
      · intro w hSw
        go_simp
        try with_reducible rfl
      try simp only [Act.put, List.setIfInBounds_toArray, List.set_cons_zero, List.set_cons_succ]
      refine wpAnyH_take (i := 8) (oi := { dst := some 28, op := Op.binOp BinOp.add 3 (Operand.tmp 27) (Operand.const (Value.int IntKind.i64 1)) 3, type := 3, pos := "stream.go:102", after := #[{ on := 7, ground := Ground.data }], guard := none }) (v := ?_) rfl (by kernel_rfl) (by kernel_rfl) (by kernel_rfl) (fun _ _ _ h => h) (Or.inl ⟨by rfl, ?_⟩) (by assumption) ?_
      rotate_left
      · intro w hSw
        go_simp
        try with_reducible rfl
      try simp only [Act.put, List.setIfInBounds_toArray, List.set_cons_zero, List.set_cons_succ]
      refine wpAnyH_take (i := 9) (oi := { dst := some 29, op := Op.index 9 (Operand.tmp 26) (Operand.tmp 28), type := 5, pos := "stream.go:102", after := #[{ on := 6, ground := Ground.data }, { on := 8, ground := Ground.data }], guard := none }) (v := ?_) rfl (by kernel_rfl) (by kernel_rfl) (by kernel_rfl) (fun _ _ _ h => h) (Or.inl ⟨by rfl, ?_⟩) (by assumption) ?_
      rotate_left
      · intro w hSw
        go_simp
        try with_reducible rfl
      try simp only [Act.put, List.setIfInBounds_toArray, List.set_cons_zero, List.set_cons_succ]
      refine wpAnyH_ready (rs := [4]) (by kernel_rfl) (by simp) ?_
      refine AllReadyH.cons (o := { dst := some 24, op := Op.call { callee := Callee.value (Operand.func 136), args := #[Operand.tmp 23], argTypes := #[5] }, type := 5, pos := "stream.go:102", after := #[{ on := 3, ground := Ground.data }], guard := none }) rfl (fun K hK => ?_) AllReadyH.nil
      go_simp
      go_at_call 136
      refine (unhide HN1 _).mono ?_
      rintro e w' ⟨rfl, rfl⟩
      go_wp2_with fail
      refine hK.out _ _ ?_ (fun hHeld => ?_)
      · trivial
      clear hK K
      try simp only [Act.put, List.setIfInBounds_toArray, List.set_cons_zero, List.set_cons_succ]
      refine wpAnyH_take (i := 5) (oi := { dst := some 25, op := Op.binOp BinOp.shl 5 (Operand.tmp 24) (Operand.const (Value.int IntKind.u64 4)) 51, type := 5, pos := "stream.go:102", after := #[{ on := 4, ground := Ground.data }], guard := none }) (v := ?_) rfl (by kernel_rfl) (by kernel_rfl) (by kernel_rfl) (fun _ _ _ h => h) (Or.inl ⟨by rfl, ?_⟩) (by assumption) ?_
      rotate_left
      · intro w hSw
        go_simp
        try with_reducible rfl
      try simp only [Act.put, List.setIfInBounds_toArray, List.set_cons_zero, List.set_cons_succ]
      refine wpAnyH_ready (rs := [10]) (by kernel_rfl) (by simp) ?_
      refine AllReadyH.cons (o := { dst := some 30, op := Op.call { callee := Callee.value (Operand.func 136), args := #[Operand.tmp 29], argTypes := #[5] }, type := 5, pos := "stream.go:102", after := #[{ on := 9, ground := Ground.data }, { on := 4, ground := Ground.chain }], guard := none }) rfl (fun K hK => ?_) AllReadyH.nil
      go_simp
      go_at_call 136
      refine (unhide HN2 _).mono ?_
      rintro e w' ⟨rfl, rfl⟩
      go_wp2_with fail
      refine hK.out _ _ ?_ (fun hHeld => ?_)
      · trivial
      clear hK K
      try simp only [Act.put, List.setIfInBounds_toArray, List.set_cons_zero, List.set_cons_succ]
      refine wpAnyH_take (i := 11) (oi := { dst := some 31, op := Op.binOp BinOp.or 5 (Operand.tmp 25) (Operand.tmp 30) 5, type := 5, pos := "stream.go:102", after := #[{ on := 5, ground := Ground.data }, { on := 10, ground := Ground.data }], guard := none }) (v := ?_) rfl (by kernel_rfl) (by kernel_rfl) (by kernel_rfl) (fun _ _ _ h => h) (Or.inl ⟨by rfl, ?_⟩) (by assumption) ?_
      rotate_left
      · intro w hSw
        go_simp
        try with_reducible rfl
      try simp only [Act.put, List.setIfInBounds_toArray, List.set_cons_zero, List.set_cons_succ]
      refine wpAnyH_ready (rs := [12]) (by kernel_rfl) (by simp) ?_
      refine AllReadyH.cons (o := { dst := some 32, op := Op.buildSlice 41 1 #[(0, Operand.tmp 31)], type := 41, pos := "stream.go:102", after := #[{ on := 11, ground := Ground.data }], guard := none }) rfl (fun K hK => ?_) AllReadyH.nil
      go_simp
      refine hK.out _ _ trivial (fun hHeld => ?_)
      clear hK K hHeld
      try simp only [Act.put, List.setIfInBounds_toArray, List.set_cons_zero, List.set_cons_succ]
      refine wpAnyH_ready (rs := [13]) (by kernel_rfl) (by simp) ?_
      refine AllReadyH.cons (o := { dst := some 33, op := Op.call { callee := Callee.builtin Builtin.append, args := #[Operand.tmp 20, Operand.tmp 32], argTypes := #[41, 41] }, type := 41, pos := "stream.go:102", after := #[{ on := 0, ground := Ground.data }, { on := 12, ground := Ground.data }, { on := 10, ground := Ground.chain }], guard := none }) rfl (fun K hK => ?_) AllReadyH.nil
      refine step_append_any _ rfl (.tmp 20) (.tmp 32) 41 rfl w1.heap.size 5 i0 _ 1 1 Tryz.underlying41 hi0 hz0 hz1 hz2 rfl (by omega) u6 m _ (by simp [Act.eval]) (unhide HO1) _ (some ⟨wr.heap.size, 0, none⟩) 1 1 _ (by simp [Act.eval]) (unhide HRD) (by simp [Value.oneCell']) (by simp only [maxLen]; omega) (by omega) (by show w1.heap.size ≤ (wr.alloc _).heap.size; rw [World.size_alloc]; have := (unhide HK).size; omega) ?_
      intro v4 w4 hown4 hg4 hat4
      have HK4 := hide (((unhide HK).drew.alloc (.cells #[.int .u8 vv] 5)).grown hg4 (fun b e => ((unhide HO1).lt b e).1))
      have HO4 := hide hown4
      clear hown4 hg4 hat4
      refine hK.out _ _ trivial (fun hHeld => ?_)
      clear hK K hHeld
      try simp only [Act.put, List.setIfInBounds_toArray, List.set_cons_zero, List.set_cons_succ]
      refine wpAnyH_take (i := 14) (oi := { dst := some 6, op := Op.assign (Operand.tmp 33), type := 41, pos := "stream.go:102", after := #[{ on := 13, ground := Ground.data }, { on := 13, ground := Ground.chain }, { on := 0, ground := Ground.phase }, { on := 1, ground := Ground.phase }, { on := 2, ground := Ground.phase }, { on := 3, ground := Ground.phase }, { on := 4, ground := Ground.phase }, { on := 5, ground := Ground.phase }, { on := 6, ground := Ground.phase }, { on := 7, ground := Ground.phase }, { on := 8, ground := Ground.phase }, { on := 9, ground := Ground.phase }, { on := 10, ground := Ground.phase }, { on := 11, ground := Ground.phase }, { on := 12, ground := Ground.phase }, { on := 13, ground := Ground.phase }], guard := none }) (v := ?_) rfl (by kernel_rfl) (by kernel_rfl) (by kernel_rfl) (fun _ _ _ h => h) (Or.inl ⟨by rfl, ?_⟩) (by assumption) ?_
      rotate_left
      · intro w hSw
        go_simp
        try with_reducible rfl
      try simp only [Act.put, List.setIfInBounds_toArray, List.set_cons_zero, List.set_cons_succ]
      refine wpAnyH_done (by kernel_rfl) ?_ _
      clear hw1 ht1 hq0 hq1 hb0 hb1 hor
      go_wp2
      refine ⟨⟨m + 1, Z + 2, by have := unhide HZ; omega, by omega, congrArg (Value.int IntKind.i64) (by omega), unhide HK4, by rw [unhide HUB]; exact unhide HO4⟩, by simp [intOf]; omega⟩
    · have hltI : ¬ (Z : Int) + 1 < (x.size : Int) := by omega
      have HZ := hide hZ
      clear hZ
      go_wp2
      go_ret2
      refine ⟨u6, rfl, (unhide HP1).keeps (unhide HK), (unhide HF1).keeps (unhide HK), ?_⟩
      have hO := unhide HO
      have hZ := unhide HZ
      have e : hexN x.data.toList m = hexB x.data.toList := by rw [hexN, List.take_of_length_le]; rw [hexB_len, ← Lib.size_eq]; omega
      have e2 : (hexB x.data.toList).length = m := by rw [hexB_len, ← Lib.size_eq]; omega
      rw [e] at hO
      exact BytesH.of_own (base := w1.heap.size) (by rw [e2]; exact hO) (fun b hb => by have := (unhide HF1).size; omega)
end
end Go.Proofs.YtckcbgijddglpaaGreatDoor
