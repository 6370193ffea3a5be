/- The contract of octets.Compare. -/
import Derived.Test.YtpogpjnbgdbpfaaStr
import Derived.Lib.BytesEntry
import Derived.Lib.Bytealg
import Derived.WalkLawsBesides
namespace Go.Proofs.Ytpogpjnbgdbpfaa
open Go.ChangeShapes Go.WideShapes Go.ChangeAt Go.RowKit

/-- Which of two lists of numbers is the lesser: one by one; a beginning is the lesser. -/
def cmpI : List Int → List Int → Int
  | [], [] => 0
  | [], _ :: _ => -1
  | _ :: _, [] => 1
  | x :: xs, y :: ys => if x < y then -1 else if y < x then 1 else cmpI xs ys
theorem byte_lt {x y : Int} (hx : 0 ≤ x ∧ x ≤ 255) (hy : 0 ≤ y ∧ y ≤ 255) : UInt8.ofNat x.toNat < UInt8.ofNat y.toNat ↔ x < y := by
  rw [UInt8.lt_iff_toNat_lt]
  simp only [UInt8.toNat_ofNat']
  omega
theorem cmpI_eq : ∀ xs ys, Bytes8 xs → Bytes8 ys → Lib.compareBytes (xs.map fun n => UInt8.ofNat n.toNat) (ys.map fun n => UInt8.ofNat n.toNat) = cmpI xs ys
  | [], [], _, _ => rfl
  | [], _ :: _, _, _ => rfl
  | _ :: _, [], _, _ => rfl
  | x :: xs, y :: ys, hx, hy => by
    have h1 := hx x (by simp)
    have h2 := hy y (by simp)
    simp only [List.map_cons, Lib.compareBytes, cmpI]
    rw [cmpI_eq xs ys (fun z hz => hx z (by simp [hz])) (fun z hz => hy z (by simp [hz]))]
    simp only [byte_lt h1 h2, byte_lt h2 h1]

theorem Holds.load {P : Program} {w : World} {A : Option Addr} {xs : List Int} (h : Holds w A xs) (c : Nat) : (Extern.Bytes.bytesOf (.slice A xs.length c)).run P w = .ok (strOfNums xs) w := by
  cases A with
  | none =>
    have : xs = [] := by
      rcases Nat.eq_zero_or_pos xs.length with h0 | h0
      · exact List.eq_nil_of_length_eq_zero h0
      · obtain ⟨ad, e, _⟩ := h.2 h0
        cases e
    subst this
    rfl
  | some a =>
    have hl := Lib.run_loadBytesX (P := P) w xs a .empty (fun j x hj => by
      rcases Nat.eq_zero_or_pos xs.length with h0 | h0
      · rw [List.eq_nil_of_length_eq_zero h0] at hj; cases hj
      · obtain ⟨ad, e, _, hc⟩ := h.2 h0
        injection e with e
        subst e
        exact hc j _ (by rw [List.getElem?_map, hj]; rfl))
    simp only [Extern.Bytes.bytesOf]
    rw [hl]
    have e : ByteArray.empty.data ++ (Lib.bytesOf xs).toArray = (strOfNums xs).data := by
      simp [strOfNums, Lib.bytesOf, ByteArray.empty, ByteArray.emptyWithCapacity]
      rfl
    rw [e]
theorem run_compareSlices {P : Program} {w : World} {A B : Option Addr} {xs ys : List Int} (ha : Holds w A xs) (hb : Holds w B ys) (hx : Bytes8 xs) (hy : Bytes8 ys) (c d : Nat) :
    (Extern.BytealgCompare.compare #[.slice A xs.length c, .slice B ys.length d]).run P w = .ok (.int .i64 (cmpI xs ys)) w := by
  change Sem.run P (do pure (goInt (Extern.BytealgCompare.cmp (← Extern.Bytes.bytesOf (.slice A xs.length c)) (← Extern.Bytes.bytesOf (.slice B ys.length d))))) w = _
  simp only [Sem.run_bind, Sem.run_pure, ha.load c, hb.load d, Result.andThen]
  rw [Lib.cmp_eq, strOfNums_data, strOfNums_data, cmpI_eq xs ys hx hy]
  rfl

theorem less_cmpI : ∀ xs ys, Bytes8 xs → Bytes8 ys → Op.bytesLess (xs.map fun n => UInt8.ofNat n.toNat) (ys.map fun n => UInt8.ofNat n.toNat) = decide (cmpI xs ys = -1)
  | [], [], _, _ => rfl
  | [], _ :: _, _, _ => rfl
  | _ :: _, [], _, _ => rfl
  | x :: xs, y :: ys, hx, hy => by
    have h1 := hx x (by simp)
    have h2 := hy y (by simp)
    simp only [List.map_cons, Op.bytesLess, cmpI]
    rw [less_cmpI xs ys (fun z hz => hx z (by simp [hz])) (fun z hz => hy z (by simp [hz]))]
    by_cases hlt : x < y
    · have := (byte_lt h1 h2).2 hlt
      simp [hlt, this]
    · have hn : ¬ (UInt8.ofNat x.toNat < UInt8.ofNat y.toNat) := fun h => hlt ((byte_lt h1 h2).1 h)
      by_cases hgt : y < x
      · have hne : ¬ (UInt8.ofNat x.toNat = UInt8.ofNat y.toNat) := fun h => by have := byte_inj h1 h2 h; omega
        simp [hlt, hgt, hn, hne]
      · have : x = y := by omega
        subst this
        simp [hlt, hn]
theorem cmpI_zero : ∀ xs ys, cmpI xs ys = 0 ↔ xs = ys
  | [], [] => by simp [cmpI]
  | [], _ :: _ => by simp [cmpI]
  | _ :: _, [] => by simp [cmpI]
  | x :: xs, y :: ys => by
    simp only [cmpI, List.cons.injEq]
    rw [← cmpI_zero xs ys]
    by_cases hlt : x < y
    · rw [if_pos hlt]; constructor
      · intro h; omega
      · intro h; omega
    · by_cases hgt : y < x
      · rw [if_neg hlt, if_pos hgt]; constructor
        · intro h; omega
        · intro h; omega
      · rw [if_neg hlt, if_neg hgt]; constructor
        · intro h; exact ⟨by omega, h⟩
        · intro h; exact h.2
theorem cmpI_range : ∀ xs ys, cmpI xs ys = -1 ∨ cmpI xs ys = 0 ∨ cmpI xs ys = 1
  | [], [] => by simp [cmpI]
  | [], _ :: _ => by simp [cmpI]
  | _ :: _, [] => by simp [cmpI]
  | x :: xs, y :: ys => by
    have := cmpI_range xs ys
    simp only [cmpI]
    split
    · simp
    · split
      · simp
      · exact this
theorem cmpI_neg : ∀ xs ys, cmpI ys xs = - cmpI xs ys
  | [], [] => by simp [cmpI]
  | [], _ :: _ => by simp [cmpI]
  | _ :: _, [] => by simp [cmpI]
  | x :: xs, y :: ys => by
    have := cmpI_neg xs ys
    simp only [cmpI]
    by_cases hlt : x < y
    · rw [if_neg (by omega), if_pos hlt, if_pos hlt]; rfl
    · by_cases hgt : y < x
      · rw [if_pos hgt, if_neg hlt, if_pos hgt]
      · rw [if_neg hgt, if_neg hlt, if_neg hlt, if_neg hgt, this]
theorem cmpI_take : ∀ (xs : List Int) (k : Nat), k ≤ xs.length → cmpI (xs.take k) xs = if k < xs.length then -1 else 0
  | [], k, h => by simp at h; subst h; simp [cmpI]
  | x :: xs, 0, _ => by simp [cmpI]
  | x :: xs, k + 1, h => by
    have := cmpI_take xs k (by simpa using h)
    simp only [List.take_succ_cons, cmpI, Int.lt_irrefl, if_false, List.length_cons]
    rw [this]
    by_cases hk : k < xs.length
    · rw [if_pos hk, if_pos (by omega)]
    · rw [if_neg hk, if_neg (by omega)]

set_option maxHeartbeats 1000000 in
theorem bytesCompare_any (A B : Option Addr) (xs ys : List Int) (c d : Nat) (w : World) (ha : Holds w A xs) (hb : Holds w B ys) (hx : Bytes8 xs) (hy : Bytes8 ys) :
    Calls Try.prog 49 #[.slice A xs.length c, .slice B ys.length d] w fun e w' => e = .returned (.int .i64 (cmpI xs ys)) ∧ w = w' := by
  have HR := hide (run_compareSlices (P := Try.prog) ha hb hx hy c d)
  clear ha hb hx hy
  go_enter Try.func49, Try.ntmps49
  go_wp2
  rw [run_callFunc_extern Try.func55 (by kernel_rfl) (by kernel_rfl) (by kernel_rfl) (e := Extern.BytealgCompare.compare) (by kernel_rfl), unhide HR]
  simp only [Result.andThen]
  rw [Oper.upon_value]
  go_wp2
  go_ret
  exact ⟨rfl, rfl⟩

set_option maxHeartbeats 1000000 in
theorem compare_any (A B : Option Addr) (xs ys : List Int) (c d : Nat) (w : World) (ha : Holds w A xs) (hb : Holds w B ys) (hx : Bytes8 xs) (hy : Bytes8 ys) :
    Calls Try.prog 26 #[.slice A xs.length c, .slice B ys.length d] w fun e w' => e = .returned (.int .i64 (cmpI xs ys)) ∧ w = w' := by
  go_enter Try.func26, Try.ntmps26
  go_wp2_with (go_at_call 49; refine (bytesCompare_any A B xs ys c d w ha hb hx hy).mono ?_; rintro e w' ⟨rfl, rfl⟩)
  go_ret
  exact ⟨rfl, rfl⟩

set_option maxHeartbeats 1000000 in
theorem refCompare_any (A B : Option Addr) (xs ys : List Int) (c d : Nat) (w : World) (ha : Holds w A xs) (hb : Holds w B ys) (hx : Bytes8 xs) (hy : Bytes8 ys) :
    Calls Try.prog 27 #[.slice A xs.length c, .slice B ys.length d] w fun e w' => e = .returned (.int .i64 (cmpI xs ys)) ∧ w = w' := by
  have ka := ha.str Try.underlying24 Try.underlying5 Try.underlying9 c
  have kb := hb.str Try.underlying24 Try.underlying5 Try.underlying9 d
  have hL : Op.bytesLess (strOfNums xs).toList (strOfNums ys).toList = decide (cmpI xs ys = -1) := by rw [str_toList, str_toList]; exact less_cmpI xs ys hx hy
  have hE : ((strOfNums xs).toList == (strOfNums ys).toList) = decide (xs = ys) := str_beq hx hy
  clear ha hb hx hy
  have hr := cmpI_range xs ys
  rcases hr with hr | hr | hr
  · have l1 : Op.bytesLess (strOfNums xs).toList (strOfNums ys).toList = true := by rw [hL, hr]; rfl
    have HR := hide hr
    clear hL hE hr
    go_enter Try.func27, Try.ntmps27
    go_wp2
    go_ret
    exact ⟨ret_int (unhide HR).symm, rfl⟩
  · have l1 : Op.bytesLess (strOfNums xs).toList (strOfNums ys).toList = false := by rw [hL, hr]; rfl
    have l2 : ((strOfNums xs).toList == (strOfNums ys).toList) = true := by rw [hE]; exact decide_eq_true ((cmpI_zero xs ys).1 hr)
    have HR := hide hr
    clear hL hE hr
    go_enter Try.func27, Try.ntmps27
    go_wp2
    go_ret
    exact ⟨ret_int (unhide HR).symm, rfl⟩
  · have l1 : Op.bytesLess (strOfNums xs).toList (strOfNums ys).toList = false := by rw [hL, hr]; rfl
    have l2 : ((strOfNums xs).toList == (strOfNums ys).toList) = false := by rw [hE]; exact decide_eq_false (fun e => by have := (cmpI_zero xs ys).2 e; omega)
    have HR := hide hr
    clear hL hE hr
    go_enter Try.func27, Try.ntmps27
    go_wp2
    go_ret
    exact ⟨ret_int (unhide HR).symm, rfl⟩

end Go.Proofs.Ytpogpjnbgdbpfaa
