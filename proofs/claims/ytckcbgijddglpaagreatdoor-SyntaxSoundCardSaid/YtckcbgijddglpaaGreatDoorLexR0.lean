/- Lists of tokens. -/
import Derived.Test.YtckcbgijddglpaaGreatDoorLexN
import Derived.Test.YtckcbgijddglpaaGreatDoorBase
import Derived.Test.YtckcbgijddglpaaGreatDoorProg
namespace Go.Proofs.YtckcbgijddglpaaGreatDoor
open Go.ChangeShapes Go.WideShapes Go.ChangeAt Go.RowKit
set_option linter.unusedVariables false

def tokC (t : Tok) : List Value := [.int .i64 t.1, .string t.2.1, .int .i64 (t.2.2 : Nat)]
def tokL (l : List Tok) : List Value := l.flatMap tokC
theorem tokL_snoc (l : List Tok) (t : Tok) : tokL (l ++ [t]) = tokL l ++ tokC t := by simp [tokL]
theorem tokL_length (l : List Tok) : (tokL l).length = l.length * 3 := by
  induction l with
  | nil => rfl
  | cons q l ih => simp only [tokL, List.flatMap_cons, List.length_append, List.length_cons] at ih ⊢; rw [ih]; simp [tokC]; omega
theorem tokL_get : ∀ (l : List Tok) (i : Nat) (q : Tok), l[i]? = some q → ∀ j, j < 3 → (tokL l)[i * 3 + j]? = (tokC q)[j]? := by
  intro L
  induction L with
  | nil => intro i q h; simp at h
  | cons p L ih =>
    intro i q h j hj
    have hp : (tokC p).length = 3 := rfl
    cases i with
    | zero =>
      simp at h; subst h
      show (tokC p ++ tokL L)[0 * 3 + j]? = _
      rw [Nat.zero_mul, Nat.zero_add, List.getElem?_append_left (by omega)]
    | succ i =>
      simp at h
      show (tokC p ++ tokL L)[(i + 1) * 3 + j]? = _
      rw [List.getElem?_append_right (by omega), hp, show (i + 1) * 3 + j - 3 = i * 3 + j from by omega]
      exact ih i q h j hj
theorem tok_info : (Tryz.prog.info? 53).map (fun i => (i.zero, i.size, i.bytes)) = some (some (.agg #[.int .i64 0, .string ⟨#[]⟩, .int .i64 0]), 3, 32) := by kernel_rfl
theorem tokC_one (q : Tok) : ∀ u ∈ tokC q, u.oneCell' = true := by
  intro u hu
  simp only [tokC, List.mem_cons, List.not_mem_nil, or_false] at hu
  rcases hu with rfl | rfl | rfl <;> rfl
/-- The tokens of a text, or where there is none, and why. -/
def toksE : Except Nat (List Tok) → Except (Nat × Int) (List Tok)
  | .error p => .error (p, 6)
  | .ok l => .ok l
def toks (s : ByteArray) : Except (Nat × Int) (List Tok) := if 8000 < s.size then .error (0, 5) else toksE (toksAt s 0)
/-- The tokens l, and behind them what r tells. -/
def consE (l : List Tok) : Except Nat (List Tok) → Except Nat (List Tok)
  | .error p => .error p
  | .ok r => .ok (l ++ r)
theorem consE_nil (r : Except Nat (List Tok)) : consE [] r = r := by cases r <;> rfl
theorem consE_snoc (l : List Tok) (t : Tok) (r : Except Nat (List Tok)) : consE (l ++ [t]) r = consE l (match r with | .error b => .error b | .ok m => .ok (t :: m)) := by cases r <;> simp [consE]
theorem skip_skip {s : ByteArray} {i : Nat} (hi : i ≤ s.size) : skipAt s (skipAt s i) = skipAt s i := by
  obtain ⟨_, _, h3, h4⟩ := skipAt_is hi
  exact skipAt_stop h3 h4
theorem toks_at {s : ByteArray} {i : Nat} (hi : i ≤ s.size) : toksAt s (skipAt s i) = toksAt s i := by
  rw [toksAt_eq (skipAt_is hi).2.1, toksAt_eq hi, skip_skip hi]
theorem toks_end {s : ByteArray} {i : Nat} (hi : i ≤ s.size) (h : skipAt s i = i) (h2 : s.size ≤ i) : toksAt s i = .ok [(0, ⟨#[]⟩, s.size)] := by rw [toksAt_eq hi, h, if_pos h2]
theorem toks_none {s : ByteArray} {i : Nat} (hi : i < s.size) (h : skipAt s i = i) (h2 : tokAt s i = none) : toksAt s i = .error i := by rw [toksAt_eq (Nat.le_of_lt hi), h, if_neg (by omega), h2]
theorem toks_some {s : ByteArray} {i : Nat} (hi : i < s.size) (h : skipAt s i = i) {k : Int} {t : ByteArray} {e : Nat} (h2 : tokAt s i = some (k, t, e)) : toksAt s i = match toksAt s e with | .error b => .error b | .ok m => .ok ((k, t, i) :: m) := by
  rw [toksAt_eq (Nat.le_of_lt hi), h, if_neg (by omega), h2]
  rfl
/-- What a call that tells of tokens hands back. -/
def GivesToks (r : Except (Nat × Int) (List Tok)) (w : World) (e : Ending) (w' : World) : Prop :=
  match r with
  | .error (p, x) => e = .returned (.tuple #[.slice none 0 0, .int .i64 (p : Nat), .int .i64 x]) ∧ Keeps w w'
  | .ok l => ∃ A c, e = .returned (.tuple #[.slice A l.length c, .int .i64 0, .int .i64 0]) ∧ w'.ownsRow w.heap.size 53 3 (.slice A l.length c) l.length (tokL l) ∧ Keeps w w'
theorem own_kept {w w' : World} {base : Nat} {e : TypeId} {size : Nat} {v : Value} {n : Nat} {xs : List Value} (h : w.ownsRow base e size v n xs) (hb : ∀ b, v.ownBlock = some b → w'.heap[b]? = w.heap[b]?) : w'.ownsRow base e size v n xs := by
  refine ⟨h.1, ?_⟩
  rcases h.2 with hn | ⟨g, cap, cur, rfl, hbb, hgg, rest⟩
  · exact .inl hn
  · exact .inr ⟨g, cap, cur, rfl, hbb, (hb g rfl).trans hgg, rest⟩
theorem own_lt {w : World} {base : Nat} {e : TypeId} {size : Nat} {v : Value} {n : Nat} {xs : List Value} (h : w.ownsRow base e size v n xs) : ∀ b, v.ownBlock = some b → base ≤ b ∧ b < w.heap.size := by
  intro b hb
  rcases h.2 with ⟨rfl, _⟩ | ⟨g, cap, cur, rfl, hbb, hgg, rest⟩
  · cases hb
  · injection hb with hb
    subst hb
    exact ⟨hbb, (Array.getElem?_eq_some_iff.1 hgg).1⟩
theorem own_form2 {E : TypeId} {size : Nat} {w : World} {base : Nat} {v : Value} {n : Nat} {xs : List Value} (h : w.ownsRow base E size v n xs) : ∃ A c, v = .slice A n c ∧ n ≤ c := by
  rcases h.2 with ⟨rfl, rfl⟩ | ⟨g, cap, cur, rfl, _, _, h1, _⟩
  · exact ⟨none, 0, rfl, Nat.le_refl _⟩
  · exact ⟨_, cap, rfl, h1⟩
theorem own_mono {w : World} {base base' : Nat} {e : TypeId} {size : Nat} {v : Value} {n : Nat} {xs : List Value} (h : w.ownsRow base e size v n xs) (hb : base' ≤ base) : w.ownsRow base' e size v n xs := by
  refine ⟨h.1, ?_⟩
  rcases h.2 with hn | ⟨g, cap, cur, rfl, hbb, rest⟩
  · exact .inl hn
  · exact .inr ⟨g, cap, cur, rfl, Nat.le_trans hb hbb, rest⟩
theorem gives_toks {s : ByteArray} {w w' : World} {v : Value} {l : List Tok} {n : Nat} {xs : List Value} {base : Nat} (ht : toks s = .ok l) (hn : l.length = n) (hx : tokL l = xs) (hb : w.heap.size ≤ base) (ho : w'.ownsRow base 53 3 v n xs) (hk : Keeps w w') :
    GivesToks (toks s) w (.returned (.tuple #[v, .int .i64 0, .int .i64 0])) w' := by
  subst hn; subst hx
  obtain ⟨A, c, rfl, _⟩ := own_form2 ho
  rw [ht]
  exact ⟨A, c, rfl, own_mono ho hb, hk⟩
theorem gives_err {s : ByteArray} {w w' : World} {p : Nat} {x : Int} (ht : toks s = .error (p, x)) (hk : Keeps w w') : GivesToks (toks s) w (.returned (.tuple #[.slice none 0 0, .int .i64 (p : Nat), .int .i64 x])) w' := by
  rw [ht]; exact ⟨rfl, hk⟩
end Go.Proofs.YtckcbgijddglpaaGreatDoor
