/- Types within types: the texts, and what Parse makes of them. -/
import Derived.Test.YtckcbgijddglpaaDoorSyn31
namespace Go.Proofs.YtckcbgijddglpaaDoor
open Go.ChangeShapes Go.WideShapes Go.ChangeAt Go.RowKit Go.PlainAid
set_option linter.unusedVariables false
set_option linter.unusedSimpArgs false
def preL : List UInt8 := [77, 32, 68, 69, 70, 73, 78, 73, 84, 73, 79, 78, 83, 32, 58, 58, 61, 32, 66, 69, 71, 73, 78, 32, 65, 32, 58, 58, 61, 32]
def sofL : List UInt8 := [83, 69, 81, 85, 69, 78, 67, 69, 32, 79, 70, 32]
def endL : List UInt8 := [32, 69, 78, 68]
def seqsL : Nat → List UInt8
  | 0 => []
  | n + 1 => seqsL n ++ sofL
def deepL (n : Nat) : List UInt8 := preL ++ (seqsL n ++ [78, 85, 76, 76]) ++ endL
def deepOk (n : Nat) : Bool := match parseT (toks ⟨(deepL n).toArray⟩) with
  | .ok m => decide (n ≤ 16) && m.nodes.length == n + 1 && (match m.nodes[n]? with | some nd => nd.kind == 4 | none => false)
  | .error (p, x) => decide (16 < n) && decide (p = 234) && x == 5
theorem deep_0 : deepOk 0 = true := by kernel_rfl
theorem deep_1 : deepOk 1 = true := by kernel_rfl
theorem deep_2 : deepOk 2 = true := by kernel_rfl
theorem deep_3 : deepOk 3 = true := by kernel_rfl
theorem deep_4 : deepOk 4 = true := by kernel_rfl
theorem deep_5 : deepOk 5 = true := by kernel_rfl
theorem deep_6 : deepOk 6 = true := by kernel_rfl
theorem deep_7 : deepOk 7 = true := by kernel_rfl
theorem deep_8 : deepOk 8 = true := by kernel_rfl
theorem deep_9 : deepOk 9 = true := by kernel_rfl
theorem deep_10 : deepOk 10 = true := by kernel_rfl
theorem deep_11 : deepOk 11 = true := by kernel_rfl
theorem deep_12 : deepOk 12 = true := by kernel_rfl
theorem deep_13 : deepOk 13 = true := by kernel_rfl
theorem deep_14 : deepOk 14 = true := by kernel_rfl
theorem deep_15 : deepOk 15 = true := by kernel_rfl
theorem deep_16 : deepOk 16 = true := by kernel_rfl
theorem deep_17 : deepOk 17 = true := by kernel_rfl
theorem deep_18 : deepOk 18 = true := by kernel_rfl
theorem deep_19 : deepOk 19 = true := by kernel_rfl
theorem deep_20 : deepOk 20 = true := by kernel_rfl
theorem deep_21 : deepOk 21 = true := by kernel_rfl
theorem deep_all (n : Nat) (h : n < 22) : deepOk n = true := by
  match n, h with
  | 0, _ => exact deep_0
  | 1, _ => exact deep_1
  | 2, _ => exact deep_2
  | 3, _ => exact deep_3
  | 4, _ => exact deep_4
  | 5, _ => exact deep_5
  | 6, _ => exact deep_6
  | 7, _ => exact deep_7
  | 8, _ => exact deep_8
  | 9, _ => exact deep_9
  | 10, _ => exact deep_10
  | 11, _ => exact deep_11
  | 12, _ => exact deep_12
  | 13, _ => exact deep_13
  | 14, _ => exact deep_14
  | 15, _ => exact deep_15
  | 16, _ => exact deep_16
  | 17, _ => exact deep_17
  | 18, _ => exact deep_18
  | 19, _ => exact deep_19
  | 20, _ => exact deep_20
  | 21, _ => exact deep_21
  | n + 22, h => exact absurd h (by omega)
end Go.Proofs.YtckcbgijddglpaaDoor
