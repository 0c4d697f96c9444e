/- Modes as numbers alone. -/
import Derived.Test.YtffjdjbjkjefoaaRows
import Derived.WalkKit
namespace Go.Proofs.Ytffjdjbjkjefoaa
open Go.RowKit
set_option linter.unusedVariables false
set_option linter.unusedSimpArgs false

theorem hide {p : Prop} (h : p) : Hid p := h
/-- A mode, or 0. -/
def known (n : Int) : Int := if 1 ≤ n ∧ n ≤ 5 then n else 0
def isMode (n : Int) : Bool := decide (1 ≤ n ∧ n ≤ 5)
def fits6 (a b : Nat) : Bool := ([[false, false, false, false, false, false], [false, true, true, true, true, false], [false, true, true, false, false, false], [false, true, false, true, false, false], [false, true, false, false, false, false], [false, false, false, false, false, false]].getD a []).getD b false
def join6 (a b : Nat) : Int := ([[0, 1, 2, 3, 4, 5], [1, 1, 2, 3, 4, 5], [2, 2, 2, 4, 4, 5], [3, 3, 4, 3, 4, 5], [4, 4, 4, 4, 4, 5], [5, 5, 5, 5, 5, 5]].getD a []).getD b 0
def fits (a b : Int) : Bool := fits6 (known a).toNat (known b).toNat
def join (a b : Int) : Int := join6 (known a).toNat (known b).toNat
theorem known_cases (n : Int) : known n = 0 ∨ known n = 1 ∨ known n = 2 ∨ known n = 3 ∨ known n = 4 ∨ known n = 5 := by
  unfold known
  split <;> omega
end Go.Proofs.Ytffjdjbjkjefoaa
