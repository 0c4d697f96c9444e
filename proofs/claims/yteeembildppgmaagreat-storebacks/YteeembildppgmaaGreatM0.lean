/- Short names. -/
import Derived.WalkKit
namespace Go.Proofs.YteeembildppgmaaGreat
open Go.RowKit
theorem zA (l : List Value) (i : Nat) (a : Value) : l.toArray.setIfInBounds i a = (l.set i a).toArray := by simp
theorem zB (x a : Value) (l : List Value) : (x :: l).set 0 a = a :: l := rfl
theorem zC (x a : Value) (l : List Value) (n : Nat) : (x :: l).set (n + 1) a = x :: l.set n a := rfl
end Go.Proofs.YteeembildppgmaaGreat
