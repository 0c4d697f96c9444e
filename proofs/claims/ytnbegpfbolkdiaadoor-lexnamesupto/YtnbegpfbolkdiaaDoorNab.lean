/- The bound of what came in. -/
import Derived.Test.YtnbegpfbolkdiaaDoorFro
namespace Go.Proofs.YtnbegpfbolkdiaaDoor
open Go.ChangeShapes Go.RowKit
set_option linter.unusedVariables false
set_option linter.unusedSimpArgs false

theorem bulk_bound {H : Type} {l : List (DataW H)} (hk : Rows.uptoSmall H l = true) : Rows.uptoBulkAll l ≤ 1048576 := of_decide_eq_true hk
end Go.Proofs.YtnbegpfbolkdiaaDoor
