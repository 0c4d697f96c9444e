/- Held, whatever is held. -/
import Derived.Test.YtffjdjbjkjefoaaHel
import Derived.Shelf.SlSortCmp.NoneTotal
namespace Go.Proofs.Ytffjdjbjkjefoaa
open Go.RowKit Go.WideAt Go.Shelf
set_option linter.unusedVariables false
set_option linter.unusedSimpArgs false

theorem sortN (w : World) : Calls Try.prog 31 #[.slice none 0 0, .func (.func 32) #[] #[]] w fun e w' => e = .returned (.tuple #[]) ∧ w' = w := by
  have hcon := AnyF.slices_SortFunc_none { Try.sortW with } none 0 (.func (.func 32) #[] #[]) w
  change Calls Try.prog 31 _ _ _ at hcon
  exact hcon
theorem held_all {w : World} {base : Nat} {B : Tb} {m : Held} {N : Nat} (hT : TabIs w base B m N) {id : Int} (hid : In64 id) (hN : (B.nm id).length ≤ 5864062014805) :
    Calls Try.prog 10 #[.pointer (some ⟨B.t, 0, none⟩), .int .i64 id] w fun e w' => ∃ v L, e = .returned v ∧ w'.ownsRow w.heap.size 31 2 v L.length (flatW L) ∧ HeldIs m id L ∧ L.length ≤ N ∧ Below w.heap.size w w' := held_any sortN hT hid hN
end Go.Proofs.Ytffjdjbjkjefoaa
