/-
  No cell of these rows narrows 'for every input' (looked for: loops, veiled, ifaces, maps, wideKeys, modest, calm, conditions, laid).
  DERIVED. THE GIVEN ROWS OF THIS SEAT. 6 by the template 'for every input the law returns true; each argument reads behind the call as it read before'; 0 by the template 'total and deterministic' (their statements: YteeembildppgmaaGreatTotals.lean).
  GIVEN WITH THE SEED: the statements are not yours to turn. If you find one false, say at which input.
  Laid BY PROGRAM, IN A SANDBOX (cutbox-rows.mjs): the forced cells as the released guide's own fill.sh prints them over the translation 3dd1543e01556d91… (all of the seat's roots in one cut). By AI agents, Wed Nov 11 2026. No macro, syntax, notation, axiom, sorry.
-/
import Derived.Test.YteeembildppgmaaGreatChecked
import GoSem.Claim
import GoSem.ClaimJoined
import GoSem.ClaimMapViews
import Derived.JoinedTies
import Derived.KernelRfl
namespace Go.Proofs.YteeembildppgmaaGreat
/- THE CELL 'sum', in the pinned program and in every row, IS THE sha256 OF THE DUMP (.gsa) THAT YteeembildppgmaaGreatProg.lean LOADS. Nothing in Lean hashes anything: it is a label: what it is worth is what the hold of that sum in a sandbox is worth. -/
noncomputable def Tryz.pinned : Pinned := { name := "yteeembildppgmaagreat", sum := "3dd1543e01556d91ccde937065ff91ba1410d4f0199e9589237d22f71919793a", checked := Tryz.checked }
namespace Rows
def none {H : Type} : Left H := { results := [], args := [] }

/-- 'palimpsestlaw7.StoreMarks': WHATEVER THE INPUT: true; the input reads as it did. -/
def storeMarksSpec : ChangeSpec := { name := "storeMarks", fn := fun _ => fun
  | [d1, d2] => { results := [.lit (.bool true)], args := [d1, d2] }
  | _ => none }
def storeMarksRow : OpenClaim := { program := "yteeembildppgmaagreat", sum := "3dd1543e01556d91ccde937065ff91ba1410d4f0199e9589237d22f71919793a", func := "palimpsest/palimpsestlaw7.StoreMarks", spec := "storeMarks", unfollowed := true, recurses := true, apart := false }
def StoreMarksSaid : Prop := storeMarksRow.holds Tryz.pinned (OpenSpec.ofChange storeMarksSpec)

/-- ITS FALSE NEIGHBOUR: 'it returns false'. Refute it at one input. -/
def storeMarksWrong : ChangeSpec := { name := "storeMarks", fn := fun _ => fun
  | [d1, d2] => { results := [.lit (.bool false)], args := [d1, d2] }
  | _ => none }
def StoreMarksWrongFalsely : Prop := storeMarksRow.holds Tryz.pinned (OpenSpec.ofChange storeMarksWrong)

/-- 'palimpsestlaw7.StoreLazy': WHATEVER THE INPUT: true; the input reads as it did. -/
def storeLazySpec : ChangeSpec := { name := "storeLazy", fn := fun _ => fun
  | [d] => { results := [.lit (.bool true)], args := [d] }
  | _ => none }
def storeLazyRow : OpenClaim := { program := "yteeembildppgmaagreat", sum := "3dd1543e01556d91ccde937065ff91ba1410d4f0199e9589237d22f71919793a", func := "palimpsest/palimpsestlaw7.StoreLazy", spec := "storeLazy", unfollowed := true, recurses := true, apart := false }
def StoreLazySaid : Prop := storeLazyRow.holds Tryz.pinned (OpenSpec.ofChange storeLazySpec)

/-- ITS FALSE NEIGHBOUR: 'it returns false'. Refute it at one input. -/
def storeLazyWrong : ChangeSpec := { name := "storeLazy", fn := fun _ => fun
  | [d] => { results := [.lit (.bool false)], args := [d] }
  | _ => none }
def StoreLazyWrongFalsely : Prop := storeLazyRow.holds Tryz.pinned (OpenSpec.ofChange storeLazyWrong)

/-- 'palimpsestlaw7.StoreSteals': WHATEVER THE INPUT: true; the input reads as it did. -/
def storeStealsSpec : ChangeSpec := { name := "storeSteals", fn := fun _ => fun
  | [d1, d2, d3] => { results := [.lit (.bool true)], args := [d1, d2, d3] }
  | _ => none }
def storeStealsRow : OpenClaim := { program := "yteeembildppgmaagreat", sum := "3dd1543e01556d91ccde937065ff91ba1410d4f0199e9589237d22f71919793a", func := "palimpsest/palimpsestlaw7.StoreSteals", spec := "storeSteals", unfollowed := true, recurses := true, apart := false }
def StoreStealsSaid : Prop := storeStealsRow.holds Tryz.pinned (OpenSpec.ofChange storeStealsSpec)

/-- ITS FALSE NEIGHBOUR: 'it returns false'. Refute it at one input. -/
def storeStealsWrong : ChangeSpec := { name := "storeSteals", fn := fun _ => fun
  | [d1, d2, d3] => { results := [.lit (.bool false)], args := [d1, d2, d3] }
  | _ => none }
def StoreStealsWrongFalsely : Prop := storeStealsRow.holds Tryz.pinned (OpenSpec.ofChange storeStealsWrong)

/-- 'palimpsestlaw7.StoreLayout': WHATEVER THE INPUT: true; the input reads as it did. -/
def storeLayoutSpec : ChangeSpec := { name := "storeLayout", fn := fun _ => fun
  | [d] => { results := [.lit (.bool true)], args := [d] }
  | _ => none }
def storeLayoutRow : OpenClaim := { program := "yteeembildppgmaagreat", sum := "3dd1543e01556d91ccde937065ff91ba1410d4f0199e9589237d22f71919793a", func := "palimpsest/palimpsestlaw7.StoreLayout", spec := "storeLayout", unfollowed := true, recurses := true, apart := false }
def StoreLayoutSaid : Prop := storeLayoutRow.holds Tryz.pinned (OpenSpec.ofChange storeLayoutSpec)

/-- ITS FALSE NEIGHBOUR: 'it returns false'. Refute it at one input. -/
def storeLayoutWrong : ChangeSpec := { name := "storeLayout", fn := fun _ => fun
  | [d] => { results := [.lit (.bool false)], args := [d] }
  | _ => none }
def StoreLayoutWrongFalsely : Prop := storeLayoutRow.holds Tryz.pinned (OpenSpec.ofChange storeLayoutWrong)

/-- 'palimpsestlaw7.StoreBacks': WHATEVER THE INPUT: true; the input reads as it did. -/
def storeBacksSpec : ChangeSpec := { name := "storeBacks", fn := fun _ => fun
  | [d1, d2] => { results := [.lit (.bool true)], args := [d1, d2] }
  | _ => none }
def storeBacksRow : OpenClaim := { program := "yteeembildppgmaagreat", sum := "3dd1543e01556d91ccde937065ff91ba1410d4f0199e9589237d22f71919793a", func := "palimpsest/palimpsestlaw7.StoreBacks", spec := "storeBacks", unfollowed := true, recurses := true, apart := false }
def StoreBacksSaid : Prop := storeBacksRow.holds Tryz.pinned (OpenSpec.ofChange storeBacksSpec)

/-- ITS FALSE NEIGHBOUR: 'it returns false'. Refute it at one input. -/
def storeBacksWrong : ChangeSpec := { name := "storeBacks", fn := fun _ => fun
  | [d1, d2] => { results := [.lit (.bool false)], args := [d1, d2] }
  | _ => none }
def StoreBacksWrongFalsely : Prop := storeBacksRow.holds Tryz.pinned (OpenSpec.ofChange storeBacksWrong)

/-- 'palimpsestlaw7.StoreApart': WHATEVER THE INPUT: true; the input reads as it did. -/
def storeApartSpec : ChangeSpec := { name := "storeApart", fn := fun _ => fun
  | [d1, d2, d3] => { results := [.lit (.bool true)], args := [d1, d2, d3] }
  | _ => none }
def storeApartRow : OpenClaim := { program := "yteeembildppgmaagreat", sum := "3dd1543e01556d91ccde937065ff91ba1410d4f0199e9589237d22f71919793a", func := "palimpsest/palimpsestlaw7.StoreApart", spec := "storeApart", unfollowed := true, recurses := true, apart := false }
def StoreApartSaid : Prop := storeApartRow.holds Tryz.pinned (OpenSpec.ofChange storeApartSpec)

/-- ITS FALSE NEIGHBOUR: 'it returns false'. Refute it at one input. -/
def storeApartWrong : ChangeSpec := { name := "storeApart", fn := fun _ => fun
  | [d1, d2, d3] => { results := [.lit (.bool false)], args := [d1, d2, d3] }
  | _ => none }
def StoreApartWrongFalsely : Prop := storeApartRow.holds Tryz.pinned (OpenSpec.ofChange storeApartWrong)

/- THE SECOND FORM. 'bulk': how many values and letters a reading holds, each counted each time it is reached (what is shared counts as often as it is met; a slice's spare places count too). A statement '..UptoSaid' is the law's where the arguments, and the package variables that the reading takes, are together of bulk at most 1048576: NARROWER than '..Said'. Prove '..Said' where nothing that the law and all that it calls make is longer than what came in: it says more and counts as full. Else prove '..UptoSaid'. A law counts once. -/
mutual
def uptoBulk {H : Type} : DataW H → Nat
  | .lit (.string bytes) => bytes.length + 1
  | .lit _ => 1
  | .nil => 1
  | .ptr d => uptoBulk d + 1
  | .slice elems spare => uptoBulkAll elems + uptoBulkAll spare + 1
  | .agg parts => uptoBulkAll parts + 1
  | .iface _ d => uptoBulk d + 1
  | .map entries => uptoBulkEntries entries + 1
  | .held _ => 1
def uptoBulkAll {H : Type} : List (DataW H) → Nat
  | [] => 0
  | d :: r => uptoBulk d + uptoBulkAll r
def uptoBulkEntries {H : Type} : List (Lit × DataW H) → Nat
  | [] => 0
  | x :: r => uptoBulkEntry x + uptoBulkEntries r
def uptoBulkEntry {H : Type} : Lit × DataW H → Nat
  | (.string bytes, d) => bytes.length + uptoBulk d + 1
  | (_, d) => uptoBulk d + 1
 end
def uptoSmall : (H : Type) → List (DataW H) → Bool := fun _ ds => decide (uptoBulkAll ds ≤ 1048576)
def OpenSpec.upto (s : _root_.Go.ChangeSpec) : _root_.Go.OpenSpec := { _root_.Go.OpenSpec.ofChange s with cond := some uptoSmall }

/-- 'palimpsestlaw7.StoreMarks', WHERE WHAT IT READS IS OF BULK AT MOST 1048576: true; the input reads as it did. -/
def storeMarksUptoRow : OpenClaim := { program := "yteeembildppgmaagreat", sum := "3dd1543e01556d91ccde937065ff91ba1410d4f0199e9589237d22f71919793a", func := "palimpsest/palimpsestlaw7.StoreMarks", spec := "storeMarks", unfollowed := true, recurses := true, apart := false, narrowed := true }
def StoreMarksUptoSaid : Prop := storeMarksUptoRow.holds Tryz.pinned (OpenSpec.upto storeMarksSpec)

/-- 'palimpsestlaw7.StoreLazy', WHERE WHAT IT READS IS OF BULK AT MOST 1048576: true; the input reads as it did. -/
def storeLazyUptoRow : OpenClaim := { program := "yteeembildppgmaagreat", sum := "3dd1543e01556d91ccde937065ff91ba1410d4f0199e9589237d22f71919793a", func := "palimpsest/palimpsestlaw7.StoreLazy", spec := "storeLazy", unfollowed := true, recurses := true, apart := false, narrowed := true }
def StoreLazyUptoSaid : Prop := storeLazyUptoRow.holds Tryz.pinned (OpenSpec.upto storeLazySpec)

/-- 'palimpsestlaw7.StoreSteals', WHERE WHAT IT READS IS OF BULK AT MOST 1048576: true; the input reads as it did. -/
def storeStealsUptoRow : OpenClaim := { program := "yteeembildppgmaagreat", sum := "3dd1543e01556d91ccde937065ff91ba1410d4f0199e9589237d22f71919793a", func := "palimpsest/palimpsestlaw7.StoreSteals", spec := "storeSteals", unfollowed := true, recurses := true, apart := false, narrowed := true }
def StoreStealsUptoSaid : Prop := storeStealsUptoRow.holds Tryz.pinned (OpenSpec.upto storeStealsSpec)

/-- 'palimpsestlaw7.StoreLayout', WHERE WHAT IT READS IS OF BULK AT MOST 1048576: true; the input reads as it did. -/
def storeLayoutUptoRow : OpenClaim := { program := "yteeembildppgmaagreat", sum := "3dd1543e01556d91ccde937065ff91ba1410d4f0199e9589237d22f71919793a", func := "palimpsest/palimpsestlaw7.StoreLayout", spec := "storeLayout", unfollowed := true, recurses := true, apart := false, narrowed := true }
def StoreLayoutUptoSaid : Prop := storeLayoutUptoRow.holds Tryz.pinned (OpenSpec.upto storeLayoutSpec)

/-- 'palimpsestlaw7.StoreBacks', WHERE WHAT IT READS IS OF BULK AT MOST 1048576: true; the input reads as it did. -/
def storeBacksUptoRow : OpenClaim := { program := "yteeembildppgmaagreat", sum := "3dd1543e01556d91ccde937065ff91ba1410d4f0199e9589237d22f71919793a", func := "palimpsest/palimpsestlaw7.StoreBacks", spec := "storeBacks", unfollowed := true, recurses := true, apart := false, narrowed := true }
def StoreBacksUptoSaid : Prop := storeBacksUptoRow.holds Tryz.pinned (OpenSpec.upto storeBacksSpec)

/-- 'palimpsestlaw7.StoreApart', WHERE WHAT IT READS IS OF BULK AT MOST 1048576: true; the input reads as it did. -/
def storeApartUptoRow : OpenClaim := { program := "yteeembildppgmaagreat", sum := "3dd1543e01556d91ccde937065ff91ba1410d4f0199e9589237d22f71919793a", func := "palimpsest/palimpsestlaw7.StoreApart", spec := "storeApart", unfollowed := true, recurses := true, apart := false, narrowed := true }
def StoreApartUptoSaid : Prop := storeApartUptoRow.holds Tryz.pinned (OpenSpec.upto storeApartSpec)

end Rows
end Go.Proofs.YteeembildppgmaaGreat
