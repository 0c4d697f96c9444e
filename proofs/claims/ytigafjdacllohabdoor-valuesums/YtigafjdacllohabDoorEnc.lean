/- add, Encode: a value's bytes. -/
import Derived.Test.YtigafjdacllohabDoorAcc
namespace Go.Proofs.YtigafjdacllohabDoor
set_option maxRecDepth 100000
open Go.RowKit
set_option linter.unusedVariables false
set_option linter.unusedSimpArgs false

def vcells (V : Vl) : List Value := [.int .i64 V.ty, .int .i64 V.n, .string (strOf V.t), .bool V.b]
def valOf (V : Vl) : Value := .agg #[.int .i64 V.ty, .int .i64 V.n, .string (strOf V.t), .bool V.b]
def Box (w : World) (b : Nat) (V : Vl) : Prop := w.heap[b]? = some (.cells #[.int .i64 V.ty, .int .i64 V.n, .string (strOf V.t), .bool V.b] 23 (0, 0))
theorem Box.cells {w : World} {b : Nat} {V : Vl} (h : Box w b V) : w.cell? ⟨b, 0, none⟩ = some (.int .i64 V.ty) ∧ w.cell? ⟨b, 1, none⟩ = some (.int .i64 V.n) ∧ w.cell? ⟨b, 2, none⟩ = some (.string (strOf V.t)) ∧ w.cell? ⟨b, 3, none⟩ = some (.bool V.b) := by
  refine ⟨?_, ?_, ?_, ?_⟩ <;> (rw [cell_row h]; rfl)
theorem Box.belowW {w w' : World} {b : Nat} {V : Vl} (h : Box w b V) (hb : Below w.heap.size w w') : Box w' b V := (hb.block b (lt_of_heap h)).trans h
theorem box_new (w : World) (V : Vl) : Box (w.alloc (.cells #[.int .i64 V.ty, .int .i64 V.n, .string (strOf V.t), .bool V.b] 23)) w.heap.size V := heap_alloc_new w _
theorem Tryd.isAgg3 : ∀ w, (isAgg 3).run Tryd.prog w = .ok false w := fun w => by kernel_rfl
theorem Tryd.isAgg9 : ∀ w, (isAgg 9).run Tryd.prog w = .ok false w := fun w => by kernel_rfl
theorem Tryd.isAgg4 : ∀ w, (isAgg 4).run Tryd.prog w = .ok false w := fun w => by kernel_rfl
theorem strOf_size (bs : List UInt8) : (strOf bs).size = bs.length := by
  show bs.toArray.size = _
  simp
theorem run_idx (w : World) (t : List UInt8) (k : Nat) (hk : k < t.length) : (Instr.index 9 (.string (strOf t)) (.int .i64 (k : Int))).run Tryd.prog w = .ok (.int .u8 ((t.getD k 0).toNat : Int)) w := by
  rw [run_index_string w 9 _ _ _ Tryd.underlying9]
  have hs := strOf_size t
  rw [dif_pos ⟨by omega, by omega⟩]
  have e : (strOf t)[(k : Int).toNat]'(by omega) = t.getD k 0 := by
    show t.toArray[(k : Int).toNat]'_ = _
    simp [hk]
  rw [e]
end Go.Proofs.YtigafjdacllohabDoor
