/- How values stand: cmp.Compare, key.Compare, the document's; clean. -/
import Derived.Test.YtigafjdacllohabDoorEnc
namespace Go.Proofs.YtigafjdacllohabDoor
set_option maxRecDepth 100000
open Go.RowKit
set_option linter.unusedVariables false
set_option linter.unusedSimpArgs false

theorem strOf_toList (s : List UInt8) : (strOf s).toList = s := by
  rw [ByteArray.toList_eq]
  rfl
theorem cmpS_cases (x y : List UInt8) : (Op.bytesLess x y = true ∧ (x == y) = false ∧ cmpS x y = -1) ∨ (Op.bytesLess x y = false ∧ (x == y) = true ∧ cmpS x y = 0) ∨ (Op.bytesLess x y = false ∧ (x == y) = false ∧ cmpS x y = 1) := by
  unfold cmpS
  cases h : Op.bytesLess x y with
  | true => left; refine ⟨rfl, beq_eq_false_iff_ne.2 fun e => ?_, by simp⟩; rw [e, less_irrefl] at h; cases h
  | false =>
    by_cases e : x = y
    · right; left; exact ⟨rfl, beq_iff_eq.2 e, by simp [e]⟩
    · right; right; exact ⟨rfl, beq_eq_false_iff_ne.2 e, by simp [e]⟩
theorem two_boxes (w : World) (A B : Vl) : Box ((w.alloc (.cells #[.int .i64 A.ty, .int .i64 A.n, .string (strOf A.t), .bool A.b] 23)).alloc (.cells #[.int .i64 B.ty, .int .i64 B.n, .string (strOf B.t), .bool B.b] 23)) w.heap.size A ∧ Box ((w.alloc (.cells #[.int .i64 A.ty, .int .i64 A.n, .string (strOf A.t), .bool A.b] 23)).alloc (.cells #[.int .i64 B.ty, .int .i64 B.n, .string (strOf B.t), .bool B.b] 23)) (w.heap.size + 1) B ∧ Below w.heap.size w ((w.alloc (.cells #[.int .i64 A.ty, .int .i64 A.n, .string (strOf A.t), .bool A.b] 23)).alloc (.cells #[.int .i64 B.ty, .int .i64 B.n, .string (strOf B.t), .bool B.b] 23)) := by
  refine ⟨(box_new w A).belowW ((Below.refl _ _).alloc (Nat.le_refl _) _), ?_, ((Below.refl _ w).alloc (Nat.le_refl _) _).alloc (by simp) _⟩
  have := box_new (w.alloc (.cells #[.int .i64 A.ty, .int .i64 A.n, .string (strOf A.t), .bool A.b] 23)) B
  rwa [show (w.alloc (.cells #[.int .i64 A.ty, .int .i64 A.n, .string (strOf A.t), .bool A.b] 23)).heap.size = w.heap.size + 1 by simp] at this
theorem new2 (w : World) (o o' : Obj) : ((w.alloc o).alloc o').heap[w.heap.size + 1]? = some o' := by
  have := heap_alloc_new (w.alloc o) o'
  rwa [show (w.alloc o).heap.size = w.heap.size + 1 by simp] at this
theorem Tryd.size23 : (Tryd.prog.info? 23).map (·.size) = some 4 := by kernel_rfl
end Go.Proofs.YtigafjdacllohabDoor
