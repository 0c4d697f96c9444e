/- Values made; results in their cells; stores of whole values. -/
import Derived.Test.YtplpchaceiogaaaDoorSplit
import Derived.Laws.ResultCell
namespace Go.Proofs.YtplpchaceiogaaaDoor
open Go.RowKit
set_option linter.unusedVariables false
set_option linter.unusedSimpArgs false
set_option maxRecDepth 100000

theorem thenW {a b c : World} (h : Below a.heap.size a b) (k : Below b.heap.size b c) : Below a.heap.size a c := h.trans (k.mono h.size)
theorem allocW {a b : World} (h : Below a.heap.size a b) (o : Obj) : Below a.heap.size a (b.alloc o) := h.alloc h.size o
theorem first2 (w : World) (o o' : Obj) : ((w.alloc o).alloc o').heap[w.heap.size]? = some o := by
  rw [Below.heap_alloc _ _ _ (by simp)]
  exact heap_alloc_new w o
def nV (n : Int) : Vl := ⟨1, n, [], false⟩
def tV (t : List UInt8) : Vl := ⟨2, 0, t, false⟩
def bV (b : Bool) : Vl := ⟨3, 0, [], b⟩
set_option maxHeartbeats 400000 in
theorem text51 (t : List UInt8) (w : World) : Calls Tryd.prog 51 #[.string (strOf t)] w fun e w' => e = .returned (valOf (tV t)) ∧ Below w.heap.size w w' := by
  go_enter Tryd.func51, Tryd.ntmps51
  go_wp2
  refine bodyPost_ret (v := .agg #[.int .i64 2, .int .i64 0, .string (strOf t), .bool false]) (results_cell_row Tryd.results51 _ _ w.heap.size 32 #[.int .i64 2, .int .i64 0, .string (strOf t), .bool false] (0, 0) _ rfl (heap_alloc_new _ _) Tryd.underlying32 rfl Tryd.size32) rfl ?_
  exact ⟨rfl, (Below.refl _ w).alloc (Nat.le_refl _) _⟩
set_option maxHeartbeats 400000 in
theorem num52 (n : Int) (w : World) : Calls Tryd.prog 52 #[.int .i64 n] w fun e w' => e = .returned (valOf (nV n)) ∧ Below w.heap.size w w' := by
  go_enter Tryd.func52, Tryd.ntmps52
  go_wp2
  refine bodyPost_ret (v := .agg #[.int .i64 1, .int .i64 n, .string { data := #[] }, .bool false]) (results_cell_row Tryd.results52 _ _ w.heap.size 32 #[.int .i64 1, .int .i64 n, .string { data := #[] }, .bool false] (0, 0) _ rfl (heap_alloc_new _ _) Tryd.underlying32 rfl Tryd.size32) rfl ?_
  exact ⟨rfl, (Below.refl _ w).alloc (Nat.le_refl _) _⟩
set_option maxHeartbeats 400000 in
theorem truth53 (b : Bool) (w : World) : Calls Tryd.prog 53 #[.bool b] w fun e w' => e = .returned (valOf (bV b)) ∧ Below w.heap.size w w' := by
  go_enter Tryd.func53, Tryd.ntmps53
  go_wp2
  refine bodyPost_ret (v := .agg #[.int .i64 3, .int .i64 0, .string { data := #[] }, .bool b]) (results_cell_row Tryd.results53 _ _ w.heap.size 32 #[.int .i64 3, .int .i64 0, .string { data := #[] }, .bool b] (0, 0) _ rfl (heap_alloc_new _ _) Tryd.underlying32 rfl Tryd.size32) rfl ?_
  exact ⟨rfl, (Below.refl _ w).alloc (Nat.le_refl _) _⟩
set_option maxHeartbeats 400000 in
theorem text54 (t : List UInt8) (w : World) : Calls Tryd.prog 54 #[.string (strOf t)] w fun e w' => e = .returned (valOf (tV t)) ∧ Below w.heap.size w w' := by
  go_enter Tryd.func54, Tryd.ntmps54
  go_wp2
  refine bodyPost_ret (v := .agg #[.int .i64 2, .int .i64 0, .string (strOf t), .bool false]) (results_cell_row Tryd.results54 _ _ w.heap.size 32 #[.int .i64 2, .int .i64 0, .string (strOf t), .bool false] (0, 0) _ rfl (heap_alloc_new _ _) Tryd.underlying32 rfl Tryd.size32) rfl ?_
  exact ⟨rfl, (Below.refl _ w).alloc (Nat.le_refl _) _⟩
set_option maxHeartbeats 400000 in
theorem num55 (n : Int) (w : World) : Calls Tryd.prog 55 #[.int .i64 n] w fun e w' => e = .returned (valOf (nV n)) ∧ Below w.heap.size w w' := by
  go_enter Tryd.func55, Tryd.ntmps55
  go_wp2
  refine bodyPost_ret (v := .agg #[.int .i64 1, .int .i64 n, .string { data := #[] }, .bool false]) (results_cell_row Tryd.results55 _ _ w.heap.size 32 #[.int .i64 1, .int .i64 n, .string { data := #[] }, .bool false] (0, 0) _ rfl (heap_alloc_new _ _) Tryd.underlying32 rfl Tryd.size32) rfl ?_
  exact ⟨rfl, (Below.refl _ w).alloc (Nat.le_refl _) _⟩
set_option maxHeartbeats 400000 in
theorem truth56 (b : Bool) (w : World) : Calls Tryd.prog 56 #[.bool b] w fun e w' => e = .returned (valOf (bV b)) ∧ Below w.heap.size w w' := by
  go_enter Tryd.func56, Tryd.ntmps56
  go_wp2
  refine bodyPost_ret (v := .agg #[.int .i64 3, .int .i64 0, .string { data := #[] }, .bool b]) (results_cell_row Tryd.results56 _ _ w.heap.size 32 #[.int .i64 3, .int .i64 0, .string { data := #[] }, .bool b] (0, 0) _ rfl (heap_alloc_new _ _) Tryd.underlying32 rfl Tryd.size32) rfl ?_
  exact ⟨rfl, (Below.refl _ w).alloc (Nat.le_refl _) _⟩
set_option maxHeartbeats 400000 in
theorem text10 (t : List UInt8) (w : World) : Calls Tryd.prog 10 #[.string (strOf t)] w fun e w' => e = .returned (valOf (tV t)) ∧ Below w.heap.size w w' := by
  go_enter Tryd.func10, Tryd.ntmps10
  go_wp2
  refine bodyPost_ret (v := .agg #[.int .i64 2, .int .i64 0, .string (strOf t), .bool false]) (results_cell_row Tryd.results10 _ _ w.heap.size 32 #[.int .i64 2, .int .i64 0, .string (strOf t), .bool false] (0, 0) _ rfl (heap_alloc_new _ _) Tryd.underlying32 rfl Tryd.size32) rfl ?_
  exact ⟨rfl, (Below.refl _ w).alloc (Nat.le_refl _) _⟩
set_option maxHeartbeats 400000 in
theorem num11 (n : Int) (w : World) : Calls Tryd.prog 11 #[.int .i64 n] w fun e w' => e = .returned (valOf (nV n)) ∧ Below w.heap.size w w' := by
  go_enter Tryd.func11, Tryd.ntmps11
  go_wp2
  refine bodyPost_ret (v := .agg #[.int .i64 1, .int .i64 n, .string { data := #[] }, .bool false]) (results_cell_row Tryd.results11 _ _ w.heap.size 32 #[.int .i64 1, .int .i64 n, .string { data := #[] }, .bool false] (0, 0) _ rfl (heap_alloc_new _ _) Tryd.underlying32 rfl Tryd.size32) rfl ?_
  exact ⟨rfl, (Below.refl _ w).alloc (Nat.le_refl _) _⟩
end Go.Proofs.YtplpchaceiogaaaDoor
