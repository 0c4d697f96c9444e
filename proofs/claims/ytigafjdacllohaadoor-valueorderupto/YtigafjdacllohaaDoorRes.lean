/- A result in its cell; stores of whole values. -/
import Derived.Test.YtigafjdacllohaaDoorWid
import Derived.Test.YtigafjdacllohaaDoorLib
namespace Go.Proofs.YtigafjdacllohaaDoor
open Go.RowKit
set_option linter.unusedVariables false
set_option linter.unusedSimpArgs false
set_option maxRecDepth 100000

def zeroC : Array Value := #[.int .i64 0, .int .i64 0, .string { data := #[] }, .bool false]
theorem setRow_heap (w : World) (b : Nat) (C D : Array Value) (t : TypeId) (fr : Nat × Nat) (h : w.heap[b]? = some (.cells C t fr)) : (w.setRow b D).heap[b]? = some (.cells D t fr) := by
  simp [World.setRow, Array.getElem?_modify, h]
theorem below_setRow {B b : Nat} {w w' : World} (h : Below B w w') (hb : B ≤ b) (C : Array Value) : Below B w (w'.setRow b C) :=
  ⟨h.os, h.tape, h.output, by have := h.size; simpa [World.setRow] using this, fun k hk => by
    have e : (w'.setRow b C).heap[k]? = w'.heap[k]? := by
      have : b ≠ k := by omega
      simp [World.setRow, Array.getElem?_modify, this]
    exact e.trans (h.block k hk)⟩
theorem one_vcells (V : Vl) : ∀ u ∈ vcells V, u.oneCell' = true := by
  intro u hu
  simp [vcells] at hu
  rcases hu with rfl | rfl | rfl | rfl <;> rfl
/-- The block r holds a value that is to be written over. -/
def ResAt (W : World) (r : Nat) : Prop := W.heap[r]? = some (.cells #[.int .i64 0, .int .i64 0, .string { data := #[] }, .bool false] 23 (0, 0))
theorem ResAt.belowW {w w' : World} {r : Nat} (h : ResAt w r) (hb : Below w.heap.size w w') : ResAt w' r := (hb.block r (lt_of_heap h)).trans h
theorem ResAt.below {B : Nat} {w w' : World} {r : Nat} (h : ResAt w r) (hb : Below B w w') (hr : r < B) : ResAt w' r := (hb.block r hr).trans h
theorem store_val {W : World} {r : Nat} {V0 : Vl} (h : Box W r V0) (V : Vl) :
    (Instr.storeAt 23 (.pointer (some ⟨r, 0, none⟩)) (.agg (vcells V).toArray)).run Tryd.prog W = .ok () (W.setRow r #[.int .i64 V.ty, .int .i64 V.n, .string (strOf V.t), .bool V.b]) := by
  have := run_storeAt_in (P := Tryd.prog) W r 0 23 23 _ (vcells V) h (by simp [vcells]) (by kernel_rfl) (one_vcells V)
  simpa [vcells] using this
theorem ResAt.box {W : World} {r : Nat} (h : ResAt W r) : Box W r Vl.zero := h
theorem Box.after {W : World} {r : Nat} {V0 : Vl} (h : Box W r V0) (V : Vl) : Box (W.setRow r #[.int .i64 V.ty, .int .i64 V.n, .string (strOf V.t), .bool V.b]) r V := setRow_heap _ _ _ _ _ _ h
theorem wpList_store_val {ops : Array Oper} {rest : List Oper} {op : Oper} {a : Act} {w : World} {Q : Exit → Act → World → Prop} (hgd : op.guard = none) (x y : Operand) (ho : op.op = .store 23 x y) (hd : op.dst = none)
    (r : Nat) (V0 V : Vl) (hx : a.eval x = .pointer (some ⟨r, 0, none⟩)) (hy : a.eval y = .agg #[.int .i64 V.ty, .int .i64 V.n, .string (strOf V.t), .bool V.b]) (hb : Box w r V0)
    (h : wpList Tryd.prog ops Q rest a (w.setRow r #[.int .i64 V.ty, .int .i64 V.n, .string (strOf V.t), .bool V.b])) : wpList Tryd.prog ops Q (op :: rest) a w :=
  wpList_store_in hgd 23 x y ho hd r 0 (vcells V) _ hx hy (store_val hb V) h
theorem load23 {w : World} {b : Nat} {V : Vl} (h : Box w b V) : (Instr.loadAt 23 (.pointer (some ⟨b, 0, none⟩))).run Tryd.prog w = .ok (.agg #[.int .i64 (V).ty, .int .i64 (V).n, .string (strOf (V).t), .bool (V).b]) w :=
  run_loadAt_mid w b 0 23 [.int .i64 V.ty, .int .i64 V.n, .string (strOf V.t), .bool V.b] _ (fun j v hv => by rw [Nat.zero_add, cell_row h]; simpa using hv) Tryd.underlying23 rfl Tryd.size23
theorem run_index38 (w : World) (b o n cap i : Nat) (h : i < n) : (Instr.indexAt 38 (.slice (some ⟨b, o, none⟩) n cap) (.int .i64 (i : Int))).run Tryd.prog w = .ok (.pointer (some ⟨b, o + i * 4, none⟩)) w := by
  have hu := Tryd.underlying38
  have hs : ∀ w, (sizeOf 23).run Tryd.prog w = .ok 4 w := fun w => by kernel_rfl
  simp [go_sem, hu, hs, h]
theorem load23c {w : World} {g o : Nat} {V : Vl} (h : CellsAt w g o V) : (Instr.loadAt 23 (.pointer (some ⟨g, o, none⟩))).run Tryd.prog w = .ok (.agg #[.int .i64 (V).ty, .int .i64 (V).n, .string (strOf (V).t), .bool (V).b]) w :=
  run_loadAt_mid w g o 23 [.int .i64 V.ty, .int .i64 V.n, .string (strOf V.t), .bool V.b] _ (fun j v hv => by
    match j, hv with
    | 0, hv => simp at hv; subst hv; exact h.c0
    | 1, hv => simp at hv; subst hv; exact h.c1
    | 2, hv => simp at hv; subst hv; exact h.c2
    | 3, hv => simp at hv; subst hv; exact h.c3
    | j + 4, hv => simp at hv) Tryd.underlying23 rfl Tryd.size23
theorem CellsAt.belowW {w w' : World} {g o : Nat} {V : Vl} (h : CellsAt w g o V) (hb : Below w.heap.size w w') : CellsAt w' g o V :=
  ⟨(hb.cell (World.block_lt_of_cell? w _ h.c0)).trans h.c0, (hb.cell (World.block_lt_of_cell? w _ h.c1)).trans h.c1, (hb.cell (World.block_lt_of_cell? w _ h.c2)).trans h.c2, (hb.cell (World.block_lt_of_cell? w _ h.c3)).trans h.c3⟩
def WBox (w : World) (b : Nat) (x y : Int) : Prop := w.heap[b]? = some (.cells #[.int .u64 x, .int .u64 y] 73 (0, 0))
theorem WBox.belowW {w w' : World} {b : Nat} {x y : Int} (h : WBox w b x y) (hb : Below w.heap.size w w') : WBox w' b x y := (hb.block b (lt_of_heap h)).trans h
theorem WBox.cells {w : World} {b : Nat} {x y : Int} (h : WBox w b x y) : w.cell? ⟨b, 0, none⟩ = some (.int .u64 x) ∧ w.cell? ⟨b, 1, none⟩ = some (.int .u64 y) := by
  refine ⟨?_, ?_⟩ <;> (rw [cell_row h]; rfl)
theorem load73 {w : World} {b : Nat} {x y : Int} (h : WBox w b x y) : (Instr.loadAt 73 (.pointer (some ⟨b, 0, none⟩))).run Tryd.prog w = .ok (.agg #[.int .u64 x, .int .u64 y]) w :=
  run_loadAt_mid w b 0 73 [.int .u64 x, .int .u64 y] _ (fun j v hv => by rw [Nat.zero_add, cell_row h]; simpa using hv) Tryd.underlying73 rfl Tryd.size73
theorem store_w {W : World} {r : Nat} {x0 y0 : Int} (h : WBox W r x0 y0) (x y : Int) :
    (Instr.storeAt 73 (.pointer (some ⟨r, 0, none⟩)) (.agg [.int .u64 x, .int .u64 y].toArray)).run Tryd.prog W = .ok () (W.setRow r #[.int .u64 x, .int .u64 y]) := by
  have := run_storeAt_in (P := Tryd.prog) W r 0 73 73 _ [.int .u64 x, .int .u64 y] h (by simp) Tryd.size73 (by intro v hv; simp at hv; rcases hv with rfl | rfl <;> rfl)
  simpa using this
theorem wpList_store_w {ops : Array Oper} {rest : List Oper} {op : Oper} {a : Act} {w : World} {Q : Exit → Act → World → Prop} (hgd : op.guard = none) (x y : Operand) (ho : op.op = .store 73 x y) (hd : op.dst = none)
    (r : Nat) (x0 y0 p q : Int) (hx : a.eval x = .pointer (some ⟨r, 0, none⟩)) (hy : a.eval y = .agg #[.int .u64 p, .int .u64 q]) (hb : WBox w r x0 y0)
    (h : wpList Tryd.prog ops Q rest a (w.setRow r #[.int .u64 p, .int .u64 q])) : wpList Tryd.prog ops Q (op :: rest) a w :=
  wpList_store_in hgd 73 x y ho hd r 0 [.int .u64 p, .int .u64 q] _ hx hy (store_w hb p q) h
theorem WBox.after {W : World} {r : Nat} {x0 y0 : Int} (h : WBox W r x0 y0) (x y : Int) : WBox (W.setRow r #[.int .u64 x, .int .u64 y]) r x y := setRow_heap _ _ _ _ _ _ h
theorem op_neq73 (ρ : Operand → Value) (o : Oper) (x y : Operand) (tt : TypeId) (ho : o.op = .binOp .neq 73 x y tt) (a b c d : Int) (hx : ρ x = .agg #[.int .u64 a, .int .u64 b]) (hy : ρ y = .agg #[.int .u64 c, .int .u64 d]) (r : Bool) (hr : r = true ↔ a = c ∧ b = d) {w : World} : (execOp ρ o).run Tryd.prog w = .ok (.value (.bool (!r))) w := by
  have hg : (eqGuard .neq 73 x y (.agg #[.int .u64 a, .int .u64 b]) (.agg #[.int .u64 c, .int .u64 d])).run Tryd.prog w = .ok () w := run_eqGuard_agg w .neq 73 x y _ _ (by kernel_rfl)
  unfold execOp
  simp only [ho, hx, hy]
  simp [hg, run_neq73 w a b c d r hr]
/-- What a call tells: a value in its cell, and an error's number. -/
def telling (V : Vl) (e : Int) : Value := .tuple #[.agg #[.int .i64 V.ty, .int .i64 V.n, .string (strOf V.t), .bool V.b], .int .i64 e]
end Go.Proofs.YtigafjdacllohaaDoor
