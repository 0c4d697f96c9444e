/- Single operations of the law DevPlays. -/
import Derived.Test.YtohhcgcifceklaaPlaysPlain
namespace Go.Proofs.Ytohhcgcifceklaa
open Go.RowKit
set_option linter.unusedVariables false
set_option linter.unusedSimpArgs false

theorem step_call1_to {P : Program} {ops : Array Oper} {Q : Exit → Act → World → Prop} {md : Region.Mode} {S : World → Prop} {o : Oper} {fuel : Nat} {listed : Array Bool} {a : Act} {w : World} {R : Ending → World → Prop} (j dst f : Nat) (hj : ops[j]? = some o)
    (hr : Region.ready md ops listed = [j]) (hd : o.dst = some dst) (hw : Region.wanted o (yielded ops a.tmps) = true) (x : Operand) (ts : Array TypeId) (hop : o.op = Op.call { callee := Callee.value (Operand.func f), args := #[x], argTypes := ts })
    (vx : Value) (hx : a.eval x = vx) (hcf : ∀ args w, (callFunc f args).run P w = .ok (.enter f args) w) (hc : Calls P f #[vx] w R)
    (hK : ∀ e w', R e w' → ∃ v, e = .returned v ∧ S w' ∧ wpAnyH P md ops Q S fuel (listed.setIfInBounds j true) (a.put (some dst) v) w') : wpAnyH P md ops Q S (fuel + 1) listed a w := by
  refine step_by j hj hr (fun K hK' => ?_)
  rw [if_pos hw]
  have hrun : (execOp a.eval o).run P w = .ok (.enter f #[vx]) w := by
    have hff : a.eval (.func f) = .func (.func f) #[] #[] := rfl
    unfold execOp
    simp [hop, resolve, hff, Deferred.ofValue, invoke, hx]
    exact hcf _ _
  unfold Oper.wp
  rw [hrun, Oper.upon_enter]
  refine hc.mono ?_
  intro e w' hR
  obtain ⟨v, rfl, hS, hW⟩ := hK e w' hR
  show K (a.put o.dst v) w'
  rw [hd]
  exact hK' _ _ hS hW
theorem Try.enters12 (args : Array Value) (w : World) : (callFunc 12 args).run Try.prog w = .ok (.enter 12 args) w := by kernel_rfl
theorem Try.enters22 (args : Array Value) (w : World) : (callFunc 22 args).run Try.prog w = .ok (.enter 22 args) w := by kernel_rfl
theorem Try.enters23 (args : Array Value) (w : World) : (callFunc 23 args).run Try.prog w = .ok (.enter 23 args) w := by kernel_rfl
theorem Try.enters24 (args : Array Value) (w : World) : (callFunc 24 args).run Try.prog w = .ok (.enter 24 args) w := by kernel_rfl
theorem Try.enters25 (args : Array Value) (w : World) : (callFunc 25 args).run Try.prog w = .ok (.enter 25 args) w := by kernel_rfl

theorem op_neq3 (ρ : Operand → Value) (o : Oper) (x y : Operand) (tt : TypeId) (ho : o.op = .binOp .neq 3 x y tt) (n m : Int) (hx : ρ x = .int .i64 n) (hy : ρ y = .int .i64 m) (b : Bool) (hb : (n != m) = b) {w : World} : (execOp ρ o).run Try.prog w = .ok (.value (.bool b)) w := by
  have hu := Try.underlying3
  unfold execOp
  simp only [ho, hx, hy]
  simp [go_sem, hu, hb]
theorem op_neq4 (ρ : Operand → Value) (o : Oper) (x y : Operand) (tt : TypeId) (ho : o.op = .binOp .neq 4 x y tt) (n : Bool) (hx : ρ x = .bool n) (hy : ρ y = .bool n) {w : World} : (execOp ρ o).run Try.prog w = .ok (.value (.bool false)) w := by
  have hu := Try.underlying4
  unfold execOp
  simp only [ho, hx, hy]
  cases n <;> simp [go_sem, hu]
theorem op_eqlnil (ρ : Operand → Value) (o : Oper) (x y : Operand) (tt : TypeId) (ho : o.op = .binOp .eql 23 x y tt) (p : Nat) (hx : ρ x = .pointer (some ⟨p, 0, none⟩)) (hy : ρ y = .pointer none) {w : World} : (execOp ρ o).run Try.prog w = .ok (.value (.bool false)) w := by
  have hu := Try.underlying23
  unfold execOp
  simp only [ho, hx, hy]
  simp [go_sem, hu]
/-- Bytes as a string, of whatever length. -/
theorem run_strs (w : World) (g c : Nat) (bs : List UInt8) (h : w.heap[g]? = some (.cells (secCells bs).toArray 5 (0, 0))) :
    (convert 34 9 (.slice (some ⟨g, 0, none⟩) bs.length c)).run Try.prog w = .ok (.string (strOf bs)) w := by
  rw [run_convert_bytes_string w 34 9 5 _ _ _ Try.underlying34 Try.underlying5 Try.underlying9]
  have hload : (loadCells ⟨g, 0, none⟩ bs.length).run Try.prog w = .ok ((bs.map fun b => (b.toNat : Int)).map (Value.int .u8)).toArray w := by
    have := run_loadCells_list (P := Try.prog) w ⟨g, 0, none⟩ (secCells bs) (src_of_block h)
    rw [length_secCells] at this
    rw [this]
    simp [secCells, bcell]
  rw [run_bytesToString w _ _ _ _ hload, foldl_push]
  simp [strOf]
theorem run_strnil (w : World) : (convert 34 9 (.slice none 0 0)).run Try.prog w = .ok (.string (strOf [])) w := by kernel_rfl
/-- make of n bytes. -/
theorem makeBytes (n : Nat) (w : World) (h : n < 300) : (Instr.makeSlice 34 (.int .i64 (n : Int)) (.int .i64 (n : Int))).run Try.prog w = .ok (.slice (some ⟨w.heap.size, 0, none⟩) n n) (w.alloc (.cells (secCells (List.replicate n 0)).toArray 5)) := by
  rw [run_make_row' (P := Try.prog) 34 5 (.int .u8 0) 1 Try.underlying34 Try.info5 rfl .i64 .i64 n (by omega) (by omega) w]
  congr 3
  have : (madeCells #[Value.int .u8 0] n) = (List.replicate n (Value.int .u8 0)).toArray := made_same (.int .u8 0) 1 n (by omega)
  rw [this]
  simp [secCells, bcell]
end Go.Proofs.Ytohhcgcifceklaa
