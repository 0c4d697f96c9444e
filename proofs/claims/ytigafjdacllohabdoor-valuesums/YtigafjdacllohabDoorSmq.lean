/- Steps of ValueSums' last region. -/
import Derived.Test.YtigafjdacllohabDoorSmr
import Derived.Laws.BitsAllLaws
namespace Go.Proofs.YtigafjdacllohabDoor
set_option maxRecDepth 100000
open Go.RowKit
set_option linter.unusedVariables false
set_option linter.unusedSimpArgs false

theorem step_call0_at {P : Program} {ops : Array Oper} {Q : Exit → Act → World → Prop} {md : Region.Mode} {S : World → Prop} {o : Oper} {fuel : Nat} {listed : Array Bool} {a : Act} {w : World} {R : Ending → World → Prop} (j dst f : Nat) (hj : ops[j]? = some o)
    (hr : Region.ready md ops listed = [j]) (hd : o.dst = some dst) (hw : Region.wanted o (yielded ops a.tmps) = true) (ts : Array TypeId) (hop : o.op = Op.call { callee := Callee.value (Operand.func f), args := #[], argTypes := ts })
    (hcf : ∀ args w, (callFunc f args).run P w = .ok (.enter f args) w) (hc : Calls P f #[] w R)
    (hK : ∀ e w', R e w' → ∃ v, e = .returned v ∧ S w' ∧ wpAnyH P md ops Q S fuel (listed.setIfInBounds j true) (a.put (some dst) v) w') : wpAnyH P md ops Q S (fuel + 1) listed a w := by
  refine step_by j hj hr (fun K hK' => ?_)
  rw [if_pos hw]
  have hrun : (execOp a.eval o).run P w = .ok (.enter f #[]) w := by
    have hff : a.eval (.func f) = .func (.func f) #[] #[] := rfl
    unfold execOp
    simp [hop, resolve, hff, Deferred.ofValue, invoke]
    exact hcf _ _
  unfold Oper.wp
  rw [hrun, Oper.upon_enter]
  refine hc.mono ?_
  intro e w' hR
  obtain ⟨v, rfl, hS, hW⟩ := hK e w' hR
  show K (a.put o.dst v) w'
  rw [hd]
  exact hK' _ _ hS hW
theorem op_eqlEq (ρ : Operand → Value) (o : Oper) (x y : Operand) (tt : TypeId) (ho : o.op = .binOp .eql 24 x y tt) (n m : Int) (hx : ρ x = .int .i64 n) (hy : ρ y = .int .i64 m) (b : Bool) (hb : (n == m) = b) {w : World} : (execOp ρ o).run Tryd.prog w = .ok (.value (.bool b)) w := by
  have hu := Tryd.underlying24
  unfold execOp
  simp only [ho, hx, hy]
  simp [go_sem, hu, hb]
theorem op_shl3 (ρ : Operand → Value) (o : Oper) (x y : Operand) (tt : TypeId) (ho : o.op = .binOp .shl 3 x y tt) (n : Int) (hx : ρ x = .int .i64 n) (hy : ρ y = .int .u64 32) (b : Int) (hb : IntKind.i64.wrap (n * 4294967296) = b) {w : World} : (execOp ρ o).run Tryd.prog w = .ok (.value (.int .i64 b)) w := by
  have hu := Tryd.underlying3
  have hm : min 32 IntKind.i64.bits = 32 := rfl
  unfold execOp
  simp only [ho, hx, hy]
  simp [go_sem, hu, hb, hm]
theorem op_or3 (ρ : Operand → Value) (o : Oper) (x y : Operand) (tt : TypeId) (ho : o.op = .binOp .or 3 x y tt) (n m : Int) (hx : ρ x = .int .i64 n) (hy : ρ y = .int .i64 m) (b : Int) (hb : bits .or .i64 n m = b) {w : World} : (execOp ρ o).run Tryd.prog w = .ok (.value (.int .i64 b)) w := by
  have hu := Tryd.underlying3
  unfold execOp
  simp only [ho, hx, hy]
  simp [go_sem, hu, hb]
theorem run_eqlVV (w : World) (V : Vl) : (binOp .eql 23 (.agg #[.int .i64 V.ty, .int .i64 V.n, .string (strOf V.t), .bool V.b]) (.agg #[.int .i64 V.ty, .int .i64 V.n, .string (strOf V.t), .bool V.b])).run Tryd.prog w = .ok (.bool true) w := by
  rw [run_eql_struct, eq23 w V V true (by simp)]
  rfl
theorem op_eqlVq (ρ : Operand → Value) (o : Oper) (x y : Operand) (tt : TypeId) (ho : o.op = .binOp .eql 23 x y tt) (V : Vl) (hx : ρ x = .agg #[.int .i64 V.ty, .int .i64 V.n, .string (strOf V.t), .bool V.b]) (hy : ρ y = .agg #[.int .i64 V.ty, .int .i64 V.n, .string (strOf V.t), .bool V.b]) {w : World} : (execOp ρ o).run Tryd.prog w = .ok (.value (.bool true)) w := by
  have hg : (eqGuard .eql 23 x y (.agg #[.int .i64 V.ty, .int .i64 V.n, .string (strOf V.t), .bool V.b]) (.agg #[.int .i64 V.ty, .int .i64 V.n, .string (strOf V.t), .bool V.b])).run Tryd.prog w = .ok () w := run_eqGuard_agg w .eql 23 x y _ _ (by kernel_rfl)
  unfold execOp
  simp only [ho, hx, hy]
  simp [hg, run_eqlVV w V]
theorem Tryd.enters7q (args : Array Value) (w : World) : (callFunc 7 args).run Tryd.prog w = .ok (.enter 7 args) w := by kernel_rfl
end Go.Proofs.YtigafjdacllohabDoor
