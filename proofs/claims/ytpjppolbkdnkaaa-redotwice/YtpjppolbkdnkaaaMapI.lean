/- Maps from ints to ints, as functions. -/
import Derived.Test.YtpjppolbkdnkaaaBase
import Derived.Maps.OwnSet
import Derived.Maps.OwnOps
namespace Go.Proofs.Ytpjppolbkdnkaaa
open Go.RowKit Go.WideAt
set_option linter.unusedVariables false
set_option linter.unusedSimpArgs false

def In64 (k : Int) : Prop := -9223372036854775808 ≤ k ∧ k ≤ 9223372036854775807
theorem wf64 {k : Int} (h : In64 k) : (Lit.int .i64 k).wf = true := by
  have : (decide (IntKind.i64.min ≤ k) && decide (k ≤ IntKind.i64.max)) = true := by
    rw [Bool.and_eq_true, decide_eq_true_eq, decide_eq_true_eq]
    exact h
  exact this
theorem in64 {k : Int} (h : (Lit.int .i64 k).wf = true) : In64 k := by
  have : (decide (IntKind.i64.min ≤ k) && decide (k ≤ IntKind.i64.max)) = true := h
  rw [Bool.and_eq_true, decide_eq_true_eq, decide_eq_true_eq] at this
  exact this
theorem keyedI : Maps.Keyed Try.prog 3 := Maps.int_keyed Try.underlying3
theorem keyI {k : Int} (h : In64 k) : keyOf Try.prog 3 (Value.int .i64 k) = some (Lit.int .i64 k) := Maps.keyOf_int_mk Try.underlying3 (wf64 h)
theorem Try.zeroI (w : World) : (zeroValue 3).run Try.prog w = .ok (.int .i64 0) w := by kernel_rfl

theorem kl_int (x : Int) : WideAt.IsKeyLit (.int .i64 x) := by first | trivial | exact True.intro | simp [WideAt.IsKeyLit]
/-- Block b is a map of at most n entries: f. -/
def MapI (w : World) (b n : Nat) (f : Int → Option Int) : Prop :=
  ∃ D : DataW Unit, w.ownsMap Try.prog 3 (plainElem Try.prog 3) b n D ∧ ∀ k, In64 k → Maps.has D (.int .i64 k) = (f k).isSome ∧ D.atKey (.int .i64 k) (.lit (.int .i64 0)) = .lit (.int .i64 ((f k).getD 0)) ∧ In64 ((f k).getD 0)
def updI (f : Int → Option Int) (k v : Int) : Int → Option Int := fun x => if x = k then some v else f x
section
variable {w w' : World} {b n : Nat} {f : Int → Option Int}
theorem MapI.made (w : World) : MapI (w.alloc (.map #[] 0)) w.heap.size 0 (fun _ => none) :=
  ⟨.map [], World.ownsMap_made _ _ _ _, fun k hk => ⟨rfl, rfl, by simp [In64]⟩⟩
theorem MapI.lt (h : MapI w b n f) : b < w.heap.size := let ⟨_, a, _⟩ := h; a.lt
theorem MapI.stay (h : MapI w b n f) (hb : w'.heap[b]? = w.heap[b]?) : MapI w' b n f := by
  obtain ⟨D, ⟨es, clock, h1, h2⟩, h3⟩ := h
  exact ⟨D, ⟨es, clock, hb.trans h1, h2⟩, h3⟩
theorem MapI.val (h : MapI w b n f) {k v : Int} (hk : In64 k) (hf : f k = some v) : In64 v := by
  obtain ⟨D, _, h3⟩ := h
  have := (h3 k hk).2.2
  rw [hf] at this
  exact this
theorem MapI.look (h : MapI w b n f) {k : Int} (hk : In64 k) : (Instr.lookup 68 (.map (some b)) (.int .i64 k) true).run Try.prog w = .ok (.tuple #[.int .i64 ((f k).getD 0), .bool (f k).isSome]) w := by
  obtain ⟨D, h1, h2⟩ := h
  obtain ⟨a1, a2, a3⟩ := h2 k hk
  obtain ⟨v, ps, r1, r2⟩ := h1.look_ok keyedI Try.underlying68 (Try.zeroI w) (plainElem_int (H := Unit) Try.underlying3 (by decide)) (keyI hk)
  obtain ⟨c, rfl, hc, hwc⟩ := plainElem_int_inv Try.underlying3 r2
  have hc1 : D.atKey (.int .i64 k) (.lit (.int .i64 0)) = .lit (.int .i64 c) := congrArg Prod.fst hc
  have hc3 : (f k).getD 0 = c := (Lit.int.inj (DataW.lit.inj (a2.symm.trans hc1))).2
  rw [r1, a1, hc3]
theorem MapI.store (h : MapI w b n f) (hn : n < 1000000000) {k v : Int} (hk : In64 k) (hv : In64 v) : ∃ w', (Instr.mapUpdate 68 (.map (some b)) (.int .i64 k) (.int .i64 v)).run Try.prog w = .ok () w' ∧ MapI w' b (n + 1) (updI f k v) ∧ w.grownBy w' (some b) := by
  obtain ⟨D, h1, h2⟩ := h
  obtain ⟨w', r1, r2, r3⟩ := h1.update keyedI Try.underlying68 (by simp only [maxLen]; omega) (keyI hk) (plainElem_int (H := Unit) Try.underlying3 (wf64 hv))
  refine ⟨w', r1, ⟨_, r2, fun x hx => ?_⟩, r3⟩
  unfold updI
  by_cases e : x = k
  · subst e
    rw [if_pos rfl]
    exact ⟨Maps.has_put_same h1.isMap (kl_int x) _, Maps.atKey_put_same h1.isMap (kl_int x) _ _, hv⟩
  · rw [if_neg e]
    have hne : Lit.int .i64 x ≠ Lit.int .i64 k := fun h => e (by injection h)
    obtain ⟨a1, a2, a3⟩ := h2 x hx
    exact ⟨by rw [Maps.has_put_other hne]; exact a1, by rw [Maps.atKey_put_other hne]; exact a2, a3⟩
theorem op_lookup (ρ : Operand → Value) (o : Oper) (t : TypeId) (x y : Operand) (c : Bool) (ho : o.op = .lookup t x y c) (px py v : Value) (hx : ρ x = px) (hy : ρ y = py) {P : Program} {w : World} (hr : (Instr.lookup t px py c).run P w = .ok v w) : (execOp ρ o).run P w = .ok (.value v) w := by
  unfold execOp
  simp [ho, hx, hy, hr, Result.andThen]
/-- A store into a map that comes up alone. -/
theorem step_map_to {P : Program} {ops : Array Oper} {Q : Exit → Act → World → Prop} {md : Region.Mode} {S : World → Prop} {o : Oper} {fuel : Nat} {listed : Array Bool} {a : Act} {w : World} (j : Nat) (w' : World) (hj : ops[j]? = some o)
    (hr : Region.ready md ops listed = [j]) (hd : o.dst = none) (hw : Region.wanted o (yielded ops a.tmps) = true) (t : TypeId) (x y z : Operand) (hop : o.op = Op.mapUpdate t x y z) (px py pz : Value) (hx : a.eval x = px) (hy : a.eval y = py) (hz : a.eval z = pz)
    (hrun : (Instr.mapUpdate t px py pz).run P w = .ok () w') (hS : S w') (h : wpAnyH P md ops Q S fuel (listed.setIfInBounds j true) a w') : wpAnyH P md ops Q S (fuel + 1) listed a w := by
  refine step_by j hj hr (fun K hK => ?_)
  rw [if_pos hw]
  unfold Oper.wp execOp
  simp only [hop, hx, hy, hz, Sem.run_bind, hrun, Result.andThen_ok, Sem.run_pure, Oper.upon_skip]
  rw [hd]
  exact hK _ _ hS h
end
end Go.Proofs.Ytpjppolbkdnkaaa
