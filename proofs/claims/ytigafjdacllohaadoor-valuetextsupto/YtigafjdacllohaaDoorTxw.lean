/- The walk of ValueTexts. -/
import Derived.Test.YtigafjdacllohaaDoorCat
namespace Go.Proofs.YtigafjdacllohaaDoor
open Go.RowKit
set_option linter.unusedVariables false
set_option linter.unusedSimpArgs false
set_option maxRecDepth 100000

theorem op_alloc23 (ρ : Operand → Value) (o : Oper) (ho : o.op = .alloc 23) (w : World) : (execOp ρ o).run Tryd.prog w = .ok (.value (.pointer (some ⟨w.heap.size, 0, none⟩))) (w.alloc (.cells #[.int .i64 0, .int .i64 0, .string { data := #[] }, .bool false] 23)) := by
  unfold execOp
  rw [ho]
  kernel_rfl
theorem step_call0_to {P : Program} {ops : Array Oper} {Q : Exit → Act → World → Prop} {md : Region.Mode} {S : World → Prop} {o : Oper} {fuel : Nat} {listed : Array Bool} {a : Act} {w : World} {R : Ending → World → Prop} (j dst f : Nat) (hj : ops[j]? = some o)
    (hr : Region.ready md ops listed = [j]) (hd : o.dst = some dst) (hw : Region.wanted o (yielded ops a.tmps) = true) (ts : Array TypeId) (hop : o.op = Op.call { callee := Callee.value (Operand.func f), args := #[], argTypes := ts })
    (hcf : ∀ args w, (callFunc f args).run P w = .ok (.enter f args) w) (hc : Calls P f #[] w R)
    (hK : ∀ e w', R e w' → ∃ v, e = .returned v ∧ S w' ∧ wpAnyH P md ops Q S fuel (listed.setIfInBounds j true) (a.put (some dst) v) w') : wpAnyH P md ops Q S (fuel + 1) listed a w := by
  refine step_by j hj hr (fun K hK' => ?_)
  rw [if_pos hw]
  have hrun : (execOp a.eval o).run P w = .ok (.enter f #[]) w := by
    have hff : a.eval (.func f) = .func (.func f) #[] #[] := rfl
    unfold execOp
    simp [hop, resolve, hff, Deferred.ofValue, invoke]
    exact hcf _ _
  unfold Oper.wp
  rw [hrun, Oper.upon_enter]
  refine hc.mono ?_
  intro e w' hR
  obtain ⟨v, rfl, hS, hW⟩ := hK e w' hR
  show K (a.put o.dst v) w'
  rw [hd]
  exact hK' _ _ hS hW
theorem step_callv1_to {P : Program} {ops : Array Oper} {Q : Exit → Act → World → Prop} {md : Region.Mode} {S : World → Prop} {o : Oper} {fuel : Nat} {listed : Array Bool} {a : Act} {w : World} {R : Ending → World → Prop} (j dst f : Nat) (hj : ops[j]? = some o)
    (hr : Region.ready md ops listed = [j]) (hd : o.dst = some dst) (hw : Region.wanted o (yielded ops a.tmps) = true) (fo x : Operand) (ts : Array TypeId) (hop : o.op = Op.call { callee := Callee.value fo, args := #[x], argTypes := ts })
    (hfo : a.eval fo = .func (.func f) #[] #[]) (vx : Value) (hx : a.eval x = vx) (hcf : ∀ args w, (callFunc f args).run P w = .ok (.enter f args) w) (hc : Calls P f #[vx] w R)
    (hK : ∀ e w', R e w' → ∃ v, e = .returned v ∧ S w' ∧ wpAnyH P md ops Q S fuel (listed.setIfInBounds j true) (a.put (some dst) v) w') : wpAnyH P md ops Q S (fuel + 1) listed a w := by
  refine step_by j hj hr (fun K hK' => ?_)
  rw [if_pos hw]
  have hrun : (execOp a.eval o).run P w = .ok (.enter f #[vx]) w := by
    unfold execOp
    simp [hop, resolve, hfo, Deferred.ofValue, invoke, hx]
    exact hcf _ _
  unfold Oper.wp
  rw [hrun, Oper.upon_enter]
  refine hc.mono ?_
  intro e w' hR
  obtain ⟨v, rfl, hS, hW⟩ := hK e w' hR
  show K (a.put o.dst v) w'
  rw [hd]
  exact hK' _ _ hS hW
theorem step_callv2_to {P : Program} {ops : Array Oper} {Q : Exit → Act → World → Prop} {md : Region.Mode} {S : World → Prop} {o : Oper} {fuel : Nat} {listed : Array Bool} {a : Act} {w : World} {R : Ending → World → Prop} (j dst f : Nat) (hj : ops[j]? = some o)
    (hr : Region.ready md ops listed = [j]) (hd : o.dst = some dst) (hw : Region.wanted o (yielded ops a.tmps) = true) (fo x y : Operand) (ts : Array TypeId) (hop : o.op = Op.call { callee := Callee.value fo, args := #[x, y], argTypes := ts })
    (hfo : a.eval fo = .func (.func f) #[] #[]) (vx vy : Value) (hx : a.eval x = vx) (hy : a.eval y = vy) (hcf : ∀ args w, (callFunc f args).run P w = .ok (.enter f args) w) (hc : Calls P f #[vx, vy] w R)
    (hK : ∀ e w', R e w' → ∃ v, e = .returned v ∧ S w' ∧ wpAnyH P md ops Q S fuel (listed.setIfInBounds j true) (a.put (some dst) v) w') : wpAnyH P md ops Q S (fuel + 1) listed a w := by
  refine step_by j hj hr (fun K hK' => ?_)
  rw [if_pos hw]
  have hrun : (execOp a.eval o).run P w = .ok (.enter f #[vx, vy]) w := by
    unfold execOp
    simp [hop, resolve, hfo, Deferred.ofValue, invoke, hx, hy]
    exact hcf _ _
  unfold Oper.wp
  rw [hrun, Oper.upon_enter]
  refine hc.mono ?_
  intro e w' hR
  obtain ⟨v, rfl, hS, hW⟩ := hK e w' hR
  show K (a.put o.dst v) w'
  rw [hd]
  exact hK' _ _ hS hW
theorem op_eqlAB (ρ : Operand → Value) (o : Oper) (x y : Operand) (tt : TypeId) (ho : o.op = .binOp .eql 23 x y tt) (A B : Vl) (hAB : A = B) (hx : ρ x = .agg #[.int .i64 A.ty, .int .i64 A.n, .string (strOf A.t), .bool A.b]) (hy : ρ y = .agg #[.int .i64 B.ty, .int .i64 B.n, .string (strOf B.t), .bool B.b]) {w : World} : (execOp ρ o).run Tryd.prog w = .ok (.value (.bool true)) w := by
  subst hAB
  exact op_eqlV ρ o x y tt ho A hx hy
theorem wp_with_act {P : Program} {c : Code} {Q : Exit → Act → World → Prop} {a : Act} {w : World} (h : ∀ a0, a0 = a → c.wp P Q a0 w) : c.wp P Q a w := h a rfl
theorem op_call3_to {P : Program} {ops : Array Oper} {Q : Exit → Act → World → Prop} {o : Oper} {a : Act} {w : World} {K : Act → World → Prop} {i : Nat} {R : Ending → World → Prop} (dst f : Nat) (hi : ops[i]? = some o)
    (hd : o.dst = some dst) (hw : Region.wanted o (yielded ops a.tmps) = true) (x y z : Operand) (ts : Array TypeId) (hop : o.op = Op.call { callee := Callee.value (Operand.func f), args := #[x, y, z], argTypes := ts })
    (vx vy vz : Value) (hx : a.eval x = vx) (hy : a.eval y = vy) (hz : a.eval z = vz) (hcf : ∀ args w, (callFunc f args).run P w = .ok (.enter f args) w) (hc : Calls P f #[vx, vy, vz] w R)
    (hK : ∀ e w', R e w' → ∃ v, e = .returned v ∧ K (a.put (some dst) v) w') : wpOp P ops Q i K a w := by
  refine wpOp_step hi (fun K' hK' => ?_)
  rw [if_pos hw]
  have hrun : (execOp a.eval o).run P w = .ok (.enter f #[vx, vy, vz]) w := by
    have hff : a.eval (.func f) = .func (.func f) #[] #[] := rfl
    unfold execOp
    simp [hop, resolve, hff, Deferred.ofValue, invoke, hx, hy, hz]
    exact hcf _ _
  unfold Oper.wp
  rw [hrun, Oper.upon_enter]
  refine hc.mono ?_
  intro e w' hR
  obtain ⟨v, rfl, hW⟩ := hK e w' hR
  show K' (a.put o.dst v) w'
  rw [hd]
  exact hK' _ _ hW
theorem cat_tt (s t : List UInt8) (h : s.length + t.length ≤ 100000000000) (W : World) : Calls Tryd.prog 15 #[.agg #[.int .i64 2, .int .i64 0, .string (strOf s), .bool false], .agg #[.int .i64 2, .int .i64 0, .string (strOf t), .bool false]] W fun e w' => e = .returned (.agg #[.int .i64 2, .int .i64 0, .string (strOf (s ++ t)), .bool false]) ∧ Below W.heap.size W w' := by
  have h1 := cat_any (tV s) (tV t) ⟨(by decide : (-9223372036854775808 : Int) ≤ 2 ∧ (2 : Int) ≤ 9223372036854775807), (by decide : (-9223372036854775808 : Int) ≤ 0 ∧ (0 : Int) ≤ 9223372036854775807)⟩ ⟨(by decide : (-9223372036854775808 : Int) ≤ 2 ∧ (2 : Int) ≤ 9223372036854775807), (by decide : (-9223372036854775808 : Int) ≤ 0 ∧ (0 : Int) ≤ 9223372036854775807)⟩ h W
  have h2 : mathP 23 (tV s) (tV t) = (tV (s ++ t), 0) := rfl
  rw [h2] at h1
  exact h1
theorem cat_tz (s : List UInt8) (h : s.length ≤ 100000000000) (W : World) : Calls Tryd.prog 15 #[.agg #[.int .i64 2, .int .i64 0, .string (strOf s), .bool false], .agg #[.int .i64 0, .int .i64 0, .string { data := #[] }, .bool false]] W fun e w' => e = .returned (.agg #[.int .i64 0, .int .i64 0, .string { data := #[] }, .bool false]) ∧ Below W.heap.size W w' := by
  have h1 := cat_any (tV s) Vl.zero ⟨(by decide : (-9223372036854775808 : Int) ≤ 2 ∧ (2 : Int) ≤ 9223372036854775807), (by decide : (-9223372036854775808 : Int) ≤ 0 ∧ (0 : Int) ≤ 9223372036854775807)⟩ ⟨by decide, by decide⟩ (by show s.length + 0 ≤ _; omega) W
  have h2 : mathP 23 (tV s) Vl.zero = (Vl.zero, 0) := rfl
  rw [h2] at h1
  exact h1
theorem cat_zt (s : List UInt8) (h : s.length ≤ 100000000000) (W : World) : Calls Tryd.prog 15 #[.agg #[.int .i64 0, .int .i64 0, .string { data := #[] }, .bool false], .agg #[.int .i64 2, .int .i64 0, .string (strOf s), .bool false]] W fun e w' => e = .returned (.agg #[.int .i64 0, .int .i64 0, .string { data := #[] }, .bool false]) ∧ Below W.heap.size W w' := by
  have h1 := cat_any Vl.zero (tV s) ⟨by decide, by decide⟩ ⟨(by decide : (-9223372036854775808 : Int) ≤ 2 ∧ (2 : Int) ≤ 9223372036854775807), (by decide : (-9223372036854775808 : Int) ≤ 0 ∧ (0 : Int) ≤ 9223372036854775807)⟩ (by show 0 + s.length ≤ _; omega) W
  have h2 : mathP 23 Vl.zero (tV s) = (Vl.zero, 0) := rfl
  rw [h2] at h1
  exact h1
theorem op_callv2_to {P : Program} {ops : Array Oper} {Q : Exit → Act → World → Prop} {o : Oper} {a : Act} {w : World} {K : Act → World → Prop} {i : Nat} {R : Ending → World → Prop} (dst f : Nat) (hi : ops[i]? = some o)
    (hd : o.dst = some dst) (hw : Region.wanted o (yielded ops a.tmps) = true) (fo x y : Operand) (ts : Array TypeId) (hop : o.op = Op.call { callee := Callee.value fo, args := #[x, y], argTypes := ts })
    (hfo : a.eval fo = .func (.func f) #[] #[]) (vx vy : Value) (hx : a.eval x = vx) (hy : a.eval y = vy) (hcf : ∀ args w, (callFunc f args).run P w = .ok (.enter f args) w) (hc : Calls P f #[vx, vy] w R)
    (hK : ∀ e w', R e w' → ∃ v, e = .returned v ∧ K (a.put (some dst) v) w') : wpOp P ops Q i K a w := by
  refine wpOp_step hi (fun K' hK' => ?_)
  rw [if_pos hw]
  have hrun : (execOp a.eval o).run P w = .ok (.enter f #[vx, vy]) w := by
    unfold execOp
    simp [hop, resolve, hfo, Deferred.ofValue, invoke, hx, hy]
    exact hcf _ _
  unfold Oper.wp
  rw [hrun, Oper.upon_enter]
  refine hc.mono ?_
  intro e w' hR
  obtain ⟨v, rfl, hW⟩ := hK e w' hR
  show K' (a.put o.dst v) w'
  rw [hd]
  exact hK' _ _ hW
theorem op_call2_to {P : Program} {ops : Array Oper} {Q : Exit → Act → World → Prop} {o : Oper} {a : Act} {w : World} {K : Act → World → Prop} {i : Nat} {R : Ending → World → Prop} (dst f : Nat) (hi : ops[i]? = some o)
    (hd : o.dst = some dst) (hw : Region.wanted o (yielded ops a.tmps) = true) (x y : Operand) (ts : Array TypeId) (hop : o.op = Op.call { callee := Callee.value (Operand.func f), args := #[x, y], argTypes := ts })
    (vx vy : Value) (hx : a.eval x = vx) (hy : a.eval y = vy) (hcf : ∀ args w, (callFunc f args).run P w = .ok (.enter f args) w) (hc : Calls P f #[vx, vy] w R)
    (hK : ∀ e w', R e w' → ∃ v, e = .returned v ∧ K (a.put (some dst) v) w') : wpOp P ops Q i K a w := by
  refine wpOp_step hi (fun K' hK' => ?_)
  rw [if_pos hw]
  have hrun : (execOp a.eval o).run P w = .ok (.enter f #[vx, vy]) w := by
    have hff : a.eval (.func f) = .func (.func f) #[] #[] := rfl
    unfold execOp
    simp [hop, resolve, hff, Deferred.ofValue, invoke, hx, hy]
    exact hcf _ _
  unfold Oper.wp
  rw [hrun, Oper.upon_enter]
  refine hc.mono ?_
  intro e w' hR
  obtain ⟨v, rfl, hW⟩ := hK e w' hR
  show K' (a.put o.dst v) w'
  rw [hd]
  exact hK' _ _ hW
theorem op_lenS (ρ : Operand → Value) (o : Oper) (x : Operand) (ho : o.op = .call { callee := .builtin .len, args := #[x], argTypes := #[9] }) (s : ByteArray) (hx : ρ x = .string s) {w : World} : (execOp ρ o).run Tryd.prog w = .ok (.value (.int .i64 (s.size : Int))) w := by
  have hu := Tryd.underlying9
  unfold execOp
  simp [ho, hx, go_sem, resolve, invoke, builtin, Builtin.len_, run_underlying hu, goInt]
theorem buildV4 (a b : List UInt8) (w : World) : (Instr.buildSlice 38 4 #[(0, .agg #[.int .i64 0, .int .i64 0, .string { data := #[] }, .bool false]), (1, .agg #[.int .i64 0, .int .i64 0, .string { data := #[] }, .bool false]), (2, .agg #[.int .i64 2, .int .i64 0, .string (strOf a), .bool false]), (3, .agg #[.int .i64 2, .int .i64 0, .string (strOf b), .bool false])]).run Tryd.prog w = .ok (.slice (some ⟨w.heap.size, 0, none⟩) 4 4) (w.alloc (.cells #[.int .i64 0, .int .i64 0, .string { data := #[] }, .bool false, .int .i64 0, .int .i64 0, .string { data := #[] }, .bool false, .int .i64 2, .int .i64 0, .string (strOf a), .bool false, .int .i64 2, .int .i64 0, .string (strOf b), .bool false] 23)) := by kernel_rfl
theorem op_build4 (ρ : Operand → Value) (o : Oper) (x y z u : Operand) (ho : o.op = .buildSlice 38 4 #[(0, x), (1, y), (2, z), (3, u)]) (a b : List UInt8) (hx : ρ x = .agg #[.int .i64 0, .int .i64 0, .string { data := #[] }, .bool false]) (hy : ρ y = .agg #[.int .i64 0, .int .i64 0, .string { data := #[] }, .bool false]) (hz : ρ z = .agg #[.int .i64 2, .int .i64 0, .string (strOf a), .bool false]) (hu : ρ u = .agg #[.int .i64 2, .int .i64 0, .string (strOf b), .bool false]) (w : World) : (execOp ρ o).run Tryd.prog w = .ok (.value (.slice (some ⟨w.heap.size, 0, none⟩) 4 4)) (w.alloc (.cells #[.int .i64 0, .int .i64 0, .string { data := #[] }, .bool false, .int .i64 0, .int .i64 0, .string { data := #[] }, .bool false, .int .i64 2, .int .i64 0, .string (strOf a), .bool false, .int .i64 2, .int .i64 0, .string (strOf b), .bool false] 23)) := by
  have h : execOp ρ o = (do pure (Next.value (← Instr.buildSlice 38 4 #[(0, .agg #[.int .i64 0, .int .i64 0, .string { data := #[] }, .bool false]), (1, .agg #[.int .i64 0, .int .i64 0, .string { data := #[] }, .bool false]), (2, .agg #[.int .i64 2, .int .i64 0, .string (strOf a), .bool false]), (3, .agg #[.int .i64 2, .int .i64 0, .string (strOf b), .bool false])]))) := by
    unfold execOp
    simp [ho, hx, hy, hz, hu]
  rw [h, Sem.run_bind, buildV4]
  rfl
theorem vs4 (W : World) (a b : List UInt8) : VsAt (W.alloc (.cells #[.int .i64 0, .int .i64 0, .string { data := #[] }, .bool false, .int .i64 0, .int .i64 0, .string { data := #[] }, .bool false, .int .i64 2, .int .i64 0, .string (strOf a), .bool false, .int .i64 2, .int .i64 0, .string (strOf b), .bool false] 23)) (.slice (some ⟨W.heap.size, 0, none⟩) 4 4) [Vl.zero, Vl.zero, tV a, tV b] := by
  refine ⟨_, _, rfl, Nat.le_refl _, by simp [maxLen], fun _ => ⟨_, _, rfl, fun j u hu => ?_⟩⟩
  rw [Nat.zero_add, cell_row (heap_alloc_new W _)]
  have e : (vsCells [Vl.zero, Vl.zero, tV a, tV b]) = #[.int .i64 0, .int .i64 0, .string { data := #[] }, .bool false, .int .i64 0, .int .i64 0, .string { data := #[] }, .bool false, .int .i64 2, .int .i64 0, .string (strOf a), .bool false, .int .i64 2, .int .i64 0, .string (strOf b), .bool false].toList := rfl
  rw [e] at hu
  simpa using hu
theorem tri_new (w : World) (A B D : Vl) : Box (((w.alloc (.cells #[.int .i64 A.ty, .int .i64 A.n, .string (strOf A.t), .bool A.b] 23)).alloc (.cells #[.int .i64 B.ty, .int .i64 B.n, .string (strOf B.t), .bool B.b] 23)).alloc (.cells #[.int .i64 D.ty, .int .i64 D.n, .string (strOf D.t), .bool D.b] 23)) w.heap.size A ∧ Box (((w.alloc (.cells #[.int .i64 A.ty, .int .i64 A.n, .string (strOf A.t), .bool A.b] 23)).alloc (.cells #[.int .i64 B.ty, .int .i64 B.n, .string (strOf B.t), .bool B.b] 23)).alloc (.cells #[.int .i64 D.ty, .int .i64 D.n, .string (strOf D.t), .bool D.b] 23)) (w.heap.size + 1) B ∧ Box (((w.alloc (.cells #[.int .i64 A.ty, .int .i64 A.n, .string (strOf A.t), .bool A.b] 23)).alloc (.cells #[.int .i64 B.ty, .int .i64 B.n, .string (strOf B.t), .bool B.b] 23)).alloc (.cells #[.int .i64 D.ty, .int .i64 D.n, .string (strOf D.t), .bool D.b] 23)) (w.heap.size + 1 + 1) D := by
  refine ⟨((box_new w A).belowW ((Below.refl _ _).alloc (Nat.le_refl _) _)).belowW ((Below.refl _ _).alloc (Nat.le_refl _) _), ?_, ?_⟩
  · have := box_new (w.alloc (.cells #[.int .i64 A.ty, .int .i64 A.n, .string (strOf A.t), .bool A.b] 23)) B
    rw [show (w.alloc (.cells #[.int .i64 A.ty, .int .i64 A.n, .string (strOf A.t), .bool A.b] 23)).heap.size = w.heap.size + 1 by simp] at this
    exact this.belowW ((Below.refl _ _).alloc (Nat.le_refl _) _)
  · have := box_new ((w.alloc (.cells #[.int .i64 A.ty, .int .i64 A.n, .string (strOf A.t), .bool A.b] 23)).alloc (.cells #[.int .i64 B.ty, .int .i64 B.n, .string (strOf B.t), .bool B.b] 23)) D
    rwa [show ((w.alloc (.cells #[.int .i64 A.ty, .int .i64 A.n, .string (strOf A.t), .bool A.b] 23)).alloc (.cells #[.int .i64 B.ty, .int .i64 B.n, .string (strOf B.t), .bool B.b] 23)).heap.size = w.heap.size + 1 + 1 by simp] at this
structure T4 (p8 p11 : Nat) (a b c : List UInt8) (N : Int) (W : World) : Prop where
  x : Box W p8 (tV a)
  y : Box W (p8 + 1) (tV b)
  z : Box W (p8 + 1 + 1) (tV c)
  n : Box W p11 (nV N)
theorem T4.belowW {p8 p11 : Nat} {a b c : List UInt8} {N : Int} {w w' : World} (h : T4 p8 p11 a b c N w) (hb : Below w.heap.size w w') : T4 p8 p11 a b c N w' := ⟨h.x.belowW hb, h.y.belowW hb, h.z.belowW hb, h.n.belowW hb⟩
theorem T4.other {p8 p11 : Nat} {a b c : List UInt8} {N : Int} {w : World} (h : T4 p8 p11 a b c N w) (C : Array Value) {k : Nat} (h8 : p8 + 1 + 1 < k) (h11 : p11 < k) : T4 p8 p11 a b c N (w.setRow k C) := ⟨h.x.other C (by omega), h.y.other C (by omega), h.z.other C (by omega), h.n.other C (by omega)⟩
structure T5 (p8 p11 p13 : Nat) (a b c : List UInt8) (N : Int) (W : World) : Prop where
  t : T4 p8 p11 a b c N W
  v : Box W p13 (tV a)
theorem T5.belowW {p8 p11 p13 : Nat} {a b c : List UInt8} {N : Int} {w w' : World} (h : T5 p8 p11 p13 a b c N w) (hb : Below w.heap.size w w') : T5 p8 p11 p13 a b c N w' := ⟨h.t.belowW hb, h.v.belowW hb⟩
set_option maxHeartbeats 32000000 in
theorem texts_walk (a b c : List UInt8) (hl : a.length + b.length + c.length ≤ 2000000) (m : Int) (w : World) (hm : w.cell? ⟨1, 0, none⟩ = some (.int .i64 m)) :
    Calls Tryd.prog 4 #[.string (strOf a), .string (strOf b), .string (strOf c)] w fun e w' => e = .returned (.bool true) ∧ Below w.heap.size w w' := by
  have HTX : Hid (∀ t W, Calls Tryd.prog 10 #[.string (strOf t)] W fun e w' => e = .returned (.agg #[.int .i64 2, .int .i64 0, .string (strOf t), .bool false]) ∧ Below W.heap.size W w') := lawText_any
  have HAW : Hid (∀ W, Below w.heap.size w W → Calls Tryd.prog 14 #[] W fun e w' => e = .returned (.bool true) ∧ Below W.heap.size W w') := fun W hW => awake_any m W ((hW.cell (p := ⟨1, 0, none⟩) (World.block_lt_of_cell? w _ hm)).trans hm)
  have HC1 : Hid (∀ W, Calls Tryd.prog 15 #[.agg #[.int .i64 2, .int .i64 0, .string (strOf a), .bool false], .agg #[.int .i64 2, .int .i64 0, .string (strOf b), .bool false]] W fun e w' => e = .returned (.agg #[.int .i64 2, .int .i64 0, .string (strOf (a ++ b)), .bool false]) ∧ Below W.heap.size W w') := cat_tt a b (by omega)
  have HLN : Hid (∀ W, Calls Tryd.prog 17 #[.string { data := #[108, 101, 110, 103, 116, 104] }, .slice (some ⟨W.heap.size, 0, none⟩) 1 1] (W.alloc (.cells #[.int .i64 2, .int .i64 0, .string (strOf (a ++ b)), .bool false] 23)) fun e w' => e = .returned (.tuple #[.agg #[.int .i64 1, .int .i64 ((a ++ b).length : Int), .string { data := #[] }, .bool false], .int .i64 0]) ∧ Below W.heap.size W w') := fun W => (call_len (a ++ b) (vs1 W (tV (a ++ b)))).mono fun e w' ⟨h1, h2⟩ => ⟨h1, ((Below.refl _ W).alloc (Nat.le_refl _) _).trans (h2.mono (by simp))⟩
  have HL := hide hl
  clear hm hl
  have HNN : Hid (((a ++ b).length : Int) = ((a ++ b).length : Int)) := rfl
  generalize hN : ((a ++ b).length : Int) = NN at *
  have HN2 := hide hN
  clear hN HNN
  go_enter Tryd.func4, Tryd.ntmps4
  go_upto_region 4 with (first
    | (go_at_call 17; refine (HLN.out _).mono ?_; rintro e W5 ⟨rfl, hb5⟩; have HB5 := hide hb5; clear hb5)
    | (go_at_call 15; refine (HC1.out _).mono ?_; rintro e W4 ⟨rfl, hb4⟩; have HB4 := hide hb4; clear hb4)
    | (have _t := HB2; go_at_call 10; refine (HTX.out _ _).mono ?_; rintro e W3 ⟨rfl, hb3⟩; have HB3 := hide hb3; clear hb3)
    | (have _t := HB1; go_at_call 10; refine (HTX.out _ _).mono ?_; rintro e W2 ⟨rfl, hb2⟩; have HB2 := hide hb2; clear hb2)
    | (go_at_call 10; refine (HTX.out _ _).mono ?_; rintro e W1 ⟨rfl, hb1⟩; have HB1 := hide hb1; clear hb1))
  have HBT := allocW (allocW (allocW (thenW (thenW HB1.out HB2.out) HB3.out) (.cells #[.int .i64 2, .int .i64 0, .string (strOf a), .bool false] 23)) (.cells #[.int .i64 2, .int .i64 0, .string (strOf b), .bool false] 23)) (.cells #[.int .i64 2, .int .i64 0, .string (strOf c), .bool false] 23)
  have HF := hide (allocW (thenW (thenW HBT HB4.out) HB5.out) (.cells #[.int .i64 1, .int .i64 NN, .string { data := #[] }, .bool false] 23))
  obtain ⟨t1, t2, t3⟩ := tri_new W3 (tV a) (tV b) (tV c)
  have HS : Hid (T4 W3.heap.size W5.heap.size a b c NN (W5.alloc (.cells #[.int .i64 1, .int .i64 NN, .string { data := #[] }, .bool false] 23))) := ⟨((t1.belowW HB4.out).belowW HB5.out).belowW ((Below.refl _ _).alloc (Nat.le_refl _) _), ((t2.belowW HB4.out).belowW HB5.out).belowW ((Below.refl _ _).alloc (Nat.le_refl _) _), ((t3.belowW HB4.out).belowW HB5.out).belowW ((Below.refl _ _).alloc (Nat.le_refl _) _), heap_alloc_new _ _⟩
  clear t1 t2 t3 HBT HB1 HB2 HB3 HB4 HB5 HLN HC1
  generalize W5.alloc (.cells #[.int .i64 1, .int .i64 NN, .string { data := #[] }, .bool false] 23) = Ws at *
  generalize W5.heap.size = p11 at *
  generalize W3.heap.size = p8 at *
  generalize W4.heap.size = g26 at *
  have hd0 : Below Ws.heap.size Ws Ws.drew := below_drewN _ _ 1
  have l8 := lt_of_heap HS.out.z
  have l11 := lt_of_heap HS.out.n
  have HCZ : Hid (∀ W, Calls Tryd.prog 15 #[.agg #[.int .i64 2, .int .i64 0, .string (strOf a), .bool false], .agg #[.int .i64 0, .int .i64 0, .string { data := #[] }, .bool false]] W fun e w' => e = .returned (.agg #[.int .i64 0, .int .i64 0, .string { data := #[] }, .bool false]) ∧ Below W.heap.size W w') := cat_tz a (by have := HL.out; omega)
  have HCO : Hid (∀ W g, VsAt W (.slice (some ⟨g, 0, none⟩) 4 4) [Vl.zero, Vl.zero, tV a, tV b] → Calls Tryd.prog 17 #[.string { data := #[99, 111, 97, 108, 101, 115, 99, 101] }, .slice (some ⟨g, 0, none⟩) 4 4] W fun e w' => e = .returned (.tuple #[.agg #[.int .i64 2, .int .i64 0, .string (strOf a), .bool false], .int .i64 0]) ∧ Below W.heap.size W w') := fun W g h => call_coal h rfl a (by have := HL.out; omega) rfl rfl
  refine wp_with_act (fun a0 ha0 => ?_)
  refine Code.wp_mono (Q := fun e a' W => e = .normal ∧ ∃ p13 g38, (T5 p8 p11 p13 a b c NN W ∧ Below Ws.heap.size Ws W) ∧ a' = ((((((((((((((a0.put (some 31) (.agg #[.int .i64 0, .int .i64 0, .string { data := #[] }, .bool false])).put (some 32) (.func (.func 15) #[] #[])).put (some 33) (.agg #[.int .i64 2, .int .i64 0, .string (strOf a), .bool false])).put (some 34) (.agg #[.int .i64 0, .int .i64 0, .string { data := #[] }, .bool false])).put (some 35) (.agg #[.int .i64 0, .int .i64 0, .string { data := #[] }, .bool false])).put (some 36) (.agg #[.int .i64 2, .int .i64 0, .string (strOf a), .bool false])).put (some 37) (.agg #[.int .i64 2, .int .i64 0, .string (strOf b), .bool false])).put (some 38) (.slice (some ⟨g38, 0, none⟩) 4 4)).put (some 39) (.tuple #[.agg #[.int .i64 2, .int .i64 0, .string (strOf a), .bool false], .int .i64 0])).put (some 30) (.tuple #[.agg #[.int .i64 2, .int .i64 0, .string (strOf a), .bool false], .int .i64 0])).put (some 40) (.agg #[.int .i64 2, .int .i64 0, .string (strOf a), .bool false])).put (some 41) (.int .i64 0)).put (some 13) (.pointer (some ⟨p13, 0, none⟩))).put (some 14) (.int .i64 0))) ?cont ?region
  case region =>
    rw [ha0]
    refine wp_region_held_drew (S := T4 p8 p11 a b c NN) (by kernel_rfl) (HS.out.belowW hd0) (fun hH => ?_)
    refine take_to 0 31 (.agg #[.int .i64 0, .int .i64 0, .string { data := #[] }, .bool false]) rfl (by kernel_rfl) (by kernel_rfl) (by kernel_rfl) (fun _ _ _ h => (by cases h.1)) rfl (by rfl) (fun w hw => by first | rfl | kernel_rfl) hH ?_
    simp only [Act.put, List.setIfInBounds_toArray, List.set_cons_zero, List.set_cons_succ]
    refine take_to 1 32 (.func (.func 15) #[] #[]) rfl (by kernel_rfl) (by kernel_rfl) (by kernel_rfl) (fun _ _ _ h => (by cases h.1)) rfl (by rfl) (fun w hw => by rfl) hH ?_
    simp only [Act.put, List.setIfInBounds_toArray, List.set_cons_zero, List.set_cons_succ]
    refine take_to 2 33 (.agg #[.int .i64 2, .int .i64 0, .string (strOf a), .bool false]) rfl (by kernel_rfl) (by kernel_rfl) (by kernel_rfl) (fun _ _ _ h => (by cases h.1)) rfl (by rfl) (fun w hw => op_load _ _ 23 (.tmp 8) rfl (.pointer (some ⟨p8, 0, none⟩)) _ rfl (load23 hw.x)) hH ?_
    simp only [Act.put, List.setIfInBounds_toArray, List.set_cons_zero, List.set_cons_succ]
    refine take_to 3 34 (.agg #[.int .i64 0, .int .i64 0, .string { data := #[] }, .bool false]) rfl (by kernel_rfl) (by kernel_rfl) (by kernel_rfl) (fun _ _ _ h => (by cases h.1)) rfl (by rfl) (fun w hw => by first | rfl | kernel_rfl) hH ?_
    simp only [Act.put, List.setIfInBounds_toArray, List.set_cons_zero, List.set_cons_succ]
    refine take_to 5 36 (.agg #[.int .i64 2, .int .i64 0, .string (strOf a), .bool false]) rfl (by kernel_rfl) (by kernel_rfl) (by kernel_rfl) (fun _ _ _ h => (by cases h.1)) rfl (by rfl) (fun w hw => op_load _ _ 23 (.tmp 8) rfl (.pointer (some ⟨p8, 0, none⟩)) _ rfl (load23 hw.x)) hH ?_
    simp only [Act.put, List.setIfInBounds_toArray, List.set_cons_zero, List.set_cons_succ]
    refine take_to 6 37 (.agg #[.int .i64 2, .int .i64 0, .string (strOf b), .bool false]) rfl (by kernel_rfl) (by kernel_rfl) (by kernel_rfl) (fun _ _ _ h => (by cases h.1)) rfl (by rfl) (fun w hw => op_load _ _ 23 (.tmp 9) rfl (.pointer (some ⟨p8 + 1, 0, none⟩)) _ rfl (load23 hw.y)) hH ?_
    simp only [Act.put, List.setIfInBounds_toArray, List.set_cons_zero, List.set_cons_succ]
    generalize Ws.drew = U0 at *
    refine wpAnyH_all (rs := [4, 12]) (by kernel_rfl) (by simp) ?_
    intro n hn
    rcases (by simpa using hn : n = 4 ∨ n = 12) with rfl | rfl
    · skip
      refine op_callv2_to 35 15 rfl rfl (by rfl) (.tmp 32) (.tmp 33) (.tmp 34) _ rfl rfl _ _ rfl rfl Tryd.enters15 (HCZ.out _) ?_
      rintro e U1 ⟨rfl, hbU1⟩
      have hU1 := thenW hd0 hbU1
      refine ⟨_, rfl, HS.out.belowW hU1, ?_⟩
      simp only [Act.put, List.setIfInBounds_toArray, List.set_cons_zero, List.set_cons_succ]
      refine wpAnyH_all (rs := [7, 12]) (by kernel_rfl) (by simp) ?_
      intro n hn
      rcases (by simpa using hn : n = 7 ∨ n = 12) with rfl | rfl
      · skip
        have hU2 := allocW' hU1 (.cells #[.int .i64 0, .int .i64 0, .string { data := #[] }, .bool false, .int .i64 0, .int .i64 0, .string { data := #[] }, .bool false, .int .i64 2, .int .i64 0, .string (strOf a), .bool false, .int .i64 2, .int .i64 0, .string (strOf b), .bool false] 23)
        refine op_to 38 (.slice (some ⟨U1.heap.size, 0, none⟩) 4 4) (U1.alloc (.cells #[.int .i64 0, .int .i64 0, .string { data := #[] }, .bool false, .int .i64 0, .int .i64 0, .string { data := #[] }, .bool false, .int .i64 2, .int .i64 0, .string (strOf a), .bool false, .int .i64 2, .int .i64 0, .string (strOf b), .bool false] 23)) rfl rfl (by rfl) (op_build4 _ _ (.tmp 31) (.tmp 35) (.tmp 36) (.tmp 37) rfl a b rfl rfl rfl rfl _) ⟨HS.out.belowW hU2, ?_⟩
        simp only [Act.put, List.setIfInBounds_toArray, List.set_cons_zero, List.set_cons_succ]
        have vU2 := vs4 U1 a b
        generalize U1.alloc (.cells #[.int .i64 0, .int .i64 0, .string { data := #[] }, .bool false, .int .i64 0, .int .i64 0, .string { data := #[] }, .bool false, .int .i64 2, .int .i64 0, .string (strOf a), .bool false, .int .i64 2, .int .i64 0, .string (strOf b), .bool false] 23) = U2 at hU2 vU2 ⊢
        generalize U1.heap.size = g38 at vU2 ⊢
        refine wpAnyH_all (rs := [8, 12]) (by kernel_rfl) (by simp) ?_
        intro n hn
        rcases (by simpa using hn : n = 8 ∨ n = 12) with rfl | rfl
        · skip
          refine op_call2_to 39 17 rfl rfl (by rfl) (.const (.string { data := #[99, 111, 97, 108, 101, 115, 99, 101] })) (.tmp 38) _ rfl _ _ rfl rfl Tryd.enters17 (HCO.out _ _ (vU2)) ?_
          rintro e U3 ⟨rfl, hbU3⟩
          have hU3 := thenW hU2 hbU3
          refine ⟨_, rfl, HS.out.belowW hU3, ?_⟩
          simp only [Act.put, List.setIfInBounds_toArray, List.set_cons_zero, List.set_cons_succ]
          have hT := HS.out.belowW hU3
          refine take_to 9 30 (.tuple #[.agg #[.int .i64 2, .int .i64 0, .string (strOf a), .bool false], .int .i64 0]) rfl (by kernel_rfl) (by kernel_rfl) (by kernel_rfl) (fun _ _ _ h => (by cases h.1)) rfl (by rfl) (fun w hw => by rfl) hT ?_
          simp only [Act.put, List.setIfInBounds_toArray, List.set_cons_zero, List.set_cons_succ]
          refine take_to 10 40 (.agg #[.int .i64 2, .int .i64 0, .string (strOf a), .bool false]) rfl (by kernel_rfl) (by kernel_rfl) (by kernel_rfl) (fun _ _ _ h => (by cases h.1)) rfl (by rfl) (fun w hw => by rfl) hT ?_
          simp only [Act.put, List.setIfInBounds_toArray, List.set_cons_zero, List.set_cons_succ]
          refine take_to 11 41 (.int .i64 0) rfl (by kernel_rfl) (by kernel_rfl) (by kernel_rfl) (fun _ _ _ h => (by cases h.1)) rfl (by rfl) (fun w hw => by rfl) hT ?_
          simp only [Act.put, List.setIfInBounds_toArray, List.set_cons_zero, List.set_cons_succ]
          have hU4 := allocW' hU3 (.cells #[.int .i64 0, .int .i64 0, .string { data := #[] }, .bool false] 23)
          refine step_to 12 13 (.pointer (some ⟨U3.heap.size, 0, none⟩)) (U3.alloc (.cells #[.int .i64 0, .int .i64 0, .string { data := #[] }, .bool false] 23)) rfl (by kernel_rfl) rfl (by rfl) (op_alloc23 _ _ rfl _) (HS.out.belowW hU4) ?_
          simp only [Act.put, List.setIfInBounds_toArray, List.set_cons_zero, List.set_cons_succ]
          have nU4 : Box (U3.alloc (.cells #[.int .i64 0, .int .i64 0, .string { data := #[] }, .bool false] 23)) U3.heap.size Vl.zero := heap_alloc_new _ _
          have bU4 : Below U3.heap.size U3 (U3.alloc (.cells #[.int .i64 0, .int .i64 0, .string { data := #[] }, .bool false] 23)) := (Below.refl _ _).alloc (Nat.le_refl _) _
          have hg := (hU3).size
          generalize U3.alloc (.cells #[.int .i64 0, .int .i64 0, .string { data := #[] }, .bool false] 23) = U4 at hU4 nU4 bU4 ⊢
          generalize hp13 : U3.heap.size = p13 at nU4 hg ⊢
          have hT3 := (HS.out.belowW hU4).other #[.int .i64 2, .int .i64 0, .string (strOf a), .bool false] (k := p13) (by omega) (by omega)
          refine step_store_to 13 (U4.setRow p13 #[.int .i64 2, .int .i64 0, .string (strOf a), .bool false]) rfl (by kernel_rfl) rfl (by rfl) 23 (.tmp 13) (.tmp 40) rfl _ _ rfl rfl (store_val (nU4) (tV a)) hT3 ?_
          refine step_to 14 14 (.int .i64 0) _ rfl (by kernel_rfl) rfl (by rfl) rfl hT3 ?_
          simp only [Act.put, List.setIfInBounds_toArray, List.set_cons_zero, List.set_cons_succ]
          refine wpAnyH_done (by kernel_rfl) ?_ _
          exact ⟨rfl, _, _, ⟨⟨hT3, Box.after (nU4) (tV a)⟩, below_setRow hU4 hg _⟩, rfl⟩
        · skip
          have hU3 := allocW' hU2 (.cells #[.int .i64 0, .int .i64 0, .string { data := #[] }, .bool false] 23)
          refine op_to 13 (.pointer (some ⟨U2.heap.size, 0, none⟩)) (U2.alloc (.cells #[.int .i64 0, .int .i64 0, .string { data := #[] }, .bool false] 23)) rfl rfl (by rfl) (op_alloc23 _ _ rfl _) ⟨HS.out.belowW hU3, ?_⟩
          simp only [Act.put, List.setIfInBounds_toArray, List.set_cons_zero, List.set_cons_succ]
          have nU3 : Box (U2.alloc (.cells #[.int .i64 0, .int .i64 0, .string { data := #[] }, .bool false] 23)) U2.heap.size Vl.zero := heap_alloc_new _ _
          have bU3 : Below U2.heap.size U2 (U2.alloc (.cells #[.int .i64 0, .int .i64 0, .string { data := #[] }, .bool false] 23)) := (Below.refl _ _).alloc (Nat.le_refl _) _
          have hg := (hU2).size
          generalize U2.alloc (.cells #[.int .i64 0, .int .i64 0, .string { data := #[] }, .bool false] 23) = U3 at hU3 nU3 bU3 ⊢
          generalize hp13 : U2.heap.size = p13 at nU3 hg ⊢
          refine step_call2_to 8 39 17 rfl (by kernel_rfl) rfl (by rfl) (.const (.string { data := #[99, 111, 97, 108, 101, 115, 99, 101] })) (.tmp 38) _ rfl _ _ rfl rfl Tryd.enters17 (HCO.out _ _ (vU2.belowW bU3)) ?_
          rintro e U4 ⟨rfl, hbU4⟩
          have hU4 := thenW hU3 hbU4
          refine ⟨_, rfl, HS.out.belowW hU4, ?_⟩
          simp only [Act.put, List.setIfInBounds_toArray, List.set_cons_zero, List.set_cons_succ]
          have hT := HS.out.belowW hU4
          refine take_to 9 30 (.tuple #[.agg #[.int .i64 2, .int .i64 0, .string (strOf a), .bool false], .int .i64 0]) rfl (by kernel_rfl) (by kernel_rfl) (by kernel_rfl) (fun _ _ _ h => (by cases h.1)) rfl (by rfl) (fun w hw => by rfl) hT ?_
          simp only [Act.put, List.setIfInBounds_toArray, List.set_cons_zero, List.set_cons_succ]
          refine take_to 10 40 (.agg #[.int .i64 2, .int .i64 0, .string (strOf a), .bool false]) rfl (by kernel_rfl) (by kernel_rfl) (by kernel_rfl) (fun _ _ _ h => (by cases h.1)) rfl (by rfl) (fun w hw => by rfl) hT ?_
          simp only [Act.put, List.setIfInBounds_toArray, List.set_cons_zero, List.set_cons_succ]
          refine take_to 11 41 (.int .i64 0) rfl (by kernel_rfl) (by kernel_rfl) (by kernel_rfl) (fun _ _ _ h => (by cases h.1)) rfl (by rfl) (fun w hw => by rfl) hT ?_
          simp only [Act.put, List.setIfInBounds_toArray, List.set_cons_zero, List.set_cons_succ]
          have hT3 := (HS.out.belowW hU4).other #[.int .i64 2, .int .i64 0, .string (strOf a), .bool false] (k := p13) (by omega) (by omega)
          refine step_store_to 13 (U4.setRow p13 #[.int .i64 2, .int .i64 0, .string (strOf a), .bool false]) rfl (by kernel_rfl) rfl (by rfl) 23 (.tmp 13) (.tmp 40) rfl _ _ rfl rfl (store_val (nU3.belowW hbU4) (tV a)) hT3 ?_
          refine step_to 14 14 (.int .i64 0) _ rfl (by kernel_rfl) rfl (by rfl) rfl hT3 ?_
          simp only [Act.put, List.setIfInBounds_toArray, List.set_cons_zero, List.set_cons_succ]
          refine wpAnyH_done (by kernel_rfl) ?_ _
          exact ⟨rfl, _, _, ⟨⟨hT3, Box.after (nU3.belowW hbU4) (tV a)⟩, below_setRow hU4 hg _⟩, rfl⟩
      · skip
        have hU2 := allocW' hU1 (.cells #[.int .i64 0, .int .i64 0, .string { data := #[] }, .bool false] 23)
        refine op_to 13 (.pointer (some ⟨U1.heap.size, 0, none⟩)) (U1.alloc (.cells #[.int .i64 0, .int .i64 0, .string { data := #[] }, .bool false] 23)) rfl rfl (by rfl) (op_alloc23 _ _ rfl _) ⟨HS.out.belowW hU2, ?_⟩
        simp only [Act.put, List.setIfInBounds_toArray, List.set_cons_zero, List.set_cons_succ]
        have nU2 : Box (U1.alloc (.cells #[.int .i64 0, .int .i64 0, .string { data := #[] }, .bool false] 23)) U1.heap.size Vl.zero := heap_alloc_new _ _
        have bU2 : Below U1.heap.size U1 (U1.alloc (.cells #[.int .i64 0, .int .i64 0, .string { data := #[] }, .bool false] 23)) := (Below.refl _ _).alloc (Nat.le_refl _) _
        have hg := (hU1).size
        generalize U1.alloc (.cells #[.int .i64 0, .int .i64 0, .string { data := #[] }, .bool false] 23) = U2 at hU2 nU2 bU2 ⊢
        generalize hp13 : U1.heap.size = p13 at nU2 hg ⊢
        have bb : Below U2.heap.size U2 (U2.alloc (.cells #[.int .i64 0, .int .i64 0, .string { data := #[] }, .bool false, .int .i64 0, .int .i64 0, .string { data := #[] }, .bool false, .int .i64 2, .int .i64 0, .string (strOf a), .bool false, .int .i64 2, .int .i64 0, .string (strOf b), .bool false] 23)) := (Below.refl _ _).alloc (Nat.le_refl _) _
        have nn := nU2.belowW bb
        clear bb
        have hU3 := allocW' hU2 (.cells #[.int .i64 0, .int .i64 0, .string { data := #[] }, .bool false, .int .i64 0, .int .i64 0, .string { data := #[] }, .bool false, .int .i64 2, .int .i64 0, .string (strOf a), .bool false, .int .i64 2, .int .i64 0, .string (strOf b), .bool false] 23)
        refine step_to 7 38 (.slice (some ⟨U2.heap.size, 0, none⟩) 4 4) (U2.alloc (.cells #[.int .i64 0, .int .i64 0, .string { data := #[] }, .bool false, .int .i64 0, .int .i64 0, .string { data := #[] }, .bool false, .int .i64 2, .int .i64 0, .string (strOf a), .bool false, .int .i64 2, .int .i64 0, .string (strOf b), .bool false] 23)) rfl (by kernel_rfl) rfl (by rfl) (op_build4 _ _ (.tmp 31) (.tmp 35) (.tmp 36) (.tmp 37) rfl a b rfl rfl rfl rfl _) (HS.out.belowW hU3) ?_
        simp only [Act.put, List.setIfInBounds_toArray, List.set_cons_zero, List.set_cons_succ]
        have vU3 := vs4 U2 a b
        generalize U2.alloc (.cells #[.int .i64 0, .int .i64 0, .string { data := #[] }, .bool false, .int .i64 0, .int .i64 0, .string { data := #[] }, .bool false, .int .i64 2, .int .i64 0, .string (strOf a), .bool false, .int .i64 2, .int .i64 0, .string (strOf b), .bool false] 23) = U3 at hU3 vU3 nn ⊢
        generalize U2.heap.size = g38 at vU3 ⊢
        refine step_call2_to 8 39 17 rfl (by kernel_rfl) rfl (by rfl) (.const (.string { data := #[99, 111, 97, 108, 101, 115, 99, 101] })) (.tmp 38) _ rfl _ _ rfl rfl Tryd.enters17 (HCO.out _ _ (vU3)) ?_
        rintro e U4 ⟨rfl, hbU4⟩
        have hU4 := thenW hU3 hbU4
        refine ⟨_, rfl, HS.out.belowW hU4, ?_⟩
        simp only [Act.put, List.setIfInBounds_toArray, List.set_cons_zero, List.set_cons_succ]
        have hT := HS.out.belowW hU4
        refine take_to 9 30 (.tuple #[.agg #[.int .i64 2, .int .i64 0, .string (strOf a), .bool false], .int .i64 0]) rfl (by kernel_rfl) (by kernel_rfl) (by kernel_rfl) (fun _ _ _ h => (by cases h.1)) rfl (by rfl) (fun w hw => by rfl) hT ?_
        simp only [Act.put, List.setIfInBounds_toArray, List.set_cons_zero, List.set_cons_succ]
        refine take_to 10 40 (.agg #[.int .i64 2, .int .i64 0, .string (strOf a), .bool false]) rfl (by kernel_rfl) (by kernel_rfl) (by kernel_rfl) (fun _ _ _ h => (by cases h.1)) rfl (by rfl) (fun w hw => by rfl) hT ?_
        simp only [Act.put, List.setIfInBounds_toArray, List.set_cons_zero, List.set_cons_succ]
        refine take_to 11 41 (.int .i64 0) rfl (by kernel_rfl) (by kernel_rfl) (by kernel_rfl) (fun _ _ _ h => (by cases h.1)) rfl (by rfl) (fun w hw => by rfl) hT ?_
        simp only [Act.put, List.setIfInBounds_toArray, List.set_cons_zero, List.set_cons_succ]
        have hT3 := (HS.out.belowW hU4).other #[.int .i64 2, .int .i64 0, .string (strOf a), .bool false] (k := p13) (by omega) (by omega)
        refine step_store_to 13 (U4.setRow p13 #[.int .i64 2, .int .i64 0, .string (strOf a), .bool false]) rfl (by kernel_rfl) rfl (by rfl) 23 (.tmp 13) (.tmp 40) rfl _ _ rfl rfl (store_val (nn.belowW hbU4) (tV a)) hT3 ?_
        refine step_to 14 14 (.int .i64 0) _ rfl (by kernel_rfl) rfl (by rfl) rfl hT3 ?_
        simp only [Act.put, List.setIfInBounds_toArray, List.set_cons_zero, List.set_cons_succ]
        refine wpAnyH_done (by kernel_rfl) ?_ _
        exact ⟨rfl, _, _, ⟨⟨hT3, Box.after (nn.belowW hbU4) (tV a)⟩, below_setRow hU4 hg _⟩, rfl⟩
    · skip
      have hU1 := allocW' hd0 (.cells #[.int .i64 0, .int .i64 0, .string { data := #[] }, .bool false] 23)
      refine op_to 13 (.pointer (some ⟨U0.heap.size, 0, none⟩)) (U0.alloc (.cells #[.int .i64 0, .int .i64 0, .string { data := #[] }, .bool false] 23)) rfl rfl (by rfl) (op_alloc23 _ _ rfl _) ⟨HS.out.belowW hU1, ?_⟩
      simp only [Act.put, List.setIfInBounds_toArray, List.set_cons_zero, List.set_cons_succ]
      have nU1 : Box (U0.alloc (.cells #[.int .i64 0, .int .i64 0, .string { data := #[] }, .bool false] 23)) U0.heap.size Vl.zero := heap_alloc_new _ _
      have bU1 : Below U0.heap.size U0 (U0.alloc (.cells #[.int .i64 0, .int .i64 0, .string { data := #[] }, .bool false] 23)) := (Below.refl _ _).alloc (Nat.le_refl _) _
      have hg := (hd0).size
      generalize U0.alloc (.cells #[.int .i64 0, .int .i64 0, .string { data := #[] }, .bool false] 23) = U1 at hU1 nU1 bU1 ⊢
      generalize hp13 : U0.heap.size = p13 at nU1 hg ⊢
      refine step_callv2_to 4 35 15 rfl (by kernel_rfl) rfl (by rfl) (.tmp 32) (.tmp 33) (.tmp 34) _ rfl rfl _ _ rfl rfl Tryd.enters15 (HCZ.out _) ?_
      rintro e U2 ⟨rfl, hbU2⟩
      have hU2 := thenW hU1 hbU2
      refine ⟨_, rfl, HS.out.belowW hU2, ?_⟩
      simp only [Act.put, List.setIfInBounds_toArray, List.set_cons_zero, List.set_cons_succ]
      have bb : Below U2.heap.size U2 (U2.alloc (.cells #[.int .i64 0, .int .i64 0, .string { data := #[] }, .bool false, .int .i64 0, .int .i64 0, .string { data := #[] }, .bool false, .int .i64 2, .int .i64 0, .string (strOf a), .bool false, .int .i64 2, .int .i64 0, .string (strOf b), .bool false] 23)) := (Below.refl _ _).alloc (Nat.le_refl _) _
      have nn := (nU1.belowW hbU2).belowW bb
      clear bb
      have hU3 := allocW' hU2 (.cells #[.int .i64 0, .int .i64 0, .string { data := #[] }, .bool false, .int .i64 0, .int .i64 0, .string { data := #[] }, .bool false, .int .i64 2, .int .i64 0, .string (strOf a), .bool false, .int .i64 2, .int .i64 0, .string (strOf b), .bool false] 23)
      refine step_to 7 38 (.slice (some ⟨U2.heap.size, 0, none⟩) 4 4) (U2.alloc (.cells #[.int .i64 0, .int .i64 0, .string { data := #[] }, .bool false, .int .i64 0, .int .i64 0, .string { data := #[] }, .bool false, .int .i64 2, .int .i64 0, .string (strOf a), .bool false, .int .i64 2, .int .i64 0, .string (strOf b), .bool false] 23)) rfl (by kernel_rfl) rfl (by rfl) (op_build4 _ _ (.tmp 31) (.tmp 35) (.tmp 36) (.tmp 37) rfl a b rfl rfl rfl rfl _) (HS.out.belowW hU3) ?_
      simp only [Act.put, List.setIfInBounds_toArray, List.set_cons_zero, List.set_cons_succ]
      have vU3 := vs4 U2 a b
      generalize U2.alloc (.cells #[.int .i64 0, .int .i64 0, .string { data := #[] }, .bool false, .int .i64 0, .int .i64 0, .string { data := #[] }, .bool false, .int .i64 2, .int .i64 0, .string (strOf a), .bool false, .int .i64 2, .int .i64 0, .string (strOf b), .bool false] 23) = U3 at hU3 vU3 nn ⊢
      generalize U2.heap.size = g38 at vU3 ⊢
      refine step_call2_to 8 39 17 rfl (by kernel_rfl) rfl (by rfl) (.const (.string { data := #[99, 111, 97, 108, 101, 115, 99, 101] })) (.tmp 38) _ rfl _ _ rfl rfl Tryd.enters17 (HCO.out _ _ (vU3)) ?_
      rintro e U4 ⟨rfl, hbU4⟩
      have hU4 := thenW hU3 hbU4
      refine ⟨_, rfl, HS.out.belowW hU4, ?_⟩
      simp only [Act.put, List.setIfInBounds_toArray, List.set_cons_zero, List.set_cons_succ]
      have hT := HS.out.belowW hU4
      refine take_to 9 30 (.tuple #[.agg #[.int .i64 2, .int .i64 0, .string (strOf a), .bool false], .int .i64 0]) rfl (by kernel_rfl) (by kernel_rfl) (by kernel_rfl) (fun _ _ _ h => (by cases h.1)) rfl (by rfl) (fun w hw => by rfl) hT ?_
      simp only [Act.put, List.setIfInBounds_toArray, List.set_cons_zero, List.set_cons_succ]
      refine take_to 10 40 (.agg #[.int .i64 2, .int .i64 0, .string (strOf a), .bool false]) rfl (by kernel_rfl) (by kernel_rfl) (by kernel_rfl) (fun _ _ _ h => (by cases h.1)) rfl (by rfl) (fun w hw => by rfl) hT ?_
      simp only [Act.put, List.setIfInBounds_toArray, List.set_cons_zero, List.set_cons_succ]
      refine take_to 11 41 (.int .i64 0) rfl (by kernel_rfl) (by kernel_rfl) (by kernel_rfl) (fun _ _ _ h => (by cases h.1)) rfl (by rfl) (fun w hw => by rfl) hT ?_
      simp only [Act.put, List.setIfInBounds_toArray, List.set_cons_zero, List.set_cons_succ]
      have hT3 := (HS.out.belowW hU4).other #[.int .i64 2, .int .i64 0, .string (strOf a), .bool false] (k := p13) (by omega) (by omega)
      refine step_store_to 13 (U4.setRow p13 #[.int .i64 2, .int .i64 0, .string (strOf a), .bool false]) rfl (by kernel_rfl) rfl (by rfl) 23 (.tmp 13) (.tmp 40) rfl _ _ rfl rfl (store_val (nn.belowW hbU4) (tV a)) hT3 ?_
      refine step_to 14 14 (.int .i64 0) _ rfl (by kernel_rfl) rfl (by rfl) rfl hT3 ?_
      simp only [Act.put, List.setIfInBounds_toArray, List.set_cons_zero, List.set_cons_succ]
      refine wpAnyH_done (by kernel_rfl) ?_ _
      exact ⟨rfl, _, _, ⟨⟨hT3, Box.after (nn.belowW hbU4) (tV a)⟩, below_setRow hU4 hg _⟩, rfl⟩
  case cont =>
    rintro e a' W ⟨rfl, p13, g38, ⟨hT, hb⟩, ha'⟩
    rw [ha', ha0]
    simp only [Act.put, List.setIfInBounds_toArray, List.set_cons_zero, List.set_cons_succ]
    clear ha' ha0 HCO HCZ
    have HG := hide (thenW HF.out hb)
    have HT := hide hT
    clear hT hb hd0 HF HS l8 l11
    go_upto_region 5 with fail
    have hwr : IntKind.i64.wrap (((strOf a).size : Int) + ((strOf b).size : Int)) = NN := by
      have h1 := HL.out
      have h2 := HN2.out
      rw [List.length_append] at h2
      rw [strOf_size, strOf_size, IntKind.wrap_i64]
      omega
    have HWR := hide hwr
    clear hwr
    have HCT : Hid (∀ s t, s.length + t.length ≤ 100000000000 → ∀ W, Calls Tryd.prog 15 #[.agg #[.int .i64 2, .int .i64 0, .string (strOf s), .bool false], .agg #[.int .i64 2, .int .i64 0, .string (strOf t), .bool false]] W fun e w' => e = .returned (.agg #[.int .i64 2, .int .i64 0, .string (strOf (s ++ t)), .bool false]) ∧ Below W.heap.size W w') := cat_tt
    have HZT : Hid (∀ W, Calls Tryd.prog 15 #[.agg #[.int .i64 0, .int .i64 0, .string { data := #[] }, .bool false], .agg #[.int .i64 2, .int .i64 0, .string (strOf a), .bool false]] W fun e w' => e = .returned (.agg #[.int .i64 0, .int .i64 0, .string { data := #[] }, .bool false]) ∧ Below W.heap.size W w') := cat_zt a (by have := HL.out; omega)
    have HI : Hid (∀ n W, Calls Tryd.prog 9 #[.int .i64 n] W fun e w' => e = .returned (.agg #[.int .i64 1, .int .i64 n, .string { data := #[] }, .bool false]) ∧ Below W.heap.size W w') := lawInt_any
    have L1 : a.length + b.length ≤ 100000000000 := by have := HL.out; omega
    have L2 : (a ++ b).length + c.length ≤ 100000000000 := by have := HL.out; rw [List.length_append]; omega
    have L3' : b.length + c.length ≤ 100000000000 := by have := HL.out; omega
    have L4 : a.length + (b ++ c).length ≤ 100000000000 := by have := HL.out; rw [List.length_append]; omega
    have L5 : a.length + ([] : List UInt8).length ≤ 100000000000 := by have := HL.out; show a.length + 0 ≤ _; omega
    have hB0 : Below w.heap.size w W.drew := HG.out.trans (below_drewN _ _ 1)
    have hS0 : T5 p8 p11 p13 a b c NN W.drew := HT.out.belowW (below_drewN _ _ 1)
    refine wp_region_held_drew (S := T5 p8 p11 p13 a b c NN) (by kernel_rfl) hS0 (fun hH => ?_)
    refine step_to 0 42 (.int .i64 0) _ rfl (by as_aux_lemma => kernel_rfl) rfl (by rfl) (rfl) hH ?_
    simp only [Act.put, List.setIfInBounds_toArray, List.set_cons_zero, List.set_cons_succ]
    refine step_to 1 43 (.bool true) _ rfl (by as_aux_lemma => kernel_rfl) rfl (by rfl) (op_eqlE _ _ (.tmp 42) (.const (.int .i64 0)) _ rfl 0 0 rfl rfl true rfl) hH ?_
    simp only [Act.put, List.setIfInBounds_toArray, List.set_cons_zero, List.set_cons_succ]
    refine step_to 2 44 (.bool true) _ rfl (by as_aux_lemma => kernel_rfl) rfl (by rfl) (rfl) hH ?_
    simp only [Act.put, List.setIfInBounds_toArray, List.set_cons_zero, List.set_cons_succ]
    refine step_to 3 45 (.int .i64 0) _ rfl (by as_aux_lemma => kernel_rfl) rfl (by rfl) (rfl) hH ?_
    simp only [Act.put, List.setIfInBounds_toArray, List.set_cons_zero, List.set_cons_succ]
    refine step_to 4 46 (.bool true) _ rfl (by as_aux_lemma => kernel_rfl) rfl (by rfl) (op_eqlE _ _ (.tmp 45) (.const (.int .i64 0)) _ rfl 0 0 rfl rfl true rfl) hH ?_
    simp only [Act.put, List.setIfInBounds_toArray, List.set_cons_zero, List.set_cons_succ]
    refine step_to 5 47 (.bool true) _ rfl (by as_aux_lemma => kernel_rfl) rfl (by rfl) (rfl) hH ?_
    simp only [Act.put, List.setIfInBounds_toArray, List.set_cons_zero, List.set_cons_succ]
    refine step_to 6 48 (.bool true) _ rfl (by as_aux_lemma => kernel_rfl) rfl (by rfl) (rfl) hH ?_
    simp only [Act.put, List.setIfInBounds_toArray, List.set_cons_zero, List.set_cons_succ]
    refine take_to 7 49 (.agg #[.int .i64 1, .int .i64 NN, .string { data := #[] }, .bool false]) rfl (by as_aux_lemma => kernel_rfl) (by as_aux_lemma => kernel_rfl) (by as_aux_lemma => kernel_rfl) (fun _ _ _ h => h) rfl (by rfl) (fun w hw => op_load _ _ 23 (.tmp 11) rfl (.pointer (some ⟨p11, 0, none⟩)) _ rfl (load23 hw.t.n)) hH ?_
    simp only [Act.put, List.setIfInBounds_toArray, List.set_cons_zero, List.set_cons_succ]
    refine take_to 8 50 (.string (strOf a)) rfl (by as_aux_lemma => kernel_rfl) (by as_aux_lemma => kernel_rfl) (by as_aux_lemma => kernel_rfl) (fun _ _ _ h => h) rfl (by rfl) (fun w hw => by rfl) hH ?_
    simp only [Act.put, List.setIfInBounds_toArray, List.set_cons_zero, List.set_cons_succ]
    refine take_to 9 51 (.int .i64 ((strOf a).size : Int)) rfl (by as_aux_lemma => kernel_rfl) (by as_aux_lemma => kernel_rfl) (by as_aux_lemma => kernel_rfl) (fun _ _ _ h => h) rfl (by rfl) (fun w hw => op_lenS _ _ (.tmp 50) rfl _ rfl) hH ?_
    simp only [Act.put, List.setIfInBounds_toArray, List.set_cons_zero, List.set_cons_succ]
    refine take_to 10 52 (.string (strOf b)) rfl (by as_aux_lemma => kernel_rfl) (by as_aux_lemma => kernel_rfl) (by as_aux_lemma => kernel_rfl) (fun _ _ _ h => h) rfl (by rfl) (fun w hw => by rfl) hH ?_
    simp only [Act.put, List.setIfInBounds_toArray, List.set_cons_zero, List.set_cons_succ]
    refine take_to 11 53 (.int .i64 ((strOf b).size : Int)) rfl (by as_aux_lemma => kernel_rfl) (by as_aux_lemma => kernel_rfl) (by as_aux_lemma => kernel_rfl) (fun _ _ _ h => h) rfl (by rfl) (fun w hw => op_lenS _ _ (.tmp 52) rfl _ rfl) hH ?_
    simp only [Act.put, List.setIfInBounds_toArray, List.set_cons_zero, List.set_cons_succ]
    refine take_to 12 54 (.int .i64 NN) rfl (by as_aux_lemma => kernel_rfl) (by as_aux_lemma => kernel_rfl) (by as_aux_lemma => kernel_rfl) (fun _ _ _ h => h) rfl (by rfl) (fun w hw => op_add3 _ _ (.tmp 51) (.tmp 53) _ rfl _ _ rfl rfl NN HWR.out) hH ?_
    simp only [Act.put, List.setIfInBounds_toArray, List.set_cons_zero, List.set_cons_succ]
    refine step_call1_to 13 55 9 rfl (by as_aux_lemma => kernel_rfl) rfl (by rfl) (.tmp 54) _ rfl _ rfl Tryd.enters9 (HI.out NN _) ?_
    rintro e u1 ⟨rfl, hb1⟩
    have hS1 := hH.belowW hb1
    have hB1 := thenW hB0 hb1
    refine ⟨_, rfl, hS1, ?_⟩
    simp only [Act.put, List.setIfInBounds_toArray, List.set_cons_zero, List.set_cons_succ]
    refine step_to 14 56 (.bool true) _ rfl (by as_aux_lemma => kernel_rfl) rfl (by rfl) (op_eqlAB _ _ (.tmp 49) (.tmp 55) _ rfl (nV NN) (nV NN) (rfl) rfl rfl) hS1 ?_
    simp only [Act.put, List.setIfInBounds_toArray, List.set_cons_zero, List.set_cons_succ]
    refine step_to 15 57 (.bool true) _ rfl (by as_aux_lemma => kernel_rfl) rfl (by rfl) (rfl) hS1 ?_
    simp only [Act.put, List.setIfInBounds_toArray, List.set_cons_zero, List.set_cons_succ]
    refine step_to 16 58 (.bool true) _ rfl (by as_aux_lemma => kernel_rfl) rfl (by rfl) (rfl) hS1 ?_
    simp only [Act.put, List.setIfInBounds_toArray, List.set_cons_zero, List.set_cons_succ]
    refine take_to 17 59 (.agg #[.int .i64 2, .int .i64 0, .string (strOf a), .bool false]) rfl (by as_aux_lemma => kernel_rfl) (by as_aux_lemma => kernel_rfl) (by as_aux_lemma => kernel_rfl) (fun _ _ _ h => h) rfl (by rfl) (fun w hw => op_load _ _ 23 (.tmp 13) rfl (.pointer (some ⟨p13, 0, none⟩)) _ rfl (load23 hw.v)) hS1 ?_
    simp only [Act.put, List.setIfInBounds_toArray, List.set_cons_zero, List.set_cons_succ]
    refine take_to 18 60 (.agg #[.int .i64 2, .int .i64 0, .string (strOf a), .bool false]) rfl (by as_aux_lemma => kernel_rfl) (by as_aux_lemma => kernel_rfl) (by as_aux_lemma => kernel_rfl) (fun _ _ _ h => h) rfl (by rfl) (fun w hw => op_load _ _ 23 (.tmp 8) rfl (.pointer (some ⟨p8, 0, none⟩)) _ rfl (load23 hw.t.x)) hS1 ?_
    simp only [Act.put, List.setIfInBounds_toArray, List.set_cons_zero, List.set_cons_succ]
    refine step_to 19 61 (.bool true) _ rfl (by as_aux_lemma => kernel_rfl) rfl (by rfl) (op_eqlAB _ _ (.tmp 59) (.tmp 60) _ rfl (tV a) (tV a) (rfl) rfl rfl) hS1 ?_
    simp only [Act.put, List.setIfInBounds_toArray, List.set_cons_zero, List.set_cons_succ]
    refine step_to 20 62 (.bool true) _ rfl (by as_aux_lemma => kernel_rfl) rfl (by rfl) (rfl) hS1 ?_
    simp only [Act.put, List.setIfInBounds_toArray, List.set_cons_zero, List.set_cons_succ]
    refine step_to 21 63 (.bool true) _ rfl (by as_aux_lemma => kernel_rfl) rfl (by rfl) (rfl) hS1 ?_
    simp only [Act.put, List.setIfInBounds_toArray, List.set_cons_zero, List.set_cons_succ]
    refine take_to 22 64 (.func (.func 15) #[] #[]) rfl (by as_aux_lemma => kernel_rfl) (by as_aux_lemma => kernel_rfl) (by as_aux_lemma => kernel_rfl) (fun _ _ _ h => h) rfl (by rfl) (fun w hw => by rfl) hS1 ?_
    simp only [Act.put, List.setIfInBounds_toArray, List.set_cons_zero, List.set_cons_succ]
    refine take_to 23 65 (.func (.func 15) #[] #[]) rfl (by as_aux_lemma => kernel_rfl) (by as_aux_lemma => kernel_rfl) (by as_aux_lemma => kernel_rfl) (fun _ _ _ h => h) rfl (by rfl) (fun w hw => by rfl) hS1 ?_
    simp only [Act.put, List.setIfInBounds_toArray, List.set_cons_zero, List.set_cons_succ]
    refine take_to 24 66 (.agg #[.int .i64 2, .int .i64 0, .string (strOf a), .bool false]) rfl (by as_aux_lemma => kernel_rfl) (by as_aux_lemma => kernel_rfl) (by as_aux_lemma => kernel_rfl) (fun _ _ _ h => h) rfl (by rfl) (fun w hw => op_load _ _ 23 (.tmp 8) rfl (.pointer (some ⟨p8, 0, none⟩)) _ rfl (load23 hw.t.x)) hS1 ?_
    simp only [Act.put, List.setIfInBounds_toArray, List.set_cons_zero, List.set_cons_succ]
    refine take_to 25 67 (.agg #[.int .i64 2, .int .i64 0, .string (strOf b), .bool false]) rfl (by as_aux_lemma => kernel_rfl) (by as_aux_lemma => kernel_rfl) (by as_aux_lemma => kernel_rfl) (fun _ _ _ h => h) rfl (by rfl) (fun w hw => op_load _ _ 23 (.tmp 9) rfl (.pointer (some ⟨p8 + 1, 0, none⟩)) _ rfl (load23 hw.t.y)) hS1 ?_
    simp only [Act.put, List.setIfInBounds_toArray, List.set_cons_zero, List.set_cons_succ]
    refine take_to 27 69 (.agg #[.int .i64 2, .int .i64 0, .string (strOf c), .bool false]) rfl (by as_aux_lemma => kernel_rfl) (by as_aux_lemma => kernel_rfl) (by as_aux_lemma => kernel_rfl) (fun _ _ _ h => h) rfl (by rfl) (fun w hw => op_load _ _ 23 (.tmp 10) rfl (.pointer (some ⟨p8 + 1 + 1, 0, none⟩)) _ rfl (load23 hw.t.z)) hS1 ?_
    simp only [Act.put, List.setIfInBounds_toArray, List.set_cons_zero, List.set_cons_succ]
    refine take_to 29 71 (.func (.func 15) #[] #[]) rfl (by as_aux_lemma => kernel_rfl) (by as_aux_lemma => kernel_rfl) (by as_aux_lemma => kernel_rfl) (fun _ _ _ h => h) rfl (by rfl) (fun w hw => by rfl) hS1 ?_
    simp only [Act.put, List.setIfInBounds_toArray, List.set_cons_zero, List.set_cons_succ]
    refine take_to 30 72 (.agg #[.int .i64 2, .int .i64 0, .string (strOf a), .bool false]) rfl (by as_aux_lemma => kernel_rfl) (by as_aux_lemma => kernel_rfl) (by as_aux_lemma => kernel_rfl) (fun _ _ _ h => h) rfl (by rfl) (fun w hw => op_load _ _ 23 (.tmp 8) rfl (.pointer (some ⟨p8, 0, none⟩)) _ rfl (load23 hw.t.x)) hS1 ?_
    simp only [Act.put, List.setIfInBounds_toArray, List.set_cons_zero, List.set_cons_succ]
    refine take_to 31 73 (.func (.func 15) #[] #[]) rfl (by as_aux_lemma => kernel_rfl) (by as_aux_lemma => kernel_rfl) (by as_aux_lemma => kernel_rfl) (fun _ _ _ h => h) rfl (by rfl) (fun w hw => by rfl) hS1 ?_
    simp only [Act.put, List.setIfInBounds_toArray, List.set_cons_zero, List.set_cons_succ]
    refine take_to 32 74 (.agg #[.int .i64 2, .int .i64 0, .string (strOf b), .bool false]) rfl (by as_aux_lemma => kernel_rfl) (by as_aux_lemma => kernel_rfl) (by as_aux_lemma => kernel_rfl) (fun _ _ _ h => h) rfl (by rfl) (fun w hw => op_load _ _ 23 (.tmp 9) rfl (.pointer (some ⟨p8 + 1, 0, none⟩)) _ rfl (load23 hw.t.y)) hS1 ?_
    simp only [Act.put, List.setIfInBounds_toArray, List.set_cons_zero, List.set_cons_succ]
    refine take_to 33 75 (.agg #[.int .i64 2, .int .i64 0, .string (strOf c), .bool false]) rfl (by as_aux_lemma => kernel_rfl) (by as_aux_lemma => kernel_rfl) (by as_aux_lemma => kernel_rfl) (fun _ _ _ h => h) rfl (by rfl) (fun w hw => op_load _ _ 23 (.tmp 10) rfl (.pointer (some ⟨p8 + 1 + 1, 0, none⟩)) _ rfl (load23 hw.t.z)) hS1 ?_
    simp only [Act.put, List.setIfInBounds_toArray, List.set_cons_zero, List.set_cons_succ]
    refine step_callv2_to 26 68 15 rfl (by as_aux_lemma => kernel_rfl) rfl (by rfl) (.tmp 65) (.tmp 66) (.tmp 67) _ rfl rfl _ _ rfl rfl Tryd.enters15 (HCT.out a b L1 _) ?_
    rintro e u2 ⟨rfl, hb2⟩
    have hS2 := hS1.belowW hb2
    have hB2 := thenW hB1 hb2
    refine ⟨_, rfl, hS2, ?_⟩
    simp only [Act.put, List.setIfInBounds_toArray, List.set_cons_zero, List.set_cons_succ]
    refine step_callv2_to 28 70 15 rfl (by as_aux_lemma => kernel_rfl) rfl (by rfl) (.tmp 64) (.tmp 68) (.tmp 69) _ rfl rfl _ _ rfl rfl Tryd.enters15 (HCT.out (a ++ b) c L2 _) ?_
    rintro e u3 ⟨rfl, hb3⟩
    have hS3 := hS2.belowW hb3
    have hB3 := thenW hB2 hb3
    refine ⟨_, rfl, hS3, ?_⟩
    simp only [Act.put, List.setIfInBounds_toArray, List.set_cons_zero, List.set_cons_succ]
    refine step_callv2_to 34 76 15 rfl (by as_aux_lemma => kernel_rfl) rfl (by rfl) (.tmp 73) (.tmp 74) (.tmp 75) _ rfl rfl _ _ rfl rfl Tryd.enters15 (HCT.out b c L3' _) ?_
    rintro e u4 ⟨rfl, hb4⟩
    have hS4 := hS3.belowW hb4
    have hB4 := thenW hB3 hb4
    refine ⟨_, rfl, hS4, ?_⟩
    simp only [Act.put, List.setIfInBounds_toArray, List.set_cons_zero, List.set_cons_succ]
    refine step_callv2_to 35 77 15 rfl (by as_aux_lemma => kernel_rfl) rfl (by rfl) (.tmp 71) (.tmp 72) (.tmp 76) _ rfl rfl _ _ rfl rfl Tryd.enters15 (HCT.out a (b ++ c) L4 _) ?_
    rintro e u5 ⟨rfl, hb5⟩
    have hS5 := hS4.belowW hb5
    have hB5 := thenW hB4 hb5
    refine ⟨_, rfl, hS5, ?_⟩
    simp only [Act.put, List.setIfInBounds_toArray, List.set_cons_zero, List.set_cons_succ]
    refine step_to 36 78 (.bool true) _ rfl (by as_aux_lemma => kernel_rfl) rfl (by rfl) (op_eqlAB _ _ (.tmp 70) (.tmp 77) _ rfl (tV (a ++ b ++ c)) (tV (a ++ (b ++ c))) (by rw [List.append_assoc]) rfl rfl) hS5 ?_
    simp only [Act.put, List.setIfInBounds_toArray, List.set_cons_zero, List.set_cons_succ]
    refine step_to 37 79 (.bool true) _ rfl (by as_aux_lemma => kernel_rfl) rfl (by rfl) (rfl) hS5 ?_
    simp only [Act.put, List.setIfInBounds_toArray, List.set_cons_zero, List.set_cons_succ]
    refine step_to 38 80 (.bool true) _ rfl (by as_aux_lemma => kernel_rfl) rfl (by rfl) (rfl) hS5 ?_
    simp only [Act.put, List.setIfInBounds_toArray, List.set_cons_zero, List.set_cons_succ]
    refine take_to 39 81 (.func (.func 15) #[] #[]) rfl (by as_aux_lemma => kernel_rfl) (by as_aux_lemma => kernel_rfl) (by as_aux_lemma => kernel_rfl) (fun _ _ _ h => h) rfl (by rfl) (fun w hw => by rfl) hS5 ?_
    simp only [Act.put, List.setIfInBounds_toArray, List.set_cons_zero, List.set_cons_succ]
    refine take_to 40 82 (.agg #[.int .i64 2, .int .i64 0, .string (strOf a), .bool false]) rfl (by as_aux_lemma => kernel_rfl) (by as_aux_lemma => kernel_rfl) (by as_aux_lemma => kernel_rfl) (fun _ _ _ h => h) rfl (by rfl) (fun w hw => op_load _ _ 23 (.tmp 8) rfl (.pointer (some ⟨p8, 0, none⟩)) _ rfl (load23 hw.t.x)) hS5 ?_
    simp only [Act.put, List.setIfInBounds_toArray, List.set_cons_zero, List.set_cons_succ]
    refine take_to 43 85 (.agg #[.int .i64 2, .int .i64 0, .string (strOf a), .bool false]) rfl (by as_aux_lemma => kernel_rfl) (by as_aux_lemma => kernel_rfl) (by as_aux_lemma => kernel_rfl) (fun _ _ _ h => h) rfl (by rfl) (fun w hw => op_load _ _ 23 (.tmp 8) rfl (.pointer (some ⟨p8, 0, none⟩)) _ rfl (load23 hw.t.x)) hS5 ?_
    simp only [Act.put, List.setIfInBounds_toArray, List.set_cons_zero, List.set_cons_succ]
    refine step_call1_to 41 83 10 rfl (by as_aux_lemma => kernel_rfl) rfl (by rfl) (.const (.string { data := #[] })) _ rfl _ rfl Tryd.enters10 (HTX.out [] _) ?_
    rintro e u6 ⟨rfl, hb6⟩
    have hS6 := hS5.belowW hb6
    have hB6 := thenW hB5 hb6
    refine ⟨_, rfl, hS6, ?_⟩
    simp only [Act.put, List.setIfInBounds_toArray, List.set_cons_zero, List.set_cons_succ]
    refine step_callv2_to 42 84 15 rfl (by as_aux_lemma => kernel_rfl) rfl (by rfl) (.tmp 81) (.tmp 82) (.tmp 83) _ rfl rfl _ _ rfl rfl Tryd.enters15 (HCT.out a [] L5 _) ?_
    rintro e u7 ⟨rfl, hb7⟩
    have hS7 := hS6.belowW hb7
    have hB7 := thenW hB6 hb7
    refine ⟨_, rfl, hS7, ?_⟩
    simp only [Act.put, List.setIfInBounds_toArray, List.set_cons_zero, List.set_cons_succ]
    refine step_to 44 86 (.bool true) _ rfl (by as_aux_lemma => kernel_rfl) rfl (by rfl) (op_eqlAB _ _ (.tmp 84) (.tmp 85) _ rfl (tV (a ++ [])) (tV a) (by rw [List.append_nil]) rfl rfl) hS7 ?_
    simp only [Act.put, List.setIfInBounds_toArray, List.set_cons_zero, List.set_cons_succ]
    refine step_to 45 87 (.bool true) _ rfl (by as_aux_lemma => kernel_rfl) rfl (by rfl) (rfl) hS7 ?_
    simp only [Act.put, List.setIfInBounds_toArray, List.set_cons_zero, List.set_cons_succ]
    refine step_to 46 88 (.bool true) _ rfl (by as_aux_lemma => kernel_rfl) rfl (by rfl) (rfl) hS7 ?_
    simp only [Act.put, List.setIfInBounds_toArray, List.set_cons_zero, List.set_cons_succ]
    refine take_to 47 89 (.func (.func 15) #[] #[]) rfl (by as_aux_lemma => kernel_rfl) (by as_aux_lemma => kernel_rfl) (by as_aux_lemma => kernel_rfl) (fun _ _ _ h => h) rfl (by rfl) (fun w hw => by rfl) hS7 ?_
    simp only [Act.put, List.setIfInBounds_toArray, List.set_cons_zero, List.set_cons_succ]
    refine take_to 48 90 (.agg #[.int .i64 0, .int .i64 0, .string { data := #[] }, .bool false]) rfl (by as_aux_lemma => kernel_rfl) (by as_aux_lemma => kernel_rfl) (by as_aux_lemma => kernel_rfl) (fun _ _ _ h => h) rfl (by rfl) (fun w hw => by first | rfl | kernel_rfl) hS7 ?_
    simp only [Act.put, List.setIfInBounds_toArray, List.set_cons_zero, List.set_cons_succ]
    refine take_to 49 91 (.agg #[.int .i64 2, .int .i64 0, .string (strOf a), .bool false]) rfl (by as_aux_lemma => kernel_rfl) (by as_aux_lemma => kernel_rfl) (by as_aux_lemma => kernel_rfl) (fun _ _ _ h => h) rfl (by rfl) (fun w hw => op_load _ _ 23 (.tmp 8) rfl (.pointer (some ⟨p8, 0, none⟩)) _ rfl (load23 hw.t.x)) hS7 ?_
    simp only [Act.put, List.setIfInBounds_toArray, List.set_cons_zero, List.set_cons_succ]
    refine take_to 51 93 (.agg #[.int .i64 0, .int .i64 0, .string { data := #[] }, .bool false]) rfl (by as_aux_lemma => kernel_rfl) (by as_aux_lemma => kernel_rfl) (by as_aux_lemma => kernel_rfl) (fun _ _ _ h => h) rfl (by rfl) (fun w hw => by first | rfl | kernel_rfl) hS7 ?_
    simp only [Act.put, List.setIfInBounds_toArray, List.set_cons_zero, List.set_cons_succ]
    refine step_callv2_to 50 92 15 rfl (by as_aux_lemma => kernel_rfl) rfl (by rfl) (.tmp 89) (.tmp 90) (.tmp 91) _ rfl rfl _ _ rfl rfl Tryd.enters15 (HZT.out _) ?_
    rintro e u8 ⟨rfl, hb8⟩
    have hS8 := hS7.belowW hb8
    have hB8 := thenW hB7 hb8
    refine ⟨_, rfl, hS8, ?_⟩
    simp only [Act.put, List.setIfInBounds_toArray, List.set_cons_zero, List.set_cons_succ]
    refine step_to 52 94 (.bool true) _ rfl (by as_aux_lemma => kernel_rfl) rfl (by rfl) (op_eqlAB _ _ (.tmp 92) (.tmp 93) _ rfl Vl.zero Vl.zero (rfl) rfl rfl) hS8 ?_
    simp only [Act.put, List.setIfInBounds_toArray, List.set_cons_zero, List.set_cons_succ]
    refine step_to 53 95 (.bool true) _ rfl (by as_aux_lemma => kernel_rfl) rfl (by rfl) (rfl) hS8 ?_
    simp only [Act.put, List.setIfInBounds_toArray, List.set_cons_zero, List.set_cons_succ]
    refine step_to 54 96 (.bool true) _ rfl (by as_aux_lemma => kernel_rfl) rfl (by rfl) (rfl) hS8 ?_
    simp only [Act.put, List.setIfInBounds_toArray, List.set_cons_zero, List.set_cons_succ]
    refine step_call0_to 55 97 14 rfl (by as_aux_lemma => kernel_rfl) rfl (by rfl) _ rfl Tryd.enters14 (HAW.out _ hB8) ?_
    rintro e u9 ⟨rfl, hb9⟩
    have hS9 := hS8.belowW hb9
    have hB9 := thenW hB8 hb9
    refine ⟨_, rfl, hS9, ?_⟩
    simp only [Act.put, List.setIfInBounds_toArray, List.set_cons_zero, List.set_cons_succ]
    refine step_to 56 98 (.bool true) _ rfl (by as_aux_lemma => kernel_rfl) rfl (by rfl) (rfl) hS9 ?_
    simp only [Act.put, List.setIfInBounds_toArray, List.set_cons_zero, List.set_cons_succ]
    refine step_to 57 6 (.bool true) _ rfl (by as_aux_lemma => kernel_rfl) rfl (by rfl) (rfl) hS9 ?_
    simp only [Act.put, List.setIfInBounds_toArray, List.set_cons_zero, List.set_cons_succ]
    refine wpAnyH_done (by as_aux_lemma => kernel_rfl) ?_ _
    go_wp2
    go_ret
    exact ⟨rfl, hB9⟩
end Go.Proofs.YtigafjdacllohaaDoor
