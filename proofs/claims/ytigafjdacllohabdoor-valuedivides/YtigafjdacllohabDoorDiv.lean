/- The walk of ValueDivides. -/
import Derived.Test.YtigafjdacllohabDoorAwk
namespace Go.Proofs.YtigafjdacllohabDoor
set_option maxRecDepth 100000
open Go.RowKit
set_option linter.unusedVariables false
set_option linter.unusedSimpArgs false

theorem op_call1_to {P : Program} {ops : Array Oper} {Q : Exit → Act → World → Prop} {o : Oper} {a : Act} {w : World} {K : Act → World → Prop} {i : Nat} {R : Ending → World → Prop} (dst f : Nat) (hi : ops[i]? = some o)
    (hd : o.dst = some dst) (hw : Region.wanted o (yielded ops a.tmps) = true) (x : Operand) (ts : Array TypeId) (hop : o.op = Op.call { callee := Callee.value (Operand.func f), args := #[x], argTypes := ts })
    (vx : Value) (hx : a.eval x = vx) (hcf : ∀ args w, (callFunc f args).run P w = .ok (.enter f args) w) (hc : Calls P f #[vx] w R)
    (hK : ∀ e w', R e w' → ∃ v, e = .returned v ∧ K (a.put (some dst) v) w') : wpOp P ops Q i K a w := by
  refine wpOp_step hi (fun K' hK' => ?_)
  rw [if_pos hw]
  have hrun : (execOp a.eval o).run P w = .ok (.enter f #[vx]) w := by
    have hff : a.eval (.func f) = .func (.func f) #[] #[] := rfl
    unfold execOp
    simp [hop, resolve, hff, Deferred.ofValue, invoke, hx]
    exact hcf _ _
  unfold Oper.wp
  rw [hrun, Oper.upon_enter]
  refine hc.mono ?_
  intro e w' hR
  obtain ⟨v, rfl, hW⟩ := hK e w' hR
  show K' (a.put o.dst v) w'
  rw [hd]
  exact hK' _ _ hW
theorem op_call3_to {P : Program} {ops : Array Oper} {Q : Exit → Act → World → Prop} {o : Oper} {a : Act} {w : World} {K : Act → World → Prop} {i : Nat} {R : Ending → World → Prop} (dst f : Nat) (hi : ops[i]? = some o)
    (hd : o.dst = some dst) (hw : Region.wanted o (yielded ops a.tmps) = true) (x y z : Operand) (ts : Array TypeId) (hop : o.op = Op.call { callee := Callee.value (Operand.func f), args := #[x, y, z], argTypes := ts })
    (vx vy vz : Value) (hx : a.eval x = vx) (hy : a.eval y = vy) (hz : a.eval z = vz) (hcf : ∀ args w, (callFunc f args).run P w = .ok (.enter f args) w) (hc : Calls P f #[vx, vy, vz] w R)
    (hK : ∀ e w', R e w' → ∃ v, e = .returned v ∧ K (a.put (some dst) v) w') : wpOp P ops Q i K a w := by
  refine wpOp_step hi (fun K' hK' => ?_)
  rw [if_pos hw]
  have hrun : (execOp a.eval o).run P w = .ok (.enter f #[vx, vy, vz]) w := by
    have hff : a.eval (.func f) = .func (.func f) #[] #[] := rfl
    unfold execOp
    simp [hop, resolve, hff, Deferred.ofValue, invoke, hx, hy, hz]
    exact hcf _ _
  unfold Oper.wp
  rw [hrun, Oper.upon_enter]
  refine hc.mono ?_
  intro e w' hR
  obtain ⟨v, rfl, hW⟩ := hK e w' hR
  show K' (a.put o.dst v) w'
  rw [hd]
  exact hK' _ _ hW
theorem op_alloc23 (ρ : Operand → Value) (o : Oper) (ho : o.op = .alloc 23) (w : World) : (execOp ρ o).run Tryd.prog w = .ok (.value (.pointer (some ⟨w.heap.size, 0, none⟩))) (w.alloc (.cells #[.int .i64 0, .int .i64 0, .string { data := #[] }, .bool false] 23)) := by
  unfold execOp
  rw [ho]
  kernel_rfl
theorem step_call0_to {P : Program} {ops : Array Oper} {Q : Exit → Act → World → Prop} {md : Region.Mode} {S : World → Prop} {o : Oper} {fuel : Nat} {listed : Array Bool} {a : Act} {w : World} {R : Ending → World → Prop} (j dst f : Nat) (hj : ops[j]? = some o)
    (hr : Region.ready md ops listed = [j]) (hd : o.dst = some dst) (hw : Region.wanted o (yielded ops a.tmps) = true) (ts : Array TypeId) (hop : o.op = Op.call { callee := Callee.value (Operand.func f), args := #[], argTypes := ts })
    (hcf : ∀ args w, (callFunc f args).run P w = .ok (.enter f args) w) (hc : Calls P f #[] w R)
    (hK : ∀ e w', R e w' → ∃ v, e = .returned v ∧ S w' ∧ wpAnyH P md ops Q S fuel (listed.setIfInBounds j true) (a.put (some dst) v) w') : wpAnyH P md ops Q S (fuel + 1) listed a w := by
  refine step_by j hj hr (fun K hK' => ?_)
  rw [if_pos hw]
  have hrun : (execOp a.eval o).run P w = .ok (.enter f #[]) w := by
    have hff : a.eval (.func f) = .func (.func f) #[] #[] := rfl
    unfold execOp
    simp [hop, resolve, hff, Deferred.ofValue, invoke]
    exact hcf _ _
  unfold Oper.wp
  rw [hrun, Oper.upon_enter]
  refine hc.mono ?_
  intro e w' hR
  obtain ⟨v, rfl, hS, hW⟩ := hK e w' hR
  show K (a.put o.dst v) w'
  rw [hd]
  exact hK' _ _ hS hW
theorem op_neqE (ρ : Operand → Value) (o : Oper) (x y : Operand) (tt : TypeId) (ho : o.op = .binOp .neq 24 x y tt) (n m : Int) (hx : ρ x = .int .i64 n) (hy : ρ y = .int .i64 m) (b : Bool) (hb : (n != m) = b) {w : World} : (execOp ρ o).run Tryd.prog w = .ok (.value (.bool b)) w := by
  have hu := Tryd.underlying24
  unfold execOp
  simp only [ho, hx, hy]
  simp [go_sem, hu, hb]
theorem op_eqlI (ρ : Operand → Value) (o : Oper) (x y : Operand) (tt : TypeId) (ho : o.op = .binOp .eql 3 x y tt) (n m : Int) (hx : ρ x = .int .i64 n) (hy : ρ y = .int .i64 m) (b : Bool) (hb : (n == m) = b) {w : World} : (execOp ρ o).run Tryd.prog w = .ok (.value (.bool b)) w := by
  have hu := Tryd.underlying3
  unfold execOp
  simp only [ho, hx, hy]
  simp [go_sem, hu, hb]
theorem run_neqV (w : World) (V : Vl) : (binOp .neq 23 (.agg #[.int .i64 V.ty, .int .i64 V.n, .string (strOf V.t), .bool V.b]) (.agg #[.int .i64 V.ty, .int .i64 V.n, .string (strOf V.t), .bool V.b])).run Tryd.prog w = .ok (.bool false) w := by
  rw [run_neq_struct, eq23 w V V true (by simp)]
  rfl
theorem op_neqV (ρ : Operand → Value) (o : Oper) (x y : Operand) (tt : TypeId) (ho : o.op = .binOp .neq 23 x y tt) (V : Vl) (hx : ρ x = .agg #[.int .i64 V.ty, .int .i64 V.n, .string (strOf V.t), .bool V.b]) (hy : ρ y = .agg #[.int .i64 V.ty, .int .i64 V.n, .string (strOf V.t), .bool V.b]) {w : World} : (execOp ρ o).run Tryd.prog w = .ok (.value (.bool false)) w := by
  have hg : (eqGuard .neq 23 x y (.agg #[.int .i64 V.ty, .int .i64 V.n, .string (strOf V.t), .bool V.b]) (.agg #[.int .i64 V.ty, .int .i64 V.n, .string (strOf V.t), .bool V.b])).run Tryd.prog w = .ok () w := run_eqGuard_agg w .neq 23 x y _ _ (by kernel_rfl)
  unfold execOp
  simp only [ho, hx, hy]
  simp [hg, run_neqV w V]
structure QR (p5 p7 : Nat) (q r : Int) (W : World) : Prop where
  a : Box W p5 (nV q)
  b : Box W p7 (nV r)
theorem QR.belowW {p5 p7 : Nat} {q r : Int} {w w' : World} (h : QR p5 p7 q r w) (hb : Below w.heap.size w w') : QR p5 p7 q r w' := ⟨h.a.belowW hb, h.b.belowW hb⟩
theorem QR.other {p5 p7 : Nat} {q r : Int} {w : World} (h : QR p5 p7 q r w) (C : Array Value) {k : Nat} (h5 : p5 < k) (h7 : p7 < k) : QR p5 p7 q r (w.setRow k C) := ⟨h.a.other C (by omega), h.b.other C (by omega)⟩
theorem Box.lits {w : World} {b : Nat} {n : Int} (h : Box w b (nV n)) : w.cell? ⟨b, 0, none⟩ = some (.int .i64 1) ∧ w.cell? ⟨b, 1, none⟩ = some (.int .i64 n) ∧ w.cell? ⟨b, 2, none⟩ = some (.string { data := #[] }) ∧ w.cell? ⟨b, 3, none⟩ = some (.bool false) := h.cells
set_option maxHeartbeats 16000000 in
theorem div_fit (a b q r p m : Int) (w : World) (hm : w.cell? ⟨1, 0, none⟩ = some (.int .i64 m)) (H21 : Hid (∀ W, Calls Tryd.prog 5 #[.int .i64 21, .agg #[.int .i64 1, .int .i64 a, .string { data := #[] }, .bool false], .agg #[.int .i64 1, .int .i64 b, .string { data := #[] }, .bool false]] W fun e w' => e = .returned (.tuple #[.agg #[.int .i64 1, .int .i64 q, .string { data := #[] }, .bool false], .int .i64 0]) ∧ Below W.heap.size W w')) (H22 : Hid (∀ W, Calls Tryd.prog 5 #[.int .i64 22, .agg #[.int .i64 1, .int .i64 a, .string { data := #[] }, .bool false], .agg #[.int .i64 1, .int .i64 b, .string { data := #[] }, .bool false]] W fun e w' => e = .returned (.tuple #[.agg #[.int .i64 1, .int .i64 r, .string { data := #[] }, .bool false], .int .i64 0]) ∧ Below W.heap.size W w')) (H20 : Hid (∀ W, Calls Tryd.prog 5 #[.int .i64 20, .agg #[.int .i64 1, .int .i64 q, .string { data := #[] }, .bool false], .agg #[.int .i64 1, .int .i64 b, .string { data := #[] }, .bool false]] W fun e w' => e = .returned (.tuple #[.agg #[.int .i64 1, .int .i64 p, .string { data := #[] }, .bool false], .int .i64 0]) ∧ Below W.heap.size W w')) (H18 : Hid (∀ W, Calls Tryd.prog 5 #[.int .i64 18, .agg #[.int .i64 1, .int .i64 p, .string { data := #[] }, .bool false], .agg #[.int .i64 1, .int .i64 r, .string { data := #[] }, .bool false]] W fun e w' => e = .returned (.tuple #[.agg #[.int .i64 1, .int .i64 a, .string { data := #[] }, .bool false], .int .i64 0]) ∧ Below W.heap.size W w')) (hb0 : (b == 0) = false) (hb1 : (b == -1) = false) (hs : Hid (r = 0 ∨ ((r == 0) = false ∧ decide (r < 0) = true ∧ decide (a < 0) = true) ∨ ((r == 0) = false ∧ decide (r < 0) = false ∧ decide (a < 0) = false))) :
    Calls Tryd.prog 3 #[.int .i64 a, .int .i64 b] w fun e w' => e = .returned (.bool true) ∧ Below w.heap.size w w' := by
  have HI : Hid (∀ n W, Calls Tryd.prog 6 #[.int .i64 n] W fun e w' => e = .returned (.agg #[.int .i64 1, .int .i64 n, .string { data := #[] }, .bool false]) ∧ Below W.heap.size W w') := lawInt_any
  have HAW : Hid (∀ W, Below w.heap.size w W → Calls Tryd.prog 7 #[] W fun e w' => e = .returned (.bool true) ∧ Below W.heap.size W w') := fun W hW => awake_any m W ((hW.cell (p := ⟨1, 0, none⟩) (World.block_lt_of_cell? w _ hm)).trans hm)
  clear hm
  go_enter Tryd.func3, Tryd.ntmps3
  have HB1' := hide hb1
  clear hb1
  go_upto_region 5 with (first
    | (have _t := HB5; go_at_call 5; refine (H22.out _).mono ?_; rintro e W6 ⟨rfl, hb6⟩; have HB6 := hide hb6; clear hb6)
    | (have _t := HB4; go_at_call 6; refine (HI.out _ _).mono ?_; rintro e W5 ⟨rfl, hb5⟩; have HB5 := hide hb5; clear hb5)
    | (have _t := HB3; go_at_call 6; refine (HI.out _ _).mono ?_; rintro e W4 ⟨rfl, hb4⟩; have HB4 := hide hb4; clear hb4)
    | (have _t := HB2; go_at_call 5; refine (H21.out _).mono ?_; rintro e W3 ⟨rfl, hb3⟩; have HB3 := hide hb3; clear hb3)
    | (have _t := HB1; go_at_call 6; refine (HI.out _ _).mono ?_; rintro e W2 ⟨rfl, hb2⟩; have HB2 := hide hb2; clear hb2)
    | (go_at_call 6; refine (HI.out _ _).mono ?_; rintro e W1 ⟨rfl, hb1⟩; have HB1 := hide hb1; clear hb1))
  have HF := hide (allocW (thenW (thenW (thenW (allocW (thenW (thenW HB1.out HB2.out) HB3.out) (.cells #[.int .i64 1, .int .i64 q, .string { data := #[] }, .bool false] 23)) HB4.out) HB5.out) HB6.out) (.cells #[.int .i64 1, .int .i64 r, .string { data := #[] }, .bool false] 23))
  have hP5 : Box (W3.alloc (.cells #[.int .i64 1, .int .i64 q, .string { data := #[] }, .bool false] 23)) W3.heap.size (nV q) := heap_alloc_new _ _
  have G5 : Box (W6.alloc (.cells #[.int .i64 1, .int .i64 r, .string { data := #[] }, .bool false] 23)) W3.heap.size (nV q) := (((hP5.belowW HB4.out).belowW HB5.out).belowW HB6.out).belowW ((Below.refl _ _).alloc (Nat.le_refl _) _)
  have G7 : Box (W6.alloc (.cells #[.int .i64 1, .int .i64 r, .string { data := #[] }, .bool false] 23)) W6.heap.size (nV r) := heap_alloc_new _ _
  have HQ : Hid (QR W3.heap.size W6.heap.size q r (W6.alloc (.cells #[.int .i64 1, .int .i64 r, .string { data := #[] }, .bool false] 23))) := ⟨G5, G7⟩
  clear hP5 G5 G7 HB1 HB2 HB3 HB4 HB5 HB6 H21 H22
  generalize W6.alloc (.cells #[.int .i64 1, .int .i64 r, .string { data := #[] }, .bool false] 23) = Wx at *
  generalize W6.heap.size = p7 at *
  generalize W3.heap.size = p5 at *
  have HF5 : Hid (Below w.heap.size w Wx.drew) := HF.out.trans (below_drewN _ _ 1)
  refine wp_region_held_drew (S := QR p5 p7 q r) (by kernel_rfl) (HQ.out.belowW (below_drewN _ _ 1)) (fun hH => ?_)
  refine step_to 0 41 (.int .i64 0) _ rfl (by kernel_rfl) rfl (by rfl) (rfl) hH ?_
  simp only [Act.put, List.setIfInBounds_toArray, List.set_cons_zero, List.set_cons_succ]
  refine step_to 1 42 (.bool false) _ rfl (by kernel_rfl) rfl (by rfl) (op_neqE _ _ (.tmp 41) (.const (.int .i64 0)) _ rfl 0 0 rfl rfl false rfl) hH ?_
  simp only [Act.put, List.setIfInBounds_toArray, List.set_cons_zero, List.set_cons_succ]
  refine step_to 2 43 (.bool false) _ rfl (by kernel_rfl) rfl (by rfl) (rfl) hH ?_
  simp only [Act.put, List.setIfInBounds_toArray, List.set_cons_zero, List.set_cons_succ]
  refine step_to 3 44 (.int .i64 b) _ rfl (by kernel_rfl) rfl (by rfl) (rfl) hH ?_
  simp only [Act.put, List.setIfInBounds_toArray, List.set_cons_zero, List.set_cons_succ]
  refine step_to 4 45 (.bool false) _ rfl (by kernel_rfl) rfl (by rfl) (op_eqlI _ _ (.tmp 44) (.const (.int .i64 (-1))) _ rfl b (-1) rfl rfl false HB1'.out) hH ?_
  simp only [Act.put, List.setIfInBounds_toArray, List.set_cons_zero, List.set_cons_succ]
  refine step_to 5 46 (.bool false) _ rfl (by kernel_rfl) rfl (by rfl) (rfl) hH ?_
  simp only [Act.put, List.setIfInBounds_toArray, List.set_cons_zero, List.set_cons_succ]
  refine skip_to 6 47 rfl (by kernel_rfl) (by kernel_rfl) (by kernel_rfl) (fun _ _ _ h => h) rfl (by rfl) hH ?_
  simp only [Act.put, List.setIfInBounds_toArray, List.set_cons_zero, List.set_cons_succ]
  refine skip_to 7 48 rfl (by kernel_rfl) (by kernel_rfl) (by kernel_rfl) (fun _ _ _ h => h) rfl (by rfl) hH ?_
  simp only [Act.put, List.setIfInBounds_toArray, List.set_cons_zero, List.set_cons_succ]
  refine skip_to 8 49 rfl (by kernel_rfl) (by kernel_rfl) (by kernel_rfl) (fun _ _ _ h => h) rfl (by rfl) hH ?_
  simp only [Act.put, List.setIfInBounds_toArray, List.set_cons_zero, List.set_cons_succ]
  refine step_to 9 50 (.bool false) _ rfl (by kernel_rfl) rfl (by rfl) (rfl) hH ?_
  simp only [Act.put, List.setIfInBounds_toArray, List.set_cons_zero, List.set_cons_succ]
  refine step_to 10 51 (.bool false) _ rfl (by kernel_rfl) rfl (by rfl) (rfl) hH ?_
  simp only [Act.put, List.setIfInBounds_toArray, List.set_cons_zero, List.set_cons_succ]
  refine wpAnyH_done (by kernel_rfl) ?_ _
  have HG := hide HF5.out
  have HR := hide hH
  clear HF HQ HF5 hH
  generalize Wx.drew = u1 at *
  have hb1 := HB1'.out
  go_upto_region 9 with fail
  clear hb1
  have hd0 : Below u1.heap.size u1 u1.drew := below_drewN _ _ 1
  have l5 := lt_of_heap HR.out.a
  have l7 := lt_of_heap HR.out.b
  refine wp_region_held_drew (S := QR p5 p7 q r) (by kernel_rfl) (HR.out.belowW hd0) (fun hH => ?_)
  refine take_to 0 74 (.agg #[.int .i64 (nV q).ty, .int .i64 (nV q).n, .string (strOf (nV q).t), .bool (nV q).b]) rfl (by kernel_rfl) (by kernel_rfl) (by kernel_rfl) (fun _ _ _ h => h) rfl (by rfl) (fun w hw => op_load _ _ 23 (.tmp 5) rfl (.pointer (some ⟨p5, 0, none⟩)) _ rfl (load23 hw.a)) hH ?_
  simp only [Act.put, List.setIfInBounds_toArray, List.set_cons_zero, List.set_cons_succ]
  refine take_to 1 75 (.int .i64 b) rfl (by kernel_rfl) (by kernel_rfl) (by kernel_rfl) (fun _ _ _ h => h) rfl (by rfl) (fun w hw => by rfl) hH ?_
  simp only [Act.put, List.setIfInBounds_toArray, List.set_cons_zero, List.set_cons_succ]
  generalize u1.drew = U0 at *
  refine wpAnyH_all (rs := [2, 7]) (by kernel_rfl) (by simp) ?_
  intro n hn
  rcases (by simpa using hn : n = 2 ∨ n = 7) with rfl | rfl
  · skip
    refine op_call1_to 76 6 rfl rfl (by rfl) (.tmp 75) _ rfl _ rfl Tryd.enters6 (HI.out _ _) ?_
    rintro e U1 ⟨rfl, hbU1⟩
    have hU1 := thenW hd0 hbU1
    refine ⟨_, rfl, HR.out.belowW hU1, ?_⟩
    simp only [Act.put, List.setIfInBounds_toArray, List.set_cons_zero, List.set_cons_succ]
    refine wpAnyH_all (rs := [3, 7]) (by kernel_rfl) (by simp) ?_
    intro n hn
    rcases (by simpa using hn : n = 3 ∨ n = 7) with rfl | rfl
    · skip
      refine op_call3_to 77 5 rfl rfl (by rfl) (.const (.int .i64 20)) (.tmp 74) (.tmp 76) _ rfl _ _ _ rfl rfl rfl Tryd.enters5 (H20.out _) ?_
      rintro e U2 ⟨rfl, hbU2⟩
      have hU2 := thenW hU1 hbU2
      refine ⟨_, rfl, HR.out.belowW hU2, ?_⟩
      simp only [Act.put, List.setIfInBounds_toArray, List.set_cons_zero, List.set_cons_succ]
      have hT := HR.out.belowW hU2
      refine take_to 4 73 (.tuple #[.agg #[.int .i64 1, .int .i64 p, .string { data := #[] }, .bool false], .int .i64 0]) rfl (by kernel_rfl) (by kernel_rfl) (by kernel_rfl) (fun _ _ _ h => h) rfl (by rfl) (fun w hw => by rfl) hT ?_
      simp only [Act.put, List.setIfInBounds_toArray, List.set_cons_zero, List.set_cons_succ]
      refine take_to 5 78 (.agg #[.int .i64 1, .int .i64 p, .string { data := #[] }, .bool false]) rfl (by kernel_rfl) (by kernel_rfl) (by kernel_rfl) (fun _ _ _ h => h) rfl (by rfl) (fun w hw => by rfl) hT ?_
      simp only [Act.put, List.setIfInBounds_toArray, List.set_cons_zero, List.set_cons_succ]
      refine take_to 6 79 (.int .i64 0) rfl (by kernel_rfl) (by kernel_rfl) (by kernel_rfl) (fun _ _ _ h => h) rfl (by rfl) (fun w hw => by rfl) hT ?_
      simp only [Act.put, List.setIfInBounds_toArray, List.set_cons_zero, List.set_cons_succ]
      have hU3 := allocW hU2 (.cells #[.int .i64 0, .int .i64 0, .string { data := #[] }, .bool false] 23)
      refine step_to 7 9 (.pointer (some ⟨U2.heap.size, 0, none⟩)) (U2.alloc (.cells #[.int .i64 0, .int .i64 0, .string { data := #[] }, .bool false] 23)) rfl (by kernel_rfl) rfl (by rfl) (op_alloc23 _ _ rfl _) (HR.out.belowW hU3) ?_
      simp only [Act.put, List.setIfInBounds_toArray, List.set_cons_zero, List.set_cons_succ]
      have hnU3 : Box (U2.alloc (.cells #[.int .i64 0, .int .i64 0, .string { data := #[] }, .bool false] 23)) U2.heap.size Vl.zero := heap_alloc_new _ _
      have hgU3 := (hU2).size
      generalize U2.alloc (.cells #[.int .i64 0, .int .i64 0, .string { data := #[] }, .bool false] 23) = U3 at hU3 hnU3 ⊢
      generalize U2.heap.size = p9 at hnU3 hgU3 ⊢
      have hT2 : QR p5 p7 q r U3 := HR.out.belowW hU3
      have hT3 := hT2.other #[.int .i64 1, .int .i64 p, .string { data := #[] }, .bool false] (k := p9) (by omega) (by omega)
      refine step_store_to 8 (U3.setRow p9 #[.int .i64 1, .int .i64 p, .string { data := #[] }, .bool false]) rfl (by kernel_rfl) rfl (by rfl) 23 (.tmp 9) (.tmp 78) rfl _ _ rfl rfl (store_val hnU3 (nV p)) hT3 ?_
      refine step_to 9 10 (.int .i64 0) _ rfl (by kernel_rfl) rfl (by rfl) rfl hT3 ?_
      simp only [Act.put, List.setIfInBounds_toArray, List.set_cons_zero, List.set_cons_succ]
      refine wpAnyH_done (by kernel_rfl) ?_ _
      have hf : Below u1.heap.size u1 (U3.setRow p9 #[.int .i64 1, .int .i64 p, .string { data := #[] }, .bool false]) := below_setRow hU3 hgU3 _
      have H9 : Hid (Box (U3.setRow p9 #[.int .i64 1, .int .i64 p, .string { data := #[] }, .bool false]) p9 (nV p)) := Box.after hnU3 (nV p)
      have HK := hide (thenW HG.out hf)
      have HR2 := hide hT3
      clear hf hT2 hT3
      generalize U3.setRow p9 #[.int .i64 1, .int .i64 p, .string { data := #[] }, .bool false] = Wf at *
      clear HG HR  hH
      obtain ⟨i0, i1, i2, i3⟩ := H9.out.lits
      obtain ⟨j0, j1, j2, j3⟩ := HR2.out.b.lits
      have l7f := lt_of_heap HR2.out.b
      have l9f := lt_of_heap H9.out
      rcases hs.out with rfl | ⟨hr0, hrn, han⟩ | ⟨hr0, hrn, han⟩
      · skip
        go_upto_region 12 with (go_at_call 5; refine (H18.out _).mono ?_; rintro e W9 ⟨rfl, hb9⟩; have HB9 := hide hb9; clear hb9; obtain ⟨g0, g1, g2, g3⟩ := (HR2.out.b.belowW HB9.out).lits; have l79 := lt_of_heap (HR2.out.b.belowW HB9.out))
        have hX : Box (W9.alloc (.cells #[.int .i64 1, .int .i64 a, .string { data := #[] }, .bool false] 23)) W9.heap.size (nV a) := heap_alloc_new _ _
        have HX := hide (allocW (thenW HK.out HB9.out) (.cells #[.int .i64 1, .int .i64 a, .string { data := #[] }, .bool false] 23))
        generalize W9.alloc (.cells #[.int .i64 1, .int .i64 a, .string { data := #[] }, .bool false] 23) = Wy at *
        generalize W9.heap.size = p11 at *
        refine wp_region_held_drew (S := fun w' => Box w' p11 (nV a)) (by kernel_rfl) (hX.belowW (below_drewN _ _ 1)) (fun hH => ?_)
        refine step_to 0 97 (.int .i64 0) _ rfl (by kernel_rfl) rfl (by rfl) (rfl) hH ?_
        simp only [Act.put, List.setIfInBounds_toArray, List.set_cons_zero, List.set_cons_succ]
        refine step_to 1 98 (.bool true) _ rfl (by kernel_rfl) rfl (by rfl) (op_eqlE _ _ (.tmp 97) (.const (.int .i64 0)) _ rfl 0 0 rfl rfl true rfl) hH ?_
        simp only [Act.put, List.setIfInBounds_toArray, List.set_cons_zero, List.set_cons_succ]
        refine step_to 2 99 (.bool true) _ rfl (by kernel_rfl) rfl (by rfl) (rfl) hH ?_
        simp only [Act.put, List.setIfInBounds_toArray, List.set_cons_zero, List.set_cons_succ]
        refine step_to 3 100 (.int .i64 0) _ rfl (by kernel_rfl) rfl (by rfl) (rfl) hH ?_
        simp only [Act.put, List.setIfInBounds_toArray, List.set_cons_zero, List.set_cons_succ]
        refine step_to 4 101 (.bool true) _ rfl (by kernel_rfl) rfl (by rfl) (op_eqlE _ _ (.tmp 100) (.const (.int .i64 0)) _ rfl 0 0 rfl rfl true rfl) hH ?_
        simp only [Act.put, List.setIfInBounds_toArray, List.set_cons_zero, List.set_cons_succ]
        refine step_to 5 102 (.bool true) _ rfl (by kernel_rfl) rfl (by rfl) (rfl) hH ?_
        simp only [Act.put, List.setIfInBounds_toArray, List.set_cons_zero, List.set_cons_succ]
        refine step_to 6 103 (.bool true) _ rfl (by kernel_rfl) rfl (by rfl) (rfl) hH ?_
        simp only [Act.put, List.setIfInBounds_toArray, List.set_cons_zero, List.set_cons_succ]
        refine take_to 7 104 (.agg #[.int .i64 (nV a).ty, .int .i64 (nV a).n, .string (strOf (nV a).t), .bool (nV a).b]) rfl (by kernel_rfl) (by kernel_rfl) (by kernel_rfl) (fun _ _ _ h => h) rfl (by rfl) (fun w hw => op_load _ _ 23 (.tmp 11) rfl (.pointer (some ⟨p11, 0, none⟩)) _ rfl (load23 hw)) hH ?_
        simp only [Act.put, List.setIfInBounds_toArray, List.set_cons_zero, List.set_cons_succ]
        refine step_to 8 105 (.int .i64 a) _ rfl (by kernel_rfl) rfl (by rfl) (rfl) hH ?_
        simp only [Act.put, List.setIfInBounds_toArray, List.set_cons_zero, List.set_cons_succ]
        refine step_call1_to 9 106 6 rfl (by kernel_rfl) rfl (by rfl) (.tmp 105) _ rfl _ rfl Tryd.enters6 (HI.out _ _) ?_
        rintro e v1 ⟨rfl, hb1⟩
        have hH1 := hH.belowW hb1
        refine ⟨_, rfl, hH1, ?_⟩
        simp only [Act.put, List.setIfInBounds_toArray, List.set_cons_zero, List.set_cons_succ]
        refine step_to 10 107 (.bool true) _ rfl (by kernel_rfl) rfl (by rfl) (op_eqlV _ _ (.tmp 104) (.tmp 106) _ rfl (nV a) rfl rfl) hH1 ?_
        simp only [Act.put, List.setIfInBounds_toArray, List.set_cons_zero, List.set_cons_succ]
        refine step_to 11 108 (.bool true) _ rfl (by kernel_rfl) rfl (by rfl) (rfl) hH1 ?_
        simp only [Act.put, List.setIfInBounds_toArray, List.set_cons_zero, List.set_cons_succ]
        refine step_to 12 109 (.bool true) _ rfl (by kernel_rfl) rfl (by rfl) (rfl) hH1 ?_
        simp only [Act.put, List.setIfInBounds_toArray, List.set_cons_zero, List.set_cons_succ]
        refine step_to 13 110 (.bool true) _ rfl (by kernel_rfl) rfl (by rfl) (rfl) hH1 ?_
        simp only [Act.put, List.setIfInBounds_toArray, List.set_cons_zero, List.set_cons_succ]
        refine step_to 14 111 (.bool true) _ rfl (by kernel_rfl) rfl (by rfl) (rfl) hH1 ?_
        simp only [Act.put, List.setIfInBounds_toArray, List.set_cons_zero, List.set_cons_succ]
        refine step_to 15 112 (.bool true) _ rfl (by kernel_rfl) rfl (by rfl) (rfl) hH1 ?_
        simp only [Act.put, List.setIfInBounds_toArray, List.set_cons_zero, List.set_cons_succ]
        have HBX := thenW (HX.out.trans (below_drewN _ _ 1)) hb1
        refine step_call0_to 16 113 7 rfl (by kernel_rfl) rfl (by rfl) _ rfl Tryd.enters7 (HAW.out _ HBX) ?_
        rintro e v2 ⟨rfl, hb2⟩
        have hH2 := hH1.belowW hb2
        refine ⟨_, rfl, hH2, ?_⟩
        simp only [Act.put, List.setIfInBounds_toArray, List.set_cons_zero, List.set_cons_succ]
        refine step_to 17 114 (.bool true) _ rfl (by kernel_rfl) rfl (by rfl) (rfl) hH2 ?_
        simp only [Act.put, List.setIfInBounds_toArray, List.set_cons_zero, List.set_cons_succ]
        refine step_to 18 4 (.bool true) _ rfl (by kernel_rfl) rfl (by rfl) (rfl) hH2 ?_
        simp only [Act.put, List.setIfInBounds_toArray, List.set_cons_zero, List.set_cons_succ]
        refine wpAnyH_done (by kernel_rfl) ?_ _
        go_wp2
        go_ret
        exact ⟨rfl, thenW HBX hb2⟩
      · skip
        go_upto_region 12 with (go_at_call 5; refine (H18.out _).mono ?_; rintro e W9 ⟨rfl, hb9⟩; have HB9 := hide hb9; clear hb9; obtain ⟨g0, g1, g2, g3⟩ := (HR2.out.b.belowW HB9.out).lits; have l79 := lt_of_heap (HR2.out.b.belowW HB9.out))
        have hX : Box (W9.alloc (.cells #[.int .i64 1, .int .i64 a, .string { data := #[] }, .bool false] 23)) W9.heap.size (nV a) := heap_alloc_new _ _
        have HX := hide (allocW (thenW HK.out HB9.out) (.cells #[.int .i64 1, .int .i64 a, .string { data := #[] }, .bool false] 23))
        generalize W9.alloc (.cells #[.int .i64 1, .int .i64 a, .string { data := #[] }, .bool false] 23) = Wy at *
        generalize W9.heap.size = p11 at *
        refine wp_region_held_drew (S := fun w' => Box w' p11 (nV a)) (by kernel_rfl) (hX.belowW (below_drewN _ _ 1)) (fun hH => ?_)
        refine step_to 0 97 (.int .i64 0) _ rfl (by kernel_rfl) rfl (by rfl) (rfl) hH ?_
        simp only [Act.put, List.setIfInBounds_toArray, List.set_cons_zero, List.set_cons_succ]
        refine step_to 1 98 (.bool true) _ rfl (by kernel_rfl) rfl (by rfl) (op_eqlE _ _ (.tmp 97) (.const (.int .i64 0)) _ rfl 0 0 rfl rfl true rfl) hH ?_
        simp only [Act.put, List.setIfInBounds_toArray, List.set_cons_zero, List.set_cons_succ]
        refine step_to 2 99 (.bool true) _ rfl (by kernel_rfl) rfl (by rfl) (rfl) hH ?_
        simp only [Act.put, List.setIfInBounds_toArray, List.set_cons_zero, List.set_cons_succ]
        refine step_to 3 100 (.int .i64 0) _ rfl (by kernel_rfl) rfl (by rfl) (rfl) hH ?_
        simp only [Act.put, List.setIfInBounds_toArray, List.set_cons_zero, List.set_cons_succ]
        refine step_to 4 101 (.bool true) _ rfl (by kernel_rfl) rfl (by rfl) (op_eqlE _ _ (.tmp 100) (.const (.int .i64 0)) _ rfl 0 0 rfl rfl true rfl) hH ?_
        simp only [Act.put, List.setIfInBounds_toArray, List.set_cons_zero, List.set_cons_succ]
        refine step_to 5 102 (.bool true) _ rfl (by kernel_rfl) rfl (by rfl) (rfl) hH ?_
        simp only [Act.put, List.setIfInBounds_toArray, List.set_cons_zero, List.set_cons_succ]
        refine step_to 6 103 (.bool true) _ rfl (by kernel_rfl) rfl (by rfl) (rfl) hH ?_
        simp only [Act.put, List.setIfInBounds_toArray, List.set_cons_zero, List.set_cons_succ]
        refine take_to 7 104 (.agg #[.int .i64 (nV a).ty, .int .i64 (nV a).n, .string (strOf (nV a).t), .bool (nV a).b]) rfl (by kernel_rfl) (by kernel_rfl) (by kernel_rfl) (fun _ _ _ h => h) rfl (by rfl) (fun w hw => op_load _ _ 23 (.tmp 11) rfl (.pointer (some ⟨p11, 0, none⟩)) _ rfl (load23 hw)) hH ?_
        simp only [Act.put, List.setIfInBounds_toArray, List.set_cons_zero, List.set_cons_succ]
        refine step_to 8 105 (.int .i64 a) _ rfl (by kernel_rfl) rfl (by rfl) (rfl) hH ?_
        simp only [Act.put, List.setIfInBounds_toArray, List.set_cons_zero, List.set_cons_succ]
        refine step_call1_to 9 106 6 rfl (by kernel_rfl) rfl (by rfl) (.tmp 105) _ rfl _ rfl Tryd.enters6 (HI.out _ _) ?_
        rintro e v1 ⟨rfl, hb1⟩
        have hH1 := hH.belowW hb1
        refine ⟨_, rfl, hH1, ?_⟩
        simp only [Act.put, List.setIfInBounds_toArray, List.set_cons_zero, List.set_cons_succ]
        refine step_to 10 107 (.bool true) _ rfl (by kernel_rfl) rfl (by rfl) (op_eqlV _ _ (.tmp 104) (.tmp 106) _ rfl (nV a) rfl rfl) hH1 ?_
        simp only [Act.put, List.setIfInBounds_toArray, List.set_cons_zero, List.set_cons_succ]
        refine step_to 11 108 (.bool true) _ rfl (by kernel_rfl) rfl (by rfl) (rfl) hH1 ?_
        simp only [Act.put, List.setIfInBounds_toArray, List.set_cons_zero, List.set_cons_succ]
        refine step_to 12 109 (.bool true) _ rfl (by kernel_rfl) rfl (by rfl) (rfl) hH1 ?_
        simp only [Act.put, List.setIfInBounds_toArray, List.set_cons_zero, List.set_cons_succ]
        refine step_to 13 110 (.bool true) _ rfl (by kernel_rfl) rfl (by rfl) (rfl) hH1 ?_
        simp only [Act.put, List.setIfInBounds_toArray, List.set_cons_zero, List.set_cons_succ]
        refine step_to 14 111 (.bool true) _ rfl (by kernel_rfl) rfl (by rfl) (rfl) hH1 ?_
        simp only [Act.put, List.setIfInBounds_toArray, List.set_cons_zero, List.set_cons_succ]
        refine step_to 15 112 (.bool true) _ rfl (by kernel_rfl) rfl (by rfl) (rfl) hH1 ?_
        simp only [Act.put, List.setIfInBounds_toArray, List.set_cons_zero, List.set_cons_succ]
        have HBX := thenW (HX.out.trans (below_drewN _ _ 1)) hb1
        refine step_call0_to 16 113 7 rfl (by kernel_rfl) rfl (by rfl) _ rfl Tryd.enters7 (HAW.out _ HBX) ?_
        rintro e v2 ⟨rfl, hb2⟩
        have hH2 := hH1.belowW hb2
        refine ⟨_, rfl, hH2, ?_⟩
        simp only [Act.put, List.setIfInBounds_toArray, List.set_cons_zero, List.set_cons_succ]
        refine step_to 17 114 (.bool true) _ rfl (by kernel_rfl) rfl (by rfl) (rfl) hH2 ?_
        simp only [Act.put, List.setIfInBounds_toArray, List.set_cons_zero, List.set_cons_succ]
        refine step_to 18 4 (.bool true) _ rfl (by kernel_rfl) rfl (by rfl) (rfl) hH2 ?_
        simp only [Act.put, List.setIfInBounds_toArray, List.set_cons_zero, List.set_cons_succ]
        refine wpAnyH_done (by kernel_rfl) ?_ _
        go_wp2
        go_ret
        exact ⟨rfl, thenW HBX hb2⟩
      · skip
        go_upto_region 12 with (go_at_call 5; refine (H18.out _).mono ?_; rintro e W9 ⟨rfl, hb9⟩; have HB9 := hide hb9; clear hb9; obtain ⟨g0, g1, g2, g3⟩ := (HR2.out.b.belowW HB9.out).lits; have l79 := lt_of_heap (HR2.out.b.belowW HB9.out))
        have hX : Box (W9.alloc (.cells #[.int .i64 1, .int .i64 a, .string { data := #[] }, .bool false] 23)) W9.heap.size (nV a) := heap_alloc_new _ _
        have HX := hide (allocW (thenW HK.out HB9.out) (.cells #[.int .i64 1, .int .i64 a, .string { data := #[] }, .bool false] 23))
        generalize W9.alloc (.cells #[.int .i64 1, .int .i64 a, .string { data := #[] }, .bool false] 23) = Wy at *
        generalize W9.heap.size = p11 at *
        refine wp_region_held_drew (S := fun w' => Box w' p11 (nV a)) (by kernel_rfl) (hX.belowW (below_drewN _ _ 1)) (fun hH => ?_)
        refine step_to 0 97 (.int .i64 0) _ rfl (by kernel_rfl) rfl (by rfl) (rfl) hH ?_
        simp only [Act.put, List.setIfInBounds_toArray, List.set_cons_zero, List.set_cons_succ]
        refine step_to 1 98 (.bool true) _ rfl (by kernel_rfl) rfl (by rfl) (op_eqlE _ _ (.tmp 97) (.const (.int .i64 0)) _ rfl 0 0 rfl rfl true rfl) hH ?_
        simp only [Act.put, List.setIfInBounds_toArray, List.set_cons_zero, List.set_cons_succ]
        refine step_to 2 99 (.bool true) _ rfl (by kernel_rfl) rfl (by rfl) (rfl) hH ?_
        simp only [Act.put, List.setIfInBounds_toArray, List.set_cons_zero, List.set_cons_succ]
        refine step_to 3 100 (.int .i64 0) _ rfl (by kernel_rfl) rfl (by rfl) (rfl) hH ?_
        simp only [Act.put, List.setIfInBounds_toArray, List.set_cons_zero, List.set_cons_succ]
        refine step_to 4 101 (.bool true) _ rfl (by kernel_rfl) rfl (by rfl) (op_eqlE _ _ (.tmp 100) (.const (.int .i64 0)) _ rfl 0 0 rfl rfl true rfl) hH ?_
        simp only [Act.put, List.setIfInBounds_toArray, List.set_cons_zero, List.set_cons_succ]
        refine step_to 5 102 (.bool true) _ rfl (by kernel_rfl) rfl (by rfl) (rfl) hH ?_
        simp only [Act.put, List.setIfInBounds_toArray, List.set_cons_zero, List.set_cons_succ]
        refine step_to 6 103 (.bool true) _ rfl (by kernel_rfl) rfl (by rfl) (rfl) hH ?_
        simp only [Act.put, List.setIfInBounds_toArray, List.set_cons_zero, List.set_cons_succ]
        refine take_to 7 104 (.agg #[.int .i64 (nV a).ty, .int .i64 (nV a).n, .string (strOf (nV a).t), .bool (nV a).b]) rfl (by kernel_rfl) (by kernel_rfl) (by kernel_rfl) (fun _ _ _ h => h) rfl (by rfl) (fun w hw => op_load _ _ 23 (.tmp 11) rfl (.pointer (some ⟨p11, 0, none⟩)) _ rfl (load23 hw)) hH ?_
        simp only [Act.put, List.setIfInBounds_toArray, List.set_cons_zero, List.set_cons_succ]
        refine step_to 8 105 (.int .i64 a) _ rfl (by kernel_rfl) rfl (by rfl) (rfl) hH ?_
        simp only [Act.put, List.setIfInBounds_toArray, List.set_cons_zero, List.set_cons_succ]
        refine step_call1_to 9 106 6 rfl (by kernel_rfl) rfl (by rfl) (.tmp 105) _ rfl _ rfl Tryd.enters6 (HI.out _ _) ?_
        rintro e v1 ⟨rfl, hb1⟩
        have hH1 := hH.belowW hb1
        refine ⟨_, rfl, hH1, ?_⟩
        simp only [Act.put, List.setIfInBounds_toArray, List.set_cons_zero, List.set_cons_succ]
        refine step_to 10 107 (.bool true) _ rfl (by kernel_rfl) rfl (by rfl) (op_eqlV _ _ (.tmp 104) (.tmp 106) _ rfl (nV a) rfl rfl) hH1 ?_
        simp only [Act.put, List.setIfInBounds_toArray, List.set_cons_zero, List.set_cons_succ]
        refine step_to 11 108 (.bool true) _ rfl (by kernel_rfl) rfl (by rfl) (rfl) hH1 ?_
        simp only [Act.put, List.setIfInBounds_toArray, List.set_cons_zero, List.set_cons_succ]
        refine step_to 12 109 (.bool true) _ rfl (by kernel_rfl) rfl (by rfl) (rfl) hH1 ?_
        simp only [Act.put, List.setIfInBounds_toArray, List.set_cons_zero, List.set_cons_succ]
        refine step_to 13 110 (.bool true) _ rfl (by kernel_rfl) rfl (by rfl) (rfl) hH1 ?_
        simp only [Act.put, List.setIfInBounds_toArray, List.set_cons_zero, List.set_cons_succ]
        refine step_to 14 111 (.bool true) _ rfl (by kernel_rfl) rfl (by rfl) (rfl) hH1 ?_
        simp only [Act.put, List.setIfInBounds_toArray, List.set_cons_zero, List.set_cons_succ]
        refine step_to 15 112 (.bool true) _ rfl (by kernel_rfl) rfl (by rfl) (rfl) hH1 ?_
        simp only [Act.put, List.setIfInBounds_toArray, List.set_cons_zero, List.set_cons_succ]
        have HBX := thenW (HX.out.trans (below_drewN _ _ 1)) hb1
        refine step_call0_to 16 113 7 rfl (by kernel_rfl) rfl (by rfl) _ rfl Tryd.enters7 (HAW.out _ HBX) ?_
        rintro e v2 ⟨rfl, hb2⟩
        have hH2 := hH1.belowW hb2
        refine ⟨_, rfl, hH2, ?_⟩
        simp only [Act.put, List.setIfInBounds_toArray, List.set_cons_zero, List.set_cons_succ]
        refine step_to 17 114 (.bool true) _ rfl (by kernel_rfl) rfl (by rfl) (rfl) hH2 ?_
        simp only [Act.put, List.setIfInBounds_toArray, List.set_cons_zero, List.set_cons_succ]
        refine step_to 18 4 (.bool true) _ rfl (by kernel_rfl) rfl (by rfl) (rfl) hH2 ?_
        simp only [Act.put, List.setIfInBounds_toArray, List.set_cons_zero, List.set_cons_succ]
        refine wpAnyH_done (by kernel_rfl) ?_ _
        go_wp2
        go_ret
        exact ⟨rfl, thenW HBX hb2⟩
    · skip
      have hU2 := allocW hU1 (.cells #[.int .i64 0, .int .i64 0, .string { data := #[] }, .bool false] 23)
      refine op_to 9 (.pointer (some ⟨U1.heap.size, 0, none⟩)) (U1.alloc (.cells #[.int .i64 0, .int .i64 0, .string { data := #[] }, .bool false] 23)) rfl rfl (by rfl) (op_alloc23 _ _ rfl _) ⟨HR.out.belowW hU2, ?_⟩
      simp only [Act.put, List.setIfInBounds_toArray, List.set_cons_zero, List.set_cons_succ]
      have hnU2 : Box (U1.alloc (.cells #[.int .i64 0, .int .i64 0, .string { data := #[] }, .bool false] 23)) U1.heap.size Vl.zero := heap_alloc_new _ _
      have hgU2 := (hU1).size
      generalize U1.alloc (.cells #[.int .i64 0, .int .i64 0, .string { data := #[] }, .bool false] 23) = U2 at hU2 hnU2 ⊢
      generalize U1.heap.size = p9 at hnU2 hgU2 ⊢
      refine step_call3_to 3 77 5 rfl (by kernel_rfl) rfl (by rfl) (.const (.int .i64 20)) (.tmp 74) (.tmp 76) _ rfl _ _ _ rfl rfl rfl Tryd.enters5 (H20.out _) ?_
      rintro e U3 ⟨rfl, hbU3⟩
      have hU3 := thenW hU2 hbU3
      refine ⟨_, rfl, HR.out.belowW hU3, ?_⟩
      simp only [Act.put, List.setIfInBounds_toArray, List.set_cons_zero, List.set_cons_succ]
      have hT := HR.out.belowW hU3
      refine take_to 4 73 (.tuple #[.agg #[.int .i64 1, .int .i64 p, .string { data := #[] }, .bool false], .int .i64 0]) rfl (by kernel_rfl) (by kernel_rfl) (by kernel_rfl) (fun _ _ _ h => h) rfl (by rfl) (fun w hw => by rfl) hT ?_
      simp only [Act.put, List.setIfInBounds_toArray, List.set_cons_zero, List.set_cons_succ]
      refine take_to 5 78 (.agg #[.int .i64 1, .int .i64 p, .string { data := #[] }, .bool false]) rfl (by kernel_rfl) (by kernel_rfl) (by kernel_rfl) (fun _ _ _ h => h) rfl (by rfl) (fun w hw => by rfl) hT ?_
      simp only [Act.put, List.setIfInBounds_toArray, List.set_cons_zero, List.set_cons_succ]
      refine take_to 6 79 (.int .i64 0) rfl (by kernel_rfl) (by kernel_rfl) (by kernel_rfl) (fun _ _ _ h => h) rfl (by rfl) (fun w hw => by rfl) hT ?_
      simp only [Act.put, List.setIfInBounds_toArray, List.set_cons_zero, List.set_cons_succ]
      have hnn := hnU2.belowW hbU3
      have hT2 : QR p5 p7 q r U3 := HR.out.belowW hU3
      have hT3 := hT2.other #[.int .i64 1, .int .i64 p, .string { data := #[] }, .bool false] (k := p9) (by omega) (by omega)
      refine step_store_to 8 (U3.setRow p9 #[.int .i64 1, .int .i64 p, .string { data := #[] }, .bool false]) rfl (by kernel_rfl) rfl (by rfl) 23 (.tmp 9) (.tmp 78) rfl _ _ rfl rfl (store_val hnn (nV p)) hT3 ?_
      refine step_to 9 10 (.int .i64 0) _ rfl (by kernel_rfl) rfl (by rfl) rfl hT3 ?_
      simp only [Act.put, List.setIfInBounds_toArray, List.set_cons_zero, List.set_cons_succ]
      refine wpAnyH_done (by kernel_rfl) ?_ _
      have hf : Below u1.heap.size u1 (U3.setRow p9 #[.int .i64 1, .int .i64 p, .string { data := #[] }, .bool false]) := below_setRow hU3 hgU2 _
      have H9 : Hid (Box (U3.setRow p9 #[.int .i64 1, .int .i64 p, .string { data := #[] }, .bool false]) p9 (nV p)) := Box.after hnn (nV p)
      have HK := hide (thenW HG.out hf)
      have HR2 := hide hT3
      clear hf hT2 hT3
      generalize U3.setRow p9 #[.int .i64 1, .int .i64 p, .string { data := #[] }, .bool false] = Wf at *
      clear HG HR  hH
      obtain ⟨i0, i1, i2, i3⟩ := H9.out.lits
      obtain ⟨j0, j1, j2, j3⟩ := HR2.out.b.lits
      have l7f := lt_of_heap HR2.out.b
      have l9f := lt_of_heap H9.out
      rcases hs.out with rfl | ⟨hr0, hrn, han⟩ | ⟨hr0, hrn, han⟩
      · skip
        go_upto_region 12 with (go_at_call 5; refine (H18.out _).mono ?_; rintro e W9 ⟨rfl, hb9⟩; have HB9 := hide hb9; clear hb9; obtain ⟨g0, g1, g2, g3⟩ := (HR2.out.b.belowW HB9.out).lits; have l79 := lt_of_heap (HR2.out.b.belowW HB9.out))
        have hX : Box (W9.alloc (.cells #[.int .i64 1, .int .i64 a, .string { data := #[] }, .bool false] 23)) W9.heap.size (nV a) := heap_alloc_new _ _
        have HX := hide (allocW (thenW HK.out HB9.out) (.cells #[.int .i64 1, .int .i64 a, .string { data := #[] }, .bool false] 23))
        generalize W9.alloc (.cells #[.int .i64 1, .int .i64 a, .string { data := #[] }, .bool false] 23) = Wy at *
        generalize W9.heap.size = p11 at *
        refine wp_region_held_drew (S := fun w' => Box w' p11 (nV a)) (by kernel_rfl) (hX.belowW (below_drewN _ _ 1)) (fun hH => ?_)
        refine step_to 0 97 (.int .i64 0) _ rfl (by kernel_rfl) rfl (by rfl) (rfl) hH ?_
        simp only [Act.put, List.setIfInBounds_toArray, List.set_cons_zero, List.set_cons_succ]
        refine step_to 1 98 (.bool true) _ rfl (by kernel_rfl) rfl (by rfl) (op_eqlE _ _ (.tmp 97) (.const (.int .i64 0)) _ rfl 0 0 rfl rfl true rfl) hH ?_
        simp only [Act.put, List.setIfInBounds_toArray, List.set_cons_zero, List.set_cons_succ]
        refine step_to 2 99 (.bool true) _ rfl (by kernel_rfl) rfl (by rfl) (rfl) hH ?_
        simp only [Act.put, List.setIfInBounds_toArray, List.set_cons_zero, List.set_cons_succ]
        refine step_to 3 100 (.int .i64 0) _ rfl (by kernel_rfl) rfl (by rfl) (rfl) hH ?_
        simp only [Act.put, List.setIfInBounds_toArray, List.set_cons_zero, List.set_cons_succ]
        refine step_to 4 101 (.bool true) _ rfl (by kernel_rfl) rfl (by rfl) (op_eqlE _ _ (.tmp 100) (.const (.int .i64 0)) _ rfl 0 0 rfl rfl true rfl) hH ?_
        simp only [Act.put, List.setIfInBounds_toArray, List.set_cons_zero, List.set_cons_succ]
        refine step_to 5 102 (.bool true) _ rfl (by kernel_rfl) rfl (by rfl) (rfl) hH ?_
        simp only [Act.put, List.setIfInBounds_toArray, List.set_cons_zero, List.set_cons_succ]
        refine step_to 6 103 (.bool true) _ rfl (by kernel_rfl) rfl (by rfl) (rfl) hH ?_
        simp only [Act.put, List.setIfInBounds_toArray, List.set_cons_zero, List.set_cons_succ]
        refine take_to 7 104 (.agg #[.int .i64 (nV a).ty, .int .i64 (nV a).n, .string (strOf (nV a).t), .bool (nV a).b]) rfl (by kernel_rfl) (by kernel_rfl) (by kernel_rfl) (fun _ _ _ h => h) rfl (by rfl) (fun w hw => op_load _ _ 23 (.tmp 11) rfl (.pointer (some ⟨p11, 0, none⟩)) _ rfl (load23 hw)) hH ?_
        simp only [Act.put, List.setIfInBounds_toArray, List.set_cons_zero, List.set_cons_succ]
        refine step_to 8 105 (.int .i64 a) _ rfl (by kernel_rfl) rfl (by rfl) (rfl) hH ?_
        simp only [Act.put, List.setIfInBounds_toArray, List.set_cons_zero, List.set_cons_succ]
        refine step_call1_to 9 106 6 rfl (by kernel_rfl) rfl (by rfl) (.tmp 105) _ rfl _ rfl Tryd.enters6 (HI.out _ _) ?_
        rintro e v1 ⟨rfl, hb1⟩
        have hH1 := hH.belowW hb1
        refine ⟨_, rfl, hH1, ?_⟩
        simp only [Act.put, List.setIfInBounds_toArray, List.set_cons_zero, List.set_cons_succ]
        refine step_to 10 107 (.bool true) _ rfl (by kernel_rfl) rfl (by rfl) (op_eqlV _ _ (.tmp 104) (.tmp 106) _ rfl (nV a) rfl rfl) hH1 ?_
        simp only [Act.put, List.setIfInBounds_toArray, List.set_cons_zero, List.set_cons_succ]
        refine step_to 11 108 (.bool true) _ rfl (by kernel_rfl) rfl (by rfl) (rfl) hH1 ?_
        simp only [Act.put, List.setIfInBounds_toArray, List.set_cons_zero, List.set_cons_succ]
        refine step_to 12 109 (.bool true) _ rfl (by kernel_rfl) rfl (by rfl) (rfl) hH1 ?_
        simp only [Act.put, List.setIfInBounds_toArray, List.set_cons_zero, List.set_cons_succ]
        refine step_to 13 110 (.bool true) _ rfl (by kernel_rfl) rfl (by rfl) (rfl) hH1 ?_
        simp only [Act.put, List.setIfInBounds_toArray, List.set_cons_zero, List.set_cons_succ]
        refine step_to 14 111 (.bool true) _ rfl (by kernel_rfl) rfl (by rfl) (rfl) hH1 ?_
        simp only [Act.put, List.setIfInBounds_toArray, List.set_cons_zero, List.set_cons_succ]
        refine step_to 15 112 (.bool true) _ rfl (by kernel_rfl) rfl (by rfl) (rfl) hH1 ?_
        simp only [Act.put, List.setIfInBounds_toArray, List.set_cons_zero, List.set_cons_succ]
        have HBX := thenW (HX.out.trans (below_drewN _ _ 1)) hb1
        refine step_call0_to 16 113 7 rfl (by kernel_rfl) rfl (by rfl) _ rfl Tryd.enters7 (HAW.out _ HBX) ?_
        rintro e v2 ⟨rfl, hb2⟩
        have hH2 := hH1.belowW hb2
        refine ⟨_, rfl, hH2, ?_⟩
        simp only [Act.put, List.setIfInBounds_toArray, List.set_cons_zero, List.set_cons_succ]
        refine step_to 17 114 (.bool true) _ rfl (by kernel_rfl) rfl (by rfl) (rfl) hH2 ?_
        simp only [Act.put, List.setIfInBounds_toArray, List.set_cons_zero, List.set_cons_succ]
        refine step_to 18 4 (.bool true) _ rfl (by kernel_rfl) rfl (by rfl) (rfl) hH2 ?_
        simp only [Act.put, List.setIfInBounds_toArray, List.set_cons_zero, List.set_cons_succ]
        refine wpAnyH_done (by kernel_rfl) ?_ _
        go_wp2
        go_ret
        exact ⟨rfl, thenW HBX hb2⟩
      · skip
        go_upto_region 12 with (go_at_call 5; refine (H18.out _).mono ?_; rintro e W9 ⟨rfl, hb9⟩; have HB9 := hide hb9; clear hb9; obtain ⟨g0, g1, g2, g3⟩ := (HR2.out.b.belowW HB9.out).lits; have l79 := lt_of_heap (HR2.out.b.belowW HB9.out))
        have hX : Box (W9.alloc (.cells #[.int .i64 1, .int .i64 a, .string { data := #[] }, .bool false] 23)) W9.heap.size (nV a) := heap_alloc_new _ _
        have HX := hide (allocW (thenW HK.out HB9.out) (.cells #[.int .i64 1, .int .i64 a, .string { data := #[] }, .bool false] 23))
        generalize W9.alloc (.cells #[.int .i64 1, .int .i64 a, .string { data := #[] }, .bool false] 23) = Wy at *
        generalize W9.heap.size = p11 at *
        refine wp_region_held_drew (S := fun w' => Box w' p11 (nV a)) (by kernel_rfl) (hX.belowW (below_drewN _ _ 1)) (fun hH => ?_)
        refine step_to 0 97 (.int .i64 0) _ rfl (by kernel_rfl) rfl (by rfl) (rfl) hH ?_
        simp only [Act.put, List.setIfInBounds_toArray, List.set_cons_zero, List.set_cons_succ]
        refine step_to 1 98 (.bool true) _ rfl (by kernel_rfl) rfl (by rfl) (op_eqlE _ _ (.tmp 97) (.const (.int .i64 0)) _ rfl 0 0 rfl rfl true rfl) hH ?_
        simp only [Act.put, List.setIfInBounds_toArray, List.set_cons_zero, List.set_cons_succ]
        refine step_to 2 99 (.bool true) _ rfl (by kernel_rfl) rfl (by rfl) (rfl) hH ?_
        simp only [Act.put, List.setIfInBounds_toArray, List.set_cons_zero, List.set_cons_succ]
        refine step_to 3 100 (.int .i64 0) _ rfl (by kernel_rfl) rfl (by rfl) (rfl) hH ?_
        simp only [Act.put, List.setIfInBounds_toArray, List.set_cons_zero, List.set_cons_succ]
        refine step_to 4 101 (.bool true) _ rfl (by kernel_rfl) rfl (by rfl) (op_eqlE _ _ (.tmp 100) (.const (.int .i64 0)) _ rfl 0 0 rfl rfl true rfl) hH ?_
        simp only [Act.put, List.setIfInBounds_toArray, List.set_cons_zero, List.set_cons_succ]
        refine step_to 5 102 (.bool true) _ rfl (by kernel_rfl) rfl (by rfl) (rfl) hH ?_
        simp only [Act.put, List.setIfInBounds_toArray, List.set_cons_zero, List.set_cons_succ]
        refine step_to 6 103 (.bool true) _ rfl (by kernel_rfl) rfl (by rfl) (rfl) hH ?_
        simp only [Act.put, List.setIfInBounds_toArray, List.set_cons_zero, List.set_cons_succ]
        refine take_to 7 104 (.agg #[.int .i64 (nV a).ty, .int .i64 (nV a).n, .string (strOf (nV a).t), .bool (nV a).b]) rfl (by kernel_rfl) (by kernel_rfl) (by kernel_rfl) (fun _ _ _ h => h) rfl (by rfl) (fun w hw => op_load _ _ 23 (.tmp 11) rfl (.pointer (some ⟨p11, 0, none⟩)) _ rfl (load23 hw)) hH ?_
        simp only [Act.put, List.setIfInBounds_toArray, List.set_cons_zero, List.set_cons_succ]
        refine step_to 8 105 (.int .i64 a) _ rfl (by kernel_rfl) rfl (by rfl) (rfl) hH ?_
        simp only [Act.put, List.setIfInBounds_toArray, List.set_cons_zero, List.set_cons_succ]
        refine step_call1_to 9 106 6 rfl (by kernel_rfl) rfl (by rfl) (.tmp 105) _ rfl _ rfl Tryd.enters6 (HI.out _ _) ?_
        rintro e v1 ⟨rfl, hb1⟩
        have hH1 := hH.belowW hb1
        refine ⟨_, rfl, hH1, ?_⟩
        simp only [Act.put, List.setIfInBounds_toArray, List.set_cons_zero, List.set_cons_succ]
        refine step_to 10 107 (.bool true) _ rfl (by kernel_rfl) rfl (by rfl) (op_eqlV _ _ (.tmp 104) (.tmp 106) _ rfl (nV a) rfl rfl) hH1 ?_
        simp only [Act.put, List.setIfInBounds_toArray, List.set_cons_zero, List.set_cons_succ]
        refine step_to 11 108 (.bool true) _ rfl (by kernel_rfl) rfl (by rfl) (rfl) hH1 ?_
        simp only [Act.put, List.setIfInBounds_toArray, List.set_cons_zero, List.set_cons_succ]
        refine step_to 12 109 (.bool true) _ rfl (by kernel_rfl) rfl (by rfl) (rfl) hH1 ?_
        simp only [Act.put, List.setIfInBounds_toArray, List.set_cons_zero, List.set_cons_succ]
        refine step_to 13 110 (.bool true) _ rfl (by kernel_rfl) rfl (by rfl) (rfl) hH1 ?_
        simp only [Act.put, List.setIfInBounds_toArray, List.set_cons_zero, List.set_cons_succ]
        refine step_to 14 111 (.bool true) _ rfl (by kernel_rfl) rfl (by rfl) (rfl) hH1 ?_
        simp only [Act.put, List.setIfInBounds_toArray, List.set_cons_zero, List.set_cons_succ]
        refine step_to 15 112 (.bool true) _ rfl (by kernel_rfl) rfl (by rfl) (rfl) hH1 ?_
        simp only [Act.put, List.setIfInBounds_toArray, List.set_cons_zero, List.set_cons_succ]
        have HBX := thenW (HX.out.trans (below_drewN _ _ 1)) hb1
        refine step_call0_to 16 113 7 rfl (by kernel_rfl) rfl (by rfl) _ rfl Tryd.enters7 (HAW.out _ HBX) ?_
        rintro e v2 ⟨rfl, hb2⟩
        have hH2 := hH1.belowW hb2
        refine ⟨_, rfl, hH2, ?_⟩
        simp only [Act.put, List.setIfInBounds_toArray, List.set_cons_zero, List.set_cons_succ]
        refine step_to 17 114 (.bool true) _ rfl (by kernel_rfl) rfl (by rfl) (rfl) hH2 ?_
        simp only [Act.put, List.setIfInBounds_toArray, List.set_cons_zero, List.set_cons_succ]
        refine step_to 18 4 (.bool true) _ rfl (by kernel_rfl) rfl (by rfl) (rfl) hH2 ?_
        simp only [Act.put, List.setIfInBounds_toArray, List.set_cons_zero, List.set_cons_succ]
        refine wpAnyH_done (by kernel_rfl) ?_ _
        go_wp2
        go_ret
        exact ⟨rfl, thenW HBX hb2⟩
      · skip
        go_upto_region 12 with (go_at_call 5; refine (H18.out _).mono ?_; rintro e W9 ⟨rfl, hb9⟩; have HB9 := hide hb9; clear hb9; obtain ⟨g0, g1, g2, g3⟩ := (HR2.out.b.belowW HB9.out).lits; have l79 := lt_of_heap (HR2.out.b.belowW HB9.out))
        have hX : Box (W9.alloc (.cells #[.int .i64 1, .int .i64 a, .string { data := #[] }, .bool false] 23)) W9.heap.size (nV a) := heap_alloc_new _ _
        have HX := hide (allocW (thenW HK.out HB9.out) (.cells #[.int .i64 1, .int .i64 a, .string { data := #[] }, .bool false] 23))
        generalize W9.alloc (.cells #[.int .i64 1, .int .i64 a, .string { data := #[] }, .bool false] 23) = Wy at *
        generalize W9.heap.size = p11 at *
        refine wp_region_held_drew (S := fun w' => Box w' p11 (nV a)) (by kernel_rfl) (hX.belowW (below_drewN _ _ 1)) (fun hH => ?_)
        refine step_to 0 97 (.int .i64 0) _ rfl (by kernel_rfl) rfl (by rfl) (rfl) hH ?_
        simp only [Act.put, List.setIfInBounds_toArray, List.set_cons_zero, List.set_cons_succ]
        refine step_to 1 98 (.bool true) _ rfl (by kernel_rfl) rfl (by rfl) (op_eqlE _ _ (.tmp 97) (.const (.int .i64 0)) _ rfl 0 0 rfl rfl true rfl) hH ?_
        simp only [Act.put, List.setIfInBounds_toArray, List.set_cons_zero, List.set_cons_succ]
        refine step_to 2 99 (.bool true) _ rfl (by kernel_rfl) rfl (by rfl) (rfl) hH ?_
        simp only [Act.put, List.setIfInBounds_toArray, List.set_cons_zero, List.set_cons_succ]
        refine step_to 3 100 (.int .i64 0) _ rfl (by kernel_rfl) rfl (by rfl) (rfl) hH ?_
        simp only [Act.put, List.setIfInBounds_toArray, List.set_cons_zero, List.set_cons_succ]
        refine step_to 4 101 (.bool true) _ rfl (by kernel_rfl) rfl (by rfl) (op_eqlE _ _ (.tmp 100) (.const (.int .i64 0)) _ rfl 0 0 rfl rfl true rfl) hH ?_
        simp only [Act.put, List.setIfInBounds_toArray, List.set_cons_zero, List.set_cons_succ]
        refine step_to 5 102 (.bool true) _ rfl (by kernel_rfl) rfl (by rfl) (rfl) hH ?_
        simp only [Act.put, List.setIfInBounds_toArray, List.set_cons_zero, List.set_cons_succ]
        refine step_to 6 103 (.bool true) _ rfl (by kernel_rfl) rfl (by rfl) (rfl) hH ?_
        simp only [Act.put, List.setIfInBounds_toArray, List.set_cons_zero, List.set_cons_succ]
        refine take_to 7 104 (.agg #[.int .i64 (nV a).ty, .int .i64 (nV a).n, .string (strOf (nV a).t), .bool (nV a).b]) rfl (by kernel_rfl) (by kernel_rfl) (by kernel_rfl) (fun _ _ _ h => h) rfl (by rfl) (fun w hw => op_load _ _ 23 (.tmp 11) rfl (.pointer (some ⟨p11, 0, none⟩)) _ rfl (load23 hw)) hH ?_
        simp only [Act.put, List.setIfInBounds_toArray, List.set_cons_zero, List.set_cons_succ]
        refine step_to 8 105 (.int .i64 a) _ rfl (by kernel_rfl) rfl (by rfl) (rfl) hH ?_
        simp only [Act.put, List.setIfInBounds_toArray, List.set_cons_zero, List.set_cons_succ]
        refine step_call1_to 9 106 6 rfl (by kernel_rfl) rfl (by rfl) (.tmp 105) _ rfl _ rfl Tryd.enters6 (HI.out _ _) ?_
        rintro e v1 ⟨rfl, hb1⟩
        have hH1 := hH.belowW hb1
        refine ⟨_, rfl, hH1, ?_⟩
        simp only [Act.put, List.setIfInBounds_toArray, List.set_cons_zero, List.set_cons_succ]
        refine step_to 10 107 (.bool true) _ rfl (by kernel_rfl) rfl (by rfl) (op_eqlV _ _ (.tmp 104) (.tmp 106) _ rfl (nV a) rfl rfl) hH1 ?_
        simp only [Act.put, List.setIfInBounds_toArray, List.set_cons_zero, List.set_cons_succ]
        refine step_to 11 108 (.bool true) _ rfl (by kernel_rfl) rfl (by rfl) (rfl) hH1 ?_
        simp only [Act.put, List.setIfInBounds_toArray, List.set_cons_zero, List.set_cons_succ]
        refine step_to 12 109 (.bool true) _ rfl (by kernel_rfl) rfl (by rfl) (rfl) hH1 ?_
        simp only [Act.put, List.setIfInBounds_toArray, List.set_cons_zero, List.set_cons_succ]
        refine step_to 13 110 (.bool true) _ rfl (by kernel_rfl) rfl (by rfl) (rfl) hH1 ?_
        simp only [Act.put, List.setIfInBounds_toArray, List.set_cons_zero, List.set_cons_succ]
        refine step_to 14 111 (.bool true) _ rfl (by kernel_rfl) rfl (by rfl) (rfl) hH1 ?_
        simp only [Act.put, List.setIfInBounds_toArray, List.set_cons_zero, List.set_cons_succ]
        refine step_to 15 112 (.bool true) _ rfl (by kernel_rfl) rfl (by rfl) (rfl) hH1 ?_
        simp only [Act.put, List.setIfInBounds_toArray, List.set_cons_zero, List.set_cons_succ]
        have HBX := thenW (HX.out.trans (below_drewN _ _ 1)) hb1
        refine step_call0_to 16 113 7 rfl (by kernel_rfl) rfl (by rfl) _ rfl Tryd.enters7 (HAW.out _ HBX) ?_
        rintro e v2 ⟨rfl, hb2⟩
        have hH2 := hH1.belowW hb2
        refine ⟨_, rfl, hH2, ?_⟩
        simp only [Act.put, List.setIfInBounds_toArray, List.set_cons_zero, List.set_cons_succ]
        refine step_to 17 114 (.bool true) _ rfl (by kernel_rfl) rfl (by rfl) (rfl) hH2 ?_
        simp only [Act.put, List.setIfInBounds_toArray, List.set_cons_zero, List.set_cons_succ]
        refine step_to 18 4 (.bool true) _ rfl (by kernel_rfl) rfl (by rfl) (rfl) hH2 ?_
        simp only [Act.put, List.setIfInBounds_toArray, List.set_cons_zero, List.set_cons_succ]
        refine wpAnyH_done (by kernel_rfl) ?_ _
        go_wp2
        go_ret
        exact ⟨rfl, thenW HBX hb2⟩
  · skip
    have hU1 := allocW hd0 (.cells #[.int .i64 0, .int .i64 0, .string { data := #[] }, .bool false] 23)
    refine op_to 9 (.pointer (some ⟨U0.heap.size, 0, none⟩)) (U0.alloc (.cells #[.int .i64 0, .int .i64 0, .string { data := #[] }, .bool false] 23)) rfl rfl (by rfl) (op_alloc23 _ _ rfl _) ⟨HR.out.belowW hU1, ?_⟩
    simp only [Act.put, List.setIfInBounds_toArray, List.set_cons_zero, List.set_cons_succ]
    have hnU1 : Box (U0.alloc (.cells #[.int .i64 0, .int .i64 0, .string { data := #[] }, .bool false] 23)) U0.heap.size Vl.zero := heap_alloc_new _ _
    have hgU1 := (hd0).size
    generalize U0.alloc (.cells #[.int .i64 0, .int .i64 0, .string { data := #[] }, .bool false] 23) = U1 at hU1 hnU1 ⊢
    generalize U0.heap.size = p9 at hnU1 hgU1 ⊢
    refine step_call1_to 2 76 6 rfl (by kernel_rfl) rfl (by rfl) (.tmp 75) _ rfl _ rfl Tryd.enters6 (HI.out _ _) ?_
    rintro e U2 ⟨rfl, hbU2⟩
    have hU2 := thenW hU1 hbU2
    refine ⟨_, rfl, HR.out.belowW hU2, ?_⟩
    simp only [Act.put, List.setIfInBounds_toArray, List.set_cons_zero, List.set_cons_succ]
    refine step_call3_to 3 77 5 rfl (by kernel_rfl) rfl (by rfl) (.const (.int .i64 20)) (.tmp 74) (.tmp 76) _ rfl _ _ _ rfl rfl rfl Tryd.enters5 (H20.out _) ?_
    rintro e U3 ⟨rfl, hbU3⟩
    have hU3 := thenW hU2 hbU3
    refine ⟨_, rfl, HR.out.belowW hU3, ?_⟩
    simp only [Act.put, List.setIfInBounds_toArray, List.set_cons_zero, List.set_cons_succ]
    have hT := HR.out.belowW hU3
    refine take_to 4 73 (.tuple #[.agg #[.int .i64 1, .int .i64 p, .string { data := #[] }, .bool false], .int .i64 0]) rfl (by kernel_rfl) (by kernel_rfl) (by kernel_rfl) (fun _ _ _ h => h) rfl (by rfl) (fun w hw => by rfl) hT ?_
    simp only [Act.put, List.setIfInBounds_toArray, List.set_cons_zero, List.set_cons_succ]
    refine take_to 5 78 (.agg #[.int .i64 1, .int .i64 p, .string { data := #[] }, .bool false]) rfl (by kernel_rfl) (by kernel_rfl) (by kernel_rfl) (fun _ _ _ h => h) rfl (by rfl) (fun w hw => by rfl) hT ?_
    simp only [Act.put, List.setIfInBounds_toArray, List.set_cons_zero, List.set_cons_succ]
    refine take_to 6 79 (.int .i64 0) rfl (by kernel_rfl) (by kernel_rfl) (by kernel_rfl) (fun _ _ _ h => h) rfl (by rfl) (fun w hw => by rfl) hT ?_
    simp only [Act.put, List.setIfInBounds_toArray, List.set_cons_zero, List.set_cons_succ]
    have hnn := (hnU1.belowW hbU2).belowW hbU3
    have hT2 : QR p5 p7 q r U3 := HR.out.belowW hU3
    have hT3 := hT2.other #[.int .i64 1, .int .i64 p, .string { data := #[] }, .bool false] (k := p9) (by omega) (by omega)
    refine step_store_to 8 (U3.setRow p9 #[.int .i64 1, .int .i64 p, .string { data := #[] }, .bool false]) rfl (by kernel_rfl) rfl (by rfl) 23 (.tmp 9) (.tmp 78) rfl _ _ rfl rfl (store_val hnn (nV p)) hT3 ?_
    refine step_to 9 10 (.int .i64 0) _ rfl (by kernel_rfl) rfl (by rfl) rfl hT3 ?_
    simp only [Act.put, List.setIfInBounds_toArray, List.set_cons_zero, List.set_cons_succ]
    refine wpAnyH_done (by kernel_rfl) ?_ _
    have hf : Below u1.heap.size u1 (U3.setRow p9 #[.int .i64 1, .int .i64 p, .string { data := #[] }, .bool false]) := below_setRow hU3 hgU1 _
    have H9 : Hid (Box (U3.setRow p9 #[.int .i64 1, .int .i64 p, .string { data := #[] }, .bool false]) p9 (nV p)) := Box.after hnn (nV p)
    have HK := hide (thenW HG.out hf)
    have HR2 := hide hT3
    clear hf hT2 hT3
    generalize U3.setRow p9 #[.int .i64 1, .int .i64 p, .string { data := #[] }, .bool false] = Wf at *
    clear HG HR  hH
    obtain ⟨i0, i1, i2, i3⟩ := H9.out.lits
    obtain ⟨j0, j1, j2, j3⟩ := HR2.out.b.lits
    have l7f := lt_of_heap HR2.out.b
    have l9f := lt_of_heap H9.out
    rcases hs.out with rfl | ⟨hr0, hrn, han⟩ | ⟨hr0, hrn, han⟩
    · skip
      go_upto_region 12 with (go_at_call 5; refine (H18.out _).mono ?_; rintro e W9 ⟨rfl, hb9⟩; have HB9 := hide hb9; clear hb9; obtain ⟨g0, g1, g2, g3⟩ := (HR2.out.b.belowW HB9.out).lits; have l79 := lt_of_heap (HR2.out.b.belowW HB9.out))
      have hX : Box (W9.alloc (.cells #[.int .i64 1, .int .i64 a, .string { data := #[] }, .bool false] 23)) W9.heap.size (nV a) := heap_alloc_new _ _
      have HX := hide (allocW (thenW HK.out HB9.out) (.cells #[.int .i64 1, .int .i64 a, .string { data := #[] }, .bool false] 23))
      generalize W9.alloc (.cells #[.int .i64 1, .int .i64 a, .string { data := #[] }, .bool false] 23) = Wy at *
      generalize W9.heap.size = p11 at *
      refine wp_region_held_drew (S := fun w' => Box w' p11 (nV a)) (by kernel_rfl) (hX.belowW (below_drewN _ _ 1)) (fun hH => ?_)
      refine step_to 0 97 (.int .i64 0) _ rfl (by kernel_rfl) rfl (by rfl) (rfl) hH ?_
      simp only [Act.put, List.setIfInBounds_toArray, List.set_cons_zero, List.set_cons_succ]
      refine step_to 1 98 (.bool true) _ rfl (by kernel_rfl) rfl (by rfl) (op_eqlE _ _ (.tmp 97) (.const (.int .i64 0)) _ rfl 0 0 rfl rfl true rfl) hH ?_
      simp only [Act.put, List.setIfInBounds_toArray, List.set_cons_zero, List.set_cons_succ]
      refine step_to 2 99 (.bool true) _ rfl (by kernel_rfl) rfl (by rfl) (rfl) hH ?_
      simp only [Act.put, List.setIfInBounds_toArray, List.set_cons_zero, List.set_cons_succ]
      refine step_to 3 100 (.int .i64 0) _ rfl (by kernel_rfl) rfl (by rfl) (rfl) hH ?_
      simp only [Act.put, List.setIfInBounds_toArray, List.set_cons_zero, List.set_cons_succ]
      refine step_to 4 101 (.bool true) _ rfl (by kernel_rfl) rfl (by rfl) (op_eqlE _ _ (.tmp 100) (.const (.int .i64 0)) _ rfl 0 0 rfl rfl true rfl) hH ?_
      simp only [Act.put, List.setIfInBounds_toArray, List.set_cons_zero, List.set_cons_succ]
      refine step_to 5 102 (.bool true) _ rfl (by kernel_rfl) rfl (by rfl) (rfl) hH ?_
      simp only [Act.put, List.setIfInBounds_toArray, List.set_cons_zero, List.set_cons_succ]
      refine step_to 6 103 (.bool true) _ rfl (by kernel_rfl) rfl (by rfl) (rfl) hH ?_
      simp only [Act.put, List.setIfInBounds_toArray, List.set_cons_zero, List.set_cons_succ]
      refine take_to 7 104 (.agg #[.int .i64 (nV a).ty, .int .i64 (nV a).n, .string (strOf (nV a).t), .bool (nV a).b]) rfl (by kernel_rfl) (by kernel_rfl) (by kernel_rfl) (fun _ _ _ h => h) rfl (by rfl) (fun w hw => op_load _ _ 23 (.tmp 11) rfl (.pointer (some ⟨p11, 0, none⟩)) _ rfl (load23 hw)) hH ?_
      simp only [Act.put, List.setIfInBounds_toArray, List.set_cons_zero, List.set_cons_succ]
      refine step_to 8 105 (.int .i64 a) _ rfl (by kernel_rfl) rfl (by rfl) (rfl) hH ?_
      simp only [Act.put, List.setIfInBounds_toArray, List.set_cons_zero, List.set_cons_succ]
      refine step_call1_to 9 106 6 rfl (by kernel_rfl) rfl (by rfl) (.tmp 105) _ rfl _ rfl Tryd.enters6 (HI.out _ _) ?_
      rintro e v1 ⟨rfl, hb1⟩
      have hH1 := hH.belowW hb1
      refine ⟨_, rfl, hH1, ?_⟩
      simp only [Act.put, List.setIfInBounds_toArray, List.set_cons_zero, List.set_cons_succ]
      refine step_to 10 107 (.bool true) _ rfl (by kernel_rfl) rfl (by rfl) (op_eqlV _ _ (.tmp 104) (.tmp 106) _ rfl (nV a) rfl rfl) hH1 ?_
      simp only [Act.put, List.setIfInBounds_toArray, List.set_cons_zero, List.set_cons_succ]
      refine step_to 11 108 (.bool true) _ rfl (by kernel_rfl) rfl (by rfl) (rfl) hH1 ?_
      simp only [Act.put, List.setIfInBounds_toArray, List.set_cons_zero, List.set_cons_succ]
      refine step_to 12 109 (.bool true) _ rfl (by kernel_rfl) rfl (by rfl) (rfl) hH1 ?_
      simp only [Act.put, List.setIfInBounds_toArray, List.set_cons_zero, List.set_cons_succ]
      refine step_to 13 110 (.bool true) _ rfl (by kernel_rfl) rfl (by rfl) (rfl) hH1 ?_
      simp only [Act.put, List.setIfInBounds_toArray, List.set_cons_zero, List.set_cons_succ]
      refine step_to 14 111 (.bool true) _ rfl (by kernel_rfl) rfl (by rfl) (rfl) hH1 ?_
      simp only [Act.put, List.setIfInBounds_toArray, List.set_cons_zero, List.set_cons_succ]
      refine step_to 15 112 (.bool true) _ rfl (by kernel_rfl) rfl (by rfl) (rfl) hH1 ?_
      simp only [Act.put, List.setIfInBounds_toArray, List.set_cons_zero, List.set_cons_succ]
      have HBX := thenW (HX.out.trans (below_drewN _ _ 1)) hb1
      refine step_call0_to 16 113 7 rfl (by kernel_rfl) rfl (by rfl) _ rfl Tryd.enters7 (HAW.out _ HBX) ?_
      rintro e v2 ⟨rfl, hb2⟩
      have hH2 := hH1.belowW hb2
      refine ⟨_, rfl, hH2, ?_⟩
      simp only [Act.put, List.setIfInBounds_toArray, List.set_cons_zero, List.set_cons_succ]
      refine step_to 17 114 (.bool true) _ rfl (by kernel_rfl) rfl (by rfl) (rfl) hH2 ?_
      simp only [Act.put, List.setIfInBounds_toArray, List.set_cons_zero, List.set_cons_succ]
      refine step_to 18 4 (.bool true) _ rfl (by kernel_rfl) rfl (by rfl) (rfl) hH2 ?_
      simp only [Act.put, List.setIfInBounds_toArray, List.set_cons_zero, List.set_cons_succ]
      refine wpAnyH_done (by kernel_rfl) ?_ _
      go_wp2
      go_ret
      exact ⟨rfl, thenW HBX hb2⟩
    · skip
      go_upto_region 12 with (go_at_call 5; refine (H18.out _).mono ?_; rintro e W9 ⟨rfl, hb9⟩; have HB9 := hide hb9; clear hb9; obtain ⟨g0, g1, g2, g3⟩ := (HR2.out.b.belowW HB9.out).lits; have l79 := lt_of_heap (HR2.out.b.belowW HB9.out))
      have hX : Box (W9.alloc (.cells #[.int .i64 1, .int .i64 a, .string { data := #[] }, .bool false] 23)) W9.heap.size (nV a) := heap_alloc_new _ _
      have HX := hide (allocW (thenW HK.out HB9.out) (.cells #[.int .i64 1, .int .i64 a, .string { data := #[] }, .bool false] 23))
      generalize W9.alloc (.cells #[.int .i64 1, .int .i64 a, .string { data := #[] }, .bool false] 23) = Wy at *
      generalize W9.heap.size = p11 at *
      refine wp_region_held_drew (S := fun w' => Box w' p11 (nV a)) (by kernel_rfl) (hX.belowW (below_drewN _ _ 1)) (fun hH => ?_)
      refine step_to 0 97 (.int .i64 0) _ rfl (by kernel_rfl) rfl (by rfl) (rfl) hH ?_
      simp only [Act.put, List.setIfInBounds_toArray, List.set_cons_zero, List.set_cons_succ]
      refine step_to 1 98 (.bool true) _ rfl (by kernel_rfl) rfl (by rfl) (op_eqlE _ _ (.tmp 97) (.const (.int .i64 0)) _ rfl 0 0 rfl rfl true rfl) hH ?_
      simp only [Act.put, List.setIfInBounds_toArray, List.set_cons_zero, List.set_cons_succ]
      refine step_to 2 99 (.bool true) _ rfl (by kernel_rfl) rfl (by rfl) (rfl) hH ?_
      simp only [Act.put, List.setIfInBounds_toArray, List.set_cons_zero, List.set_cons_succ]
      refine step_to 3 100 (.int .i64 0) _ rfl (by kernel_rfl) rfl (by rfl) (rfl) hH ?_
      simp only [Act.put, List.setIfInBounds_toArray, List.set_cons_zero, List.set_cons_succ]
      refine step_to 4 101 (.bool true) _ rfl (by kernel_rfl) rfl (by rfl) (op_eqlE _ _ (.tmp 100) (.const (.int .i64 0)) _ rfl 0 0 rfl rfl true rfl) hH ?_
      simp only [Act.put, List.setIfInBounds_toArray, List.set_cons_zero, List.set_cons_succ]
      refine step_to 5 102 (.bool true) _ rfl (by kernel_rfl) rfl (by rfl) (rfl) hH ?_
      simp only [Act.put, List.setIfInBounds_toArray, List.set_cons_zero, List.set_cons_succ]
      refine step_to 6 103 (.bool true) _ rfl (by kernel_rfl) rfl (by rfl) (rfl) hH ?_
      simp only [Act.put, List.setIfInBounds_toArray, List.set_cons_zero, List.set_cons_succ]
      refine take_to 7 104 (.agg #[.int .i64 (nV a).ty, .int .i64 (nV a).n, .string (strOf (nV a).t), .bool (nV a).b]) rfl (by kernel_rfl) (by kernel_rfl) (by kernel_rfl) (fun _ _ _ h => h) rfl (by rfl) (fun w hw => op_load _ _ 23 (.tmp 11) rfl (.pointer (some ⟨p11, 0, none⟩)) _ rfl (load23 hw)) hH ?_
      simp only [Act.put, List.setIfInBounds_toArray, List.set_cons_zero, List.set_cons_succ]
      refine step_to 8 105 (.int .i64 a) _ rfl (by kernel_rfl) rfl (by rfl) (rfl) hH ?_
      simp only [Act.put, List.setIfInBounds_toArray, List.set_cons_zero, List.set_cons_succ]
      refine step_call1_to 9 106 6 rfl (by kernel_rfl) rfl (by rfl) (.tmp 105) _ rfl _ rfl Tryd.enters6 (HI.out _ _) ?_
      rintro e v1 ⟨rfl, hb1⟩
      have hH1 := hH.belowW hb1
      refine ⟨_, rfl, hH1, ?_⟩
      simp only [Act.put, List.setIfInBounds_toArray, List.set_cons_zero, List.set_cons_succ]
      refine step_to 10 107 (.bool true) _ rfl (by kernel_rfl) rfl (by rfl) (op_eqlV _ _ (.tmp 104) (.tmp 106) _ rfl (nV a) rfl rfl) hH1 ?_
      simp only [Act.put, List.setIfInBounds_toArray, List.set_cons_zero, List.set_cons_succ]
      refine step_to 11 108 (.bool true) _ rfl (by kernel_rfl) rfl (by rfl) (rfl) hH1 ?_
      simp only [Act.put, List.setIfInBounds_toArray, List.set_cons_zero, List.set_cons_succ]
      refine step_to 12 109 (.bool true) _ rfl (by kernel_rfl) rfl (by rfl) (rfl) hH1 ?_
      simp only [Act.put, List.setIfInBounds_toArray, List.set_cons_zero, List.set_cons_succ]
      refine step_to 13 110 (.bool true) _ rfl (by kernel_rfl) rfl (by rfl) (rfl) hH1 ?_
      simp only [Act.put, List.setIfInBounds_toArray, List.set_cons_zero, List.set_cons_succ]
      refine step_to 14 111 (.bool true) _ rfl (by kernel_rfl) rfl (by rfl) (rfl) hH1 ?_
      simp only [Act.put, List.setIfInBounds_toArray, List.set_cons_zero, List.set_cons_succ]
      refine step_to 15 112 (.bool true) _ rfl (by kernel_rfl) rfl (by rfl) (rfl) hH1 ?_
      simp only [Act.put, List.setIfInBounds_toArray, List.set_cons_zero, List.set_cons_succ]
      have HBX := thenW (HX.out.trans (below_drewN _ _ 1)) hb1
      refine step_call0_to 16 113 7 rfl (by kernel_rfl) rfl (by rfl) _ rfl Tryd.enters7 (HAW.out _ HBX) ?_
      rintro e v2 ⟨rfl, hb2⟩
      have hH2 := hH1.belowW hb2
      refine ⟨_, rfl, hH2, ?_⟩
      simp only [Act.put, List.setIfInBounds_toArray, List.set_cons_zero, List.set_cons_succ]
      refine step_to 17 114 (.bool true) _ rfl (by kernel_rfl) rfl (by rfl) (rfl) hH2 ?_
      simp only [Act.put, List.setIfInBounds_toArray, List.set_cons_zero, List.set_cons_succ]
      refine step_to 18 4 (.bool true) _ rfl (by kernel_rfl) rfl (by rfl) (rfl) hH2 ?_
      simp only [Act.put, List.setIfInBounds_toArray, List.set_cons_zero, List.set_cons_succ]
      refine wpAnyH_done (by kernel_rfl) ?_ _
      go_wp2
      go_ret
      exact ⟨rfl, thenW HBX hb2⟩
    · skip
      go_upto_region 12 with (go_at_call 5; refine (H18.out _).mono ?_; rintro e W9 ⟨rfl, hb9⟩; have HB9 := hide hb9; clear hb9; obtain ⟨g0, g1, g2, g3⟩ := (HR2.out.b.belowW HB9.out).lits; have l79 := lt_of_heap (HR2.out.b.belowW HB9.out))
      have hX : Box (W9.alloc (.cells #[.int .i64 1, .int .i64 a, .string { data := #[] }, .bool false] 23)) W9.heap.size (nV a) := heap_alloc_new _ _
      have HX := hide (allocW (thenW HK.out HB9.out) (.cells #[.int .i64 1, .int .i64 a, .string { data := #[] }, .bool false] 23))
      generalize W9.alloc (.cells #[.int .i64 1, .int .i64 a, .string { data := #[] }, .bool false] 23) = Wy at *
      generalize W9.heap.size = p11 at *
      refine wp_region_held_drew (S := fun w' => Box w' p11 (nV a)) (by kernel_rfl) (hX.belowW (below_drewN _ _ 1)) (fun hH => ?_)
      refine step_to 0 97 (.int .i64 0) _ rfl (by kernel_rfl) rfl (by rfl) (rfl) hH ?_
      simp only [Act.put, List.setIfInBounds_toArray, List.set_cons_zero, List.set_cons_succ]
      refine step_to 1 98 (.bool true) _ rfl (by kernel_rfl) rfl (by rfl) (op_eqlE _ _ (.tmp 97) (.const (.int .i64 0)) _ rfl 0 0 rfl rfl true rfl) hH ?_
      simp only [Act.put, List.setIfInBounds_toArray, List.set_cons_zero, List.set_cons_succ]
      refine step_to 2 99 (.bool true) _ rfl (by kernel_rfl) rfl (by rfl) (rfl) hH ?_
      simp only [Act.put, List.setIfInBounds_toArray, List.set_cons_zero, List.set_cons_succ]
      refine step_to 3 100 (.int .i64 0) _ rfl (by kernel_rfl) rfl (by rfl) (rfl) hH ?_
      simp only [Act.put, List.setIfInBounds_toArray, List.set_cons_zero, List.set_cons_succ]
      refine step_to 4 101 (.bool true) _ rfl (by kernel_rfl) rfl (by rfl) (op_eqlE _ _ (.tmp 100) (.const (.int .i64 0)) _ rfl 0 0 rfl rfl true rfl) hH ?_
      simp only [Act.put, List.setIfInBounds_toArray, List.set_cons_zero, List.set_cons_succ]
      refine step_to 5 102 (.bool true) _ rfl (by kernel_rfl) rfl (by rfl) (rfl) hH ?_
      simp only [Act.put, List.setIfInBounds_toArray, List.set_cons_zero, List.set_cons_succ]
      refine step_to 6 103 (.bool true) _ rfl (by kernel_rfl) rfl (by rfl) (rfl) hH ?_
      simp only [Act.put, List.setIfInBounds_toArray, List.set_cons_zero, List.set_cons_succ]
      refine take_to 7 104 (.agg #[.int .i64 (nV a).ty, .int .i64 (nV a).n, .string (strOf (nV a).t), .bool (nV a).b]) rfl (by kernel_rfl) (by kernel_rfl) (by kernel_rfl) (fun _ _ _ h => h) rfl (by rfl) (fun w hw => op_load _ _ 23 (.tmp 11) rfl (.pointer (some ⟨p11, 0, none⟩)) _ rfl (load23 hw)) hH ?_
      simp only [Act.put, List.setIfInBounds_toArray, List.set_cons_zero, List.set_cons_succ]
      refine step_to 8 105 (.int .i64 a) _ rfl (by kernel_rfl) rfl (by rfl) (rfl) hH ?_
      simp only [Act.put, List.setIfInBounds_toArray, List.set_cons_zero, List.set_cons_succ]
      refine step_call1_to 9 106 6 rfl (by kernel_rfl) rfl (by rfl) (.tmp 105) _ rfl _ rfl Tryd.enters6 (HI.out _ _) ?_
      rintro e v1 ⟨rfl, hb1⟩
      have hH1 := hH.belowW hb1
      refine ⟨_, rfl, hH1, ?_⟩
      simp only [Act.put, List.setIfInBounds_toArray, List.set_cons_zero, List.set_cons_succ]
      refine step_to 10 107 (.bool true) _ rfl (by kernel_rfl) rfl (by rfl) (op_eqlV _ _ (.tmp 104) (.tmp 106) _ rfl (nV a) rfl rfl) hH1 ?_
      simp only [Act.put, List.setIfInBounds_toArray, List.set_cons_zero, List.set_cons_succ]
      refine step_to 11 108 (.bool true) _ rfl (by kernel_rfl) rfl (by rfl) (rfl) hH1 ?_
      simp only [Act.put, List.setIfInBounds_toArray, List.set_cons_zero, List.set_cons_succ]
      refine step_to 12 109 (.bool true) _ rfl (by kernel_rfl) rfl (by rfl) (rfl) hH1 ?_
      simp only [Act.put, List.setIfInBounds_toArray, List.set_cons_zero, List.set_cons_succ]
      refine step_to 13 110 (.bool true) _ rfl (by kernel_rfl) rfl (by rfl) (rfl) hH1 ?_
      simp only [Act.put, List.setIfInBounds_toArray, List.set_cons_zero, List.set_cons_succ]
      refine step_to 14 111 (.bool true) _ rfl (by kernel_rfl) rfl (by rfl) (rfl) hH1 ?_
      simp only [Act.put, List.setIfInBounds_toArray, List.set_cons_zero, List.set_cons_succ]
      refine step_to 15 112 (.bool true) _ rfl (by kernel_rfl) rfl (by rfl) (rfl) hH1 ?_
      simp only [Act.put, List.setIfInBounds_toArray, List.set_cons_zero, List.set_cons_succ]
      have HBX := thenW (HX.out.trans (below_drewN _ _ 1)) hb1
      refine step_call0_to 16 113 7 rfl (by kernel_rfl) rfl (by rfl) _ rfl Tryd.enters7 (HAW.out _ HBX) ?_
      rintro e v2 ⟨rfl, hb2⟩
      have hH2 := hH1.belowW hb2
      refine ⟨_, rfl, hH2, ?_⟩
      simp only [Act.put, List.setIfInBounds_toArray, List.set_cons_zero, List.set_cons_succ]
      refine step_to 17 114 (.bool true) _ rfl (by kernel_rfl) rfl (by rfl) (rfl) hH2 ?_
      simp only [Act.put, List.setIfInBounds_toArray, List.set_cons_zero, List.set_cons_succ]
      refine step_to 18 4 (.bool true) _ rfl (by kernel_rfl) rfl (by rfl) (rfl) hH2 ?_
      simp only [Act.put, List.setIfInBounds_toArray, List.set_cons_zero, List.set_cons_succ]
      refine wpAnyH_done (by kernel_rfl) ?_ _
      go_wp2
      go_ret
      exact ⟨rfl, thenW HBX hb2⟩
set_option maxHeartbeats 16000000 in
theorem div_m1 (a q p m : Int) (w : World) (hm : w.cell? ⟨1, 0, none⟩ = some (.int .i64 m)) (H21 : Hid (∀ W, Calls Tryd.prog 5 #[.int .i64 21, .agg #[.int .i64 1, .int .i64 a, .string { data := #[] }, .bool false], .agg #[.int .i64 1, .int .i64 (-1), .string { data := #[] }, .bool false]] W fun e w' => e = .returned (.tuple #[.agg #[.int .i64 1, .int .i64 q, .string { data := #[] }, .bool false], .int .i64 0]) ∧ Below W.heap.size W w')) (H22 : Hid (∀ W, Calls Tryd.prog 5 #[.int .i64 22, .agg #[.int .i64 1, .int .i64 a, .string { data := #[] }, .bool false], .agg #[.int .i64 1, .int .i64 (-1), .string { data := #[] }, .bool false]] W fun e w' => e = .returned (.tuple #[.agg #[.int .i64 1, .int .i64 0, .string { data := #[] }, .bool false], .int .i64 0]) ∧ Below W.heap.size W w')) (H20 : Hid (∀ W, Calls Tryd.prog 5 #[.int .i64 20, .agg #[.int .i64 1, .int .i64 q, .string { data := #[] }, .bool false], .agg #[.int .i64 1, .int .i64 (-1), .string { data := #[] }, .bool false]] W fun e w' => e = .returned (.tuple #[.agg #[.int .i64 1, .int .i64 p, .string { data := #[] }, .bool false], .int .i64 0]) ∧ Below W.heap.size W w')) (H18 : Hid (∀ W, Calls Tryd.prog 5 #[.int .i64 18, .agg #[.int .i64 1, .int .i64 p, .string { data := #[] }, .bool false], .agg #[.int .i64 1, .int .i64 0, .string { data := #[] }, .bool false]] W fun e w' => e = .returned (.tuple #[.agg #[.int .i64 1, .int .i64 a, .string { data := #[] }, .bool false], .int .i64 0]) ∧ Below W.heap.size W w')) :
    Calls Tryd.prog 3 #[.int .i64 a, .int .i64 (-1)] w fun e w' => e = .returned (.bool true) ∧ Below w.heap.size w w' := by
  have HI : Hid (∀ n W, Calls Tryd.prog 6 #[.int .i64 n] W fun e w' => e = .returned (.agg #[.int .i64 1, .int .i64 n, .string { data := #[] }, .bool false]) ∧ Below W.heap.size W w') := lawInt_any
  have HAW : Hid (∀ W, Below w.heap.size w W → Calls Tryd.prog 7 #[] W fun e w' => e = .returned (.bool true) ∧ Below W.heap.size W w') := fun W hW => awake_any m W ((hW.cell (p := ⟨1, 0, none⟩) (World.block_lt_of_cell? w _ hm)).trans hm)
  clear hm
  go_enter Tryd.func3, Tryd.ntmps3
  go_upto_region 5 with (first
    | (have _t := HB5; go_at_call 5; refine (H22.out _).mono ?_; rintro e W6 ⟨rfl, hb6⟩; have HB6 := hide hb6; clear hb6)
    | (have _t := HB4; go_at_call 6; refine (HI.out _ _).mono ?_; rintro e W5 ⟨rfl, hb5⟩; have HB5 := hide hb5; clear hb5)
    | (have _t := HB3; go_at_call 6; refine (HI.out _ _).mono ?_; rintro e W4 ⟨rfl, hb4⟩; have HB4 := hide hb4; clear hb4)
    | (have _t := HB2; go_at_call 5; refine (H21.out _).mono ?_; rintro e W3 ⟨rfl, hb3⟩; have HB3 := hide hb3; clear hb3)
    | (have _t := HB1; go_at_call 6; refine (HI.out _ _).mono ?_; rintro e W2 ⟨rfl, hb2⟩; have HB2 := hide hb2; clear hb2)
    | (go_at_call 6; refine (HI.out _ _).mono ?_; rintro e W1 ⟨rfl, hb1⟩; have HB1 := hide hb1; clear hb1))
  have HF := hide (allocW (thenW (thenW (thenW (allocW (thenW (thenW HB1.out HB2.out) HB3.out) (.cells #[.int .i64 1, .int .i64 q, .string { data := #[] }, .bool false] 23)) HB4.out) HB5.out) HB6.out) (.cells #[.int .i64 1, .int .i64 0, .string { data := #[] }, .bool false] 23))
  have hP5 : Box (W3.alloc (.cells #[.int .i64 1, .int .i64 q, .string { data := #[] }, .bool false] 23)) W3.heap.size (nV q) := heap_alloc_new _ _
  have G5 : Box (W6.alloc (.cells #[.int .i64 1, .int .i64 0, .string { data := #[] }, .bool false] 23)) W3.heap.size (nV q) := (((hP5.belowW HB4.out).belowW HB5.out).belowW HB6.out).belowW ((Below.refl _ _).alloc (Nat.le_refl _) _)
  have G7 : Box (W6.alloc (.cells #[.int .i64 1, .int .i64 0, .string { data := #[] }, .bool false] 23)) W6.heap.size (nV 0) := heap_alloc_new _ _
  have HQ : Hid (QR W3.heap.size W6.heap.size q 0 (W6.alloc (.cells #[.int .i64 1, .int .i64 0, .string { data := #[] }, .bool false] 23))) := ⟨G5, G7⟩
  clear hP5 G5 G7 HB1 HB2 HB3 HB4 HB5 HB6 H21 H22
  generalize W6.alloc (.cells #[.int .i64 1, .int .i64 0, .string { data := #[] }, .bool false] 23) = Wx at *
  generalize W6.heap.size = p7 at *
  generalize W3.heap.size = p5 at *
  have HF5 : Hid (Below w.heap.size w Wx.drew) := HF.out.trans (below_drewN _ _ 1)
  refine wp_region_held_drew (S := QR p5 p7 q 0) (by kernel_rfl) (HQ.out.belowW (below_drewN _ _ 1)) (fun hH => ?_)
  refine step_to 0 41 (.int .i64 0) _ rfl (by kernel_rfl) rfl (by rfl) (rfl) hH ?_
  simp only [Act.put, List.setIfInBounds_toArray, List.set_cons_zero, List.set_cons_succ]
  refine step_to 1 42 (.bool false) _ rfl (by kernel_rfl) rfl (by rfl) (op_neqE _ _ (.tmp 41) (.const (.int .i64 0)) _ rfl 0 0 rfl rfl false rfl) hH ?_
  simp only [Act.put, List.setIfInBounds_toArray, List.set_cons_zero, List.set_cons_succ]
  refine step_to 2 43 (.bool false) _ rfl (by kernel_rfl) rfl (by rfl) (rfl) hH ?_
  simp only [Act.put, List.setIfInBounds_toArray, List.set_cons_zero, List.set_cons_succ]
  refine step_to 3 44 (.int .i64 (-1)) _ rfl (by kernel_rfl) rfl (by rfl) (rfl) hH ?_
  simp only [Act.put, List.setIfInBounds_toArray, List.set_cons_zero, List.set_cons_succ]
  refine step_to 4 45 (.bool true) _ rfl (by kernel_rfl) rfl (by rfl) (op_eqlI _ _ (.tmp 44) (.const (.int .i64 (-1))) _ rfl (-1) (-1) rfl rfl true rfl) hH ?_
  simp only [Act.put, List.setIfInBounds_toArray, List.set_cons_zero, List.set_cons_succ]
  refine step_to 5 46 (.bool true) _ rfl (by kernel_rfl) rfl (by rfl) (rfl) hH ?_
  simp only [Act.put, List.setIfInBounds_toArray, List.set_cons_zero, List.set_cons_succ]
  refine take_to 6 47 (.agg #[.int .i64 (nV 0).ty, .int .i64 (nV 0).n, .string (strOf (nV 0).t), .bool (nV 0).b]) rfl (by kernel_rfl) (by kernel_rfl) (by kernel_rfl) (fun _ _ _ h => h) rfl (by rfl) (fun w hw => op_load _ _ 23 (.tmp 7) rfl (.pointer (some ⟨p7, 0, none⟩)) _ rfl (load23 hw.b)) hH ?_
  simp only [Act.put, List.setIfInBounds_toArray, List.set_cons_zero, List.set_cons_succ]
  refine step_call1_to 7 48 6 rfl (by kernel_rfl) rfl (by rfl) (.const (.int .i64 0)) _ rfl _ rfl Tryd.enters6 (HI.out _ _) ?_
  rintro e u1 ⟨rfl, hb1⟩
  have hH1 := hH.belowW hb1
  refine ⟨_, rfl, hH1, ?_⟩
  simp only [Act.put, List.setIfInBounds_toArray, List.set_cons_zero, List.set_cons_succ]
  refine step_to 8 49 (.bool false) _ rfl (by kernel_rfl) rfl (by rfl) (op_neqV _ _ (.tmp 47) (.tmp 48) _ rfl (nV 0) rfl rfl) hH1 ?_
  simp only [Act.put, List.setIfInBounds_toArray, List.set_cons_zero, List.set_cons_succ]
  refine step_to 9 50 (.bool false) _ rfl (by kernel_rfl) rfl (by rfl) (rfl) hH1 ?_
  simp only [Act.put, List.setIfInBounds_toArray, List.set_cons_zero, List.set_cons_succ]
  refine step_to 10 51 (.bool false) _ rfl (by kernel_rfl) rfl (by rfl) (rfl) hH1 ?_
  simp only [Act.put, List.setIfInBounds_toArray, List.set_cons_zero, List.set_cons_succ]
  refine wpAnyH_done (by kernel_rfl) ?_ _
  have HG := hide (thenW HF5.out hb1)
  have HR := hide hH1
  clear HF HQ HF5 hb1 hH1 hH
  go_upto_region 9 with fail
  have hd0 : Below u1.heap.size u1 u1.drew := below_drewN _ _ 1
  have l5 := lt_of_heap HR.out.a
  have l7 := lt_of_heap HR.out.b
  refine wp_region_held_drew (S := QR p5 p7 q 0) (by kernel_rfl) (HR.out.belowW hd0) (fun hH => ?_)
  refine take_to 0 74 (.agg #[.int .i64 (nV q).ty, .int .i64 (nV q).n, .string (strOf (nV q).t), .bool (nV q).b]) rfl (by kernel_rfl) (by kernel_rfl) (by kernel_rfl) (fun _ _ _ h => h) rfl (by rfl) (fun w hw => op_load _ _ 23 (.tmp 5) rfl (.pointer (some ⟨p5, 0, none⟩)) _ rfl (load23 hw.a)) hH ?_
  simp only [Act.put, List.setIfInBounds_toArray, List.set_cons_zero, List.set_cons_succ]
  refine take_to 1 75 (.int .i64 (-1)) rfl (by kernel_rfl) (by kernel_rfl) (by kernel_rfl) (fun _ _ _ h => h) rfl (by rfl) (fun w hw => by rfl) hH ?_
  simp only [Act.put, List.setIfInBounds_toArray, List.set_cons_zero, List.set_cons_succ]
  generalize u1.drew = U0 at *
  refine wpAnyH_all (rs := [2, 7]) (by kernel_rfl) (by simp) ?_
  intro n hn
  rcases (by simpa using hn : n = 2 ∨ n = 7) with rfl | rfl
  · skip
    refine op_call1_to 76 6 rfl rfl (by rfl) (.tmp 75) _ rfl _ rfl Tryd.enters6 (HI.out _ _) ?_
    rintro e U1 ⟨rfl, hbU1⟩
    have hU1 := thenW hd0 hbU1
    refine ⟨_, rfl, HR.out.belowW hU1, ?_⟩
    simp only [Act.put, List.setIfInBounds_toArray, List.set_cons_zero, List.set_cons_succ]
    refine wpAnyH_all (rs := [3, 7]) (by kernel_rfl) (by simp) ?_
    intro n hn
    rcases (by simpa using hn : n = 3 ∨ n = 7) with rfl | rfl
    · skip
      refine op_call3_to 77 5 rfl rfl (by rfl) (.const (.int .i64 20)) (.tmp 74) (.tmp 76) _ rfl _ _ _ rfl rfl rfl Tryd.enters5 (H20.out _) ?_
      rintro e U2 ⟨rfl, hbU2⟩
      have hU2 := thenW hU1 hbU2
      refine ⟨_, rfl, HR.out.belowW hU2, ?_⟩
      simp only [Act.put, List.setIfInBounds_toArray, List.set_cons_zero, List.set_cons_succ]
      have hT := HR.out.belowW hU2
      refine take_to 4 73 (.tuple #[.agg #[.int .i64 1, .int .i64 p, .string { data := #[] }, .bool false], .int .i64 0]) rfl (by kernel_rfl) (by kernel_rfl) (by kernel_rfl) (fun _ _ _ h => h) rfl (by rfl) (fun w hw => by rfl) hT ?_
      simp only [Act.put, List.setIfInBounds_toArray, List.set_cons_zero, List.set_cons_succ]
      refine take_to 5 78 (.agg #[.int .i64 1, .int .i64 p, .string { data := #[] }, .bool false]) rfl (by kernel_rfl) (by kernel_rfl) (by kernel_rfl) (fun _ _ _ h => h) rfl (by rfl) (fun w hw => by rfl) hT ?_
      simp only [Act.put, List.setIfInBounds_toArray, List.set_cons_zero, List.set_cons_succ]
      refine take_to 6 79 (.int .i64 0) rfl (by kernel_rfl) (by kernel_rfl) (by kernel_rfl) (fun _ _ _ h => h) rfl (by rfl) (fun w hw => by rfl) hT ?_
      simp only [Act.put, List.setIfInBounds_toArray, List.set_cons_zero, List.set_cons_succ]
      have hU3 := allocW hU2 (.cells #[.int .i64 0, .int .i64 0, .string { data := #[] }, .bool false] 23)
      refine step_to 7 9 (.pointer (some ⟨U2.heap.size, 0, none⟩)) (U2.alloc (.cells #[.int .i64 0, .int .i64 0, .string { data := #[] }, .bool false] 23)) rfl (by kernel_rfl) rfl (by rfl) (op_alloc23 _ _ rfl _) (HR.out.belowW hU3) ?_
      simp only [Act.put, List.setIfInBounds_toArray, List.set_cons_zero, List.set_cons_succ]
      have hnU3 : Box (U2.alloc (.cells #[.int .i64 0, .int .i64 0, .string { data := #[] }, .bool false] 23)) U2.heap.size Vl.zero := heap_alloc_new _ _
      have hgU3 := (hU2).size
      generalize U2.alloc (.cells #[.int .i64 0, .int .i64 0, .string { data := #[] }, .bool false] 23) = U3 at hU3 hnU3 ⊢
      generalize U2.heap.size = p9 at hnU3 hgU3 ⊢
      have hT2 : QR p5 p7 q 0 U3 := HR.out.belowW hU3
      have hT3 := hT2.other #[.int .i64 1, .int .i64 p, .string { data := #[] }, .bool false] (k := p9) (by omega) (by omega)
      refine step_store_to 8 (U3.setRow p9 #[.int .i64 1, .int .i64 p, .string { data := #[] }, .bool false]) rfl (by kernel_rfl) rfl (by rfl) 23 (.tmp 9) (.tmp 78) rfl _ _ rfl rfl (store_val hnU3 (nV p)) hT3 ?_
      refine step_to 9 10 (.int .i64 0) _ rfl (by kernel_rfl) rfl (by rfl) rfl hT3 ?_
      simp only [Act.put, List.setIfInBounds_toArray, List.set_cons_zero, List.set_cons_succ]
      refine wpAnyH_done (by kernel_rfl) ?_ _
      have hf : Below u1.heap.size u1 (U3.setRow p9 #[.int .i64 1, .int .i64 p, .string { data := #[] }, .bool false]) := below_setRow hU3 hgU3 _
      have H9 : Hid (Box (U3.setRow p9 #[.int .i64 1, .int .i64 p, .string { data := #[] }, .bool false]) p9 (nV p)) := Box.after hnU3 (nV p)
      have HK := hide (thenW HG.out hf)
      have HR2 := hide hT3
      clear hf hT2 hT3
      generalize U3.setRow p9 #[.int .i64 1, .int .i64 p, .string { data := #[] }, .bool false] = Wf at *
      clear HG HR  hH
      obtain ⟨i0, i1, i2, i3⟩ := H9.out.lits
      obtain ⟨j0, j1, j2, j3⟩ := HR2.out.b.lits
      have l7f := lt_of_heap HR2.out.b
      have l9f := lt_of_heap H9.out
      go_upto_region 12 with (go_at_call 5; refine (H18.out _).mono ?_; rintro e W9 ⟨rfl, hb9⟩; have HB9 := hide hb9; clear hb9; obtain ⟨g0, g1, g2, g3⟩ := (HR2.out.b.belowW HB9.out).lits; have l79 := lt_of_heap (HR2.out.b.belowW HB9.out))
      have hX : Box (W9.alloc (.cells #[.int .i64 1, .int .i64 a, .string { data := #[] }, .bool false] 23)) W9.heap.size (nV a) := heap_alloc_new _ _
      have HX := hide (allocW (thenW HK.out HB9.out) (.cells #[.int .i64 1, .int .i64 a, .string { data := #[] }, .bool false] 23))
      generalize W9.alloc (.cells #[.int .i64 1, .int .i64 a, .string { data := #[] }, .bool false] 23) = Wy at *
      generalize W9.heap.size = p11 at *
      refine wp_region_held_drew (S := fun w' => Box w' p11 (nV a)) (by kernel_rfl) (hX.belowW (below_drewN _ _ 1)) (fun hH => ?_)
      refine step_to 0 97 (.int .i64 0) _ rfl (by kernel_rfl) rfl (by rfl) (rfl) hH ?_
      simp only [Act.put, List.setIfInBounds_toArray, List.set_cons_zero, List.set_cons_succ]
      refine step_to 1 98 (.bool true) _ rfl (by kernel_rfl) rfl (by rfl) (op_eqlE _ _ (.tmp 97) (.const (.int .i64 0)) _ rfl 0 0 rfl rfl true rfl) hH ?_
      simp only [Act.put, List.setIfInBounds_toArray, List.set_cons_zero, List.set_cons_succ]
      refine step_to 2 99 (.bool true) _ rfl (by kernel_rfl) rfl (by rfl) (rfl) hH ?_
      simp only [Act.put, List.setIfInBounds_toArray, List.set_cons_zero, List.set_cons_succ]
      refine step_to 3 100 (.int .i64 0) _ rfl (by kernel_rfl) rfl (by rfl) (rfl) hH ?_
      simp only [Act.put, List.setIfInBounds_toArray, List.set_cons_zero, List.set_cons_succ]
      refine step_to 4 101 (.bool true) _ rfl (by kernel_rfl) rfl (by rfl) (op_eqlE _ _ (.tmp 100) (.const (.int .i64 0)) _ rfl 0 0 rfl rfl true rfl) hH ?_
      simp only [Act.put, List.setIfInBounds_toArray, List.set_cons_zero, List.set_cons_succ]
      refine step_to 5 102 (.bool true) _ rfl (by kernel_rfl) rfl (by rfl) (rfl) hH ?_
      simp only [Act.put, List.setIfInBounds_toArray, List.set_cons_zero, List.set_cons_succ]
      refine step_to 6 103 (.bool true) _ rfl (by kernel_rfl) rfl (by rfl) (rfl) hH ?_
      simp only [Act.put, List.setIfInBounds_toArray, List.set_cons_zero, List.set_cons_succ]
      refine take_to 7 104 (.agg #[.int .i64 (nV a).ty, .int .i64 (nV a).n, .string (strOf (nV a).t), .bool (nV a).b]) rfl (by kernel_rfl) (by kernel_rfl) (by kernel_rfl) (fun _ _ _ h => h) rfl (by rfl) (fun w hw => op_load _ _ 23 (.tmp 11) rfl (.pointer (some ⟨p11, 0, none⟩)) _ rfl (load23 hw)) hH ?_
      simp only [Act.put, List.setIfInBounds_toArray, List.set_cons_zero, List.set_cons_succ]
      refine step_to 8 105 (.int .i64 a) _ rfl (by kernel_rfl) rfl (by rfl) (rfl) hH ?_
      simp only [Act.put, List.setIfInBounds_toArray, List.set_cons_zero, List.set_cons_succ]
      refine step_call1_to 9 106 6 rfl (by kernel_rfl) rfl (by rfl) (.tmp 105) _ rfl _ rfl Tryd.enters6 (HI.out _ _) ?_
      rintro e v1 ⟨rfl, hb1⟩
      have hH1 := hH.belowW hb1
      refine ⟨_, rfl, hH1, ?_⟩
      simp only [Act.put, List.setIfInBounds_toArray, List.set_cons_zero, List.set_cons_succ]
      refine step_to 10 107 (.bool true) _ rfl (by kernel_rfl) rfl (by rfl) (op_eqlV _ _ (.tmp 104) (.tmp 106) _ rfl (nV a) rfl rfl) hH1 ?_
      simp only [Act.put, List.setIfInBounds_toArray, List.set_cons_zero, List.set_cons_succ]
      refine step_to 11 108 (.bool true) _ rfl (by kernel_rfl) rfl (by rfl) (rfl) hH1 ?_
      simp only [Act.put, List.setIfInBounds_toArray, List.set_cons_zero, List.set_cons_succ]
      refine step_to 12 109 (.bool true) _ rfl (by kernel_rfl) rfl (by rfl) (rfl) hH1 ?_
      simp only [Act.put, List.setIfInBounds_toArray, List.set_cons_zero, List.set_cons_succ]
      refine step_to 13 110 (.bool true) _ rfl (by kernel_rfl) rfl (by rfl) (rfl) hH1 ?_
      simp only [Act.put, List.setIfInBounds_toArray, List.set_cons_zero, List.set_cons_succ]
      refine step_to 14 111 (.bool true) _ rfl (by kernel_rfl) rfl (by rfl) (rfl) hH1 ?_
      simp only [Act.put, List.setIfInBounds_toArray, List.set_cons_zero, List.set_cons_succ]
      refine step_to 15 112 (.bool true) _ rfl (by kernel_rfl) rfl (by rfl) (rfl) hH1 ?_
      simp only [Act.put, List.setIfInBounds_toArray, List.set_cons_zero, List.set_cons_succ]
      have HBX := thenW (HX.out.trans (below_drewN _ _ 1)) hb1
      refine step_call0_to 16 113 7 rfl (by kernel_rfl) rfl (by rfl) _ rfl Tryd.enters7 (HAW.out _ HBX) ?_
      rintro e v2 ⟨rfl, hb2⟩
      have hH2 := hH1.belowW hb2
      refine ⟨_, rfl, hH2, ?_⟩
      simp only [Act.put, List.setIfInBounds_toArray, List.set_cons_zero, List.set_cons_succ]
      refine step_to 17 114 (.bool true) _ rfl (by kernel_rfl) rfl (by rfl) (rfl) hH2 ?_
      simp only [Act.put, List.setIfInBounds_toArray, List.set_cons_zero, List.set_cons_succ]
      refine step_to 18 4 (.bool true) _ rfl (by kernel_rfl) rfl (by rfl) (rfl) hH2 ?_
      simp only [Act.put, List.setIfInBounds_toArray, List.set_cons_zero, List.set_cons_succ]
      refine wpAnyH_done (by kernel_rfl) ?_ _
      go_wp2
      go_ret
      exact ⟨rfl, thenW HBX hb2⟩
    · skip
      have hU2 := allocW hU1 (.cells #[.int .i64 0, .int .i64 0, .string { data := #[] }, .bool false] 23)
      refine op_to 9 (.pointer (some ⟨U1.heap.size, 0, none⟩)) (U1.alloc (.cells #[.int .i64 0, .int .i64 0, .string { data := #[] }, .bool false] 23)) rfl rfl (by rfl) (op_alloc23 _ _ rfl _) ⟨HR.out.belowW hU2, ?_⟩
      simp only [Act.put, List.setIfInBounds_toArray, List.set_cons_zero, List.set_cons_succ]
      have hnU2 : Box (U1.alloc (.cells #[.int .i64 0, .int .i64 0, .string { data := #[] }, .bool false] 23)) U1.heap.size Vl.zero := heap_alloc_new _ _
      have hgU2 := (hU1).size
      generalize U1.alloc (.cells #[.int .i64 0, .int .i64 0, .string { data := #[] }, .bool false] 23) = U2 at hU2 hnU2 ⊢
      generalize U1.heap.size = p9 at hnU2 hgU2 ⊢
      refine step_call3_to 3 77 5 rfl (by kernel_rfl) rfl (by rfl) (.const (.int .i64 20)) (.tmp 74) (.tmp 76) _ rfl _ _ _ rfl rfl rfl Tryd.enters5 (H20.out _) ?_
      rintro e U3 ⟨rfl, hbU3⟩
      have hU3 := thenW hU2 hbU3
      refine ⟨_, rfl, HR.out.belowW hU3, ?_⟩
      simp only [Act.put, List.setIfInBounds_toArray, List.set_cons_zero, List.set_cons_succ]
      have hT := HR.out.belowW hU3
      refine take_to 4 73 (.tuple #[.agg #[.int .i64 1, .int .i64 p, .string { data := #[] }, .bool false], .int .i64 0]) rfl (by kernel_rfl) (by kernel_rfl) (by kernel_rfl) (fun _ _ _ h => h) rfl (by rfl) (fun w hw => by rfl) hT ?_
      simp only [Act.put, List.setIfInBounds_toArray, List.set_cons_zero, List.set_cons_succ]
      refine take_to 5 78 (.agg #[.int .i64 1, .int .i64 p, .string { data := #[] }, .bool false]) rfl (by kernel_rfl) (by kernel_rfl) (by kernel_rfl) (fun _ _ _ h => h) rfl (by rfl) (fun w hw => by rfl) hT ?_
      simp only [Act.put, List.setIfInBounds_toArray, List.set_cons_zero, List.set_cons_succ]
      refine take_to 6 79 (.int .i64 0) rfl (by kernel_rfl) (by kernel_rfl) (by kernel_rfl) (fun _ _ _ h => h) rfl (by rfl) (fun w hw => by rfl) hT ?_
      simp only [Act.put, List.setIfInBounds_toArray, List.set_cons_zero, List.set_cons_succ]
      have hnn := hnU2.belowW hbU3
      have hT2 : QR p5 p7 q 0 U3 := HR.out.belowW hU3
      have hT3 := hT2.other #[.int .i64 1, .int .i64 p, .string { data := #[] }, .bool false] (k := p9) (by omega) (by omega)
      refine step_store_to 8 (U3.setRow p9 #[.int .i64 1, .int .i64 p, .string { data := #[] }, .bool false]) rfl (by kernel_rfl) rfl (by rfl) 23 (.tmp 9) (.tmp 78) rfl _ _ rfl rfl (store_val hnn (nV p)) hT3 ?_
      refine step_to 9 10 (.int .i64 0) _ rfl (by kernel_rfl) rfl (by rfl) rfl hT3 ?_
      simp only [Act.put, List.setIfInBounds_toArray, List.set_cons_zero, List.set_cons_succ]
      refine wpAnyH_done (by kernel_rfl) ?_ _
      have hf : Below u1.heap.size u1 (U3.setRow p9 #[.int .i64 1, .int .i64 p, .string { data := #[] }, .bool false]) := below_setRow hU3 hgU2 _
      have H9 : Hid (Box (U3.setRow p9 #[.int .i64 1, .int .i64 p, .string { data := #[] }, .bool false]) p9 (nV p)) := Box.after hnn (nV p)
      have HK := hide (thenW HG.out hf)
      have HR2 := hide hT3
      clear hf hT2 hT3
      generalize U3.setRow p9 #[.int .i64 1, .int .i64 p, .string { data := #[] }, .bool false] = Wf at *
      clear HG HR  hH
      obtain ⟨i0, i1, i2, i3⟩ := H9.out.lits
      obtain ⟨j0, j1, j2, j3⟩ := HR2.out.b.lits
      have l7f := lt_of_heap HR2.out.b
      have l9f := lt_of_heap H9.out
      go_upto_region 12 with (go_at_call 5; refine (H18.out _).mono ?_; rintro e W9 ⟨rfl, hb9⟩; have HB9 := hide hb9; clear hb9; obtain ⟨g0, g1, g2, g3⟩ := (HR2.out.b.belowW HB9.out).lits; have l79 := lt_of_heap (HR2.out.b.belowW HB9.out))
      have hX : Box (W9.alloc (.cells #[.int .i64 1, .int .i64 a, .string { data := #[] }, .bool false] 23)) W9.heap.size (nV a) := heap_alloc_new _ _
      have HX := hide (allocW (thenW HK.out HB9.out) (.cells #[.int .i64 1, .int .i64 a, .string { data := #[] }, .bool false] 23))
      generalize W9.alloc (.cells #[.int .i64 1, .int .i64 a, .string { data := #[] }, .bool false] 23) = Wy at *
      generalize W9.heap.size = p11 at *
      refine wp_region_held_drew (S := fun w' => Box w' p11 (nV a)) (by kernel_rfl) (hX.belowW (below_drewN _ _ 1)) (fun hH => ?_)
      refine step_to 0 97 (.int .i64 0) _ rfl (by kernel_rfl) rfl (by rfl) (rfl) hH ?_
      simp only [Act.put, List.setIfInBounds_toArray, List.set_cons_zero, List.set_cons_succ]
      refine step_to 1 98 (.bool true) _ rfl (by kernel_rfl) rfl (by rfl) (op_eqlE _ _ (.tmp 97) (.const (.int .i64 0)) _ rfl 0 0 rfl rfl true rfl) hH ?_
      simp only [Act.put, List.setIfInBounds_toArray, List.set_cons_zero, List.set_cons_succ]
      refine step_to 2 99 (.bool true) _ rfl (by kernel_rfl) rfl (by rfl) (rfl) hH ?_
      simp only [Act.put, List.setIfInBounds_toArray, List.set_cons_zero, List.set_cons_succ]
      refine step_to 3 100 (.int .i64 0) _ rfl (by kernel_rfl) rfl (by rfl) (rfl) hH ?_
      simp only [Act.put, List.setIfInBounds_toArray, List.set_cons_zero, List.set_cons_succ]
      refine step_to 4 101 (.bool true) _ rfl (by kernel_rfl) rfl (by rfl) (op_eqlE _ _ (.tmp 100) (.const (.int .i64 0)) _ rfl 0 0 rfl rfl true rfl) hH ?_
      simp only [Act.put, List.setIfInBounds_toArray, List.set_cons_zero, List.set_cons_succ]
      refine step_to 5 102 (.bool true) _ rfl (by kernel_rfl) rfl (by rfl) (rfl) hH ?_
      simp only [Act.put, List.setIfInBounds_toArray, List.set_cons_zero, List.set_cons_succ]
      refine step_to 6 103 (.bool true) _ rfl (by kernel_rfl) rfl (by rfl) (rfl) hH ?_
      simp only [Act.put, List.setIfInBounds_toArray, List.set_cons_zero, List.set_cons_succ]
      refine take_to 7 104 (.agg #[.int .i64 (nV a).ty, .int .i64 (nV a).n, .string (strOf (nV a).t), .bool (nV a).b]) rfl (by kernel_rfl) (by kernel_rfl) (by kernel_rfl) (fun _ _ _ h => h) rfl (by rfl) (fun w hw => op_load _ _ 23 (.tmp 11) rfl (.pointer (some ⟨p11, 0, none⟩)) _ rfl (load23 hw)) hH ?_
      simp only [Act.put, List.setIfInBounds_toArray, List.set_cons_zero, List.set_cons_succ]
      refine step_to 8 105 (.int .i64 a) _ rfl (by kernel_rfl) rfl (by rfl) (rfl) hH ?_
      simp only [Act.put, List.setIfInBounds_toArray, List.set_cons_zero, List.set_cons_succ]
      refine step_call1_to 9 106 6 rfl (by kernel_rfl) rfl (by rfl) (.tmp 105) _ rfl _ rfl Tryd.enters6 (HI.out _ _) ?_
      rintro e v1 ⟨rfl, hb1⟩
      have hH1 := hH.belowW hb1
      refine ⟨_, rfl, hH1, ?_⟩
      simp only [Act.put, List.setIfInBounds_toArray, List.set_cons_zero, List.set_cons_succ]
      refine step_to 10 107 (.bool true) _ rfl (by kernel_rfl) rfl (by rfl) (op_eqlV _ _ (.tmp 104) (.tmp 106) _ rfl (nV a) rfl rfl) hH1 ?_
      simp only [Act.put, List.setIfInBounds_toArray, List.set_cons_zero, List.set_cons_succ]
      refine step_to 11 108 (.bool true) _ rfl (by kernel_rfl) rfl (by rfl) (rfl) hH1 ?_
      simp only [Act.put, List.setIfInBounds_toArray, List.set_cons_zero, List.set_cons_succ]
      refine step_to 12 109 (.bool true) _ rfl (by kernel_rfl) rfl (by rfl) (rfl) hH1 ?_
      simp only [Act.put, List.setIfInBounds_toArray, List.set_cons_zero, List.set_cons_succ]
      refine step_to 13 110 (.bool true) _ rfl (by kernel_rfl) rfl (by rfl) (rfl) hH1 ?_
      simp only [Act.put, List.setIfInBounds_toArray, List.set_cons_zero, List.set_cons_succ]
      refine step_to 14 111 (.bool true) _ rfl (by kernel_rfl) rfl (by rfl) (rfl) hH1 ?_
      simp only [Act.put, List.setIfInBounds_toArray, List.set_cons_zero, List.set_cons_succ]
      refine step_to 15 112 (.bool true) _ rfl (by kernel_rfl) rfl (by rfl) (rfl) hH1 ?_
      simp only [Act.put, List.setIfInBounds_toArray, List.set_cons_zero, List.set_cons_succ]
      have HBX := thenW (HX.out.trans (below_drewN _ _ 1)) hb1
      refine step_call0_to 16 113 7 rfl (by kernel_rfl) rfl (by rfl) _ rfl Tryd.enters7 (HAW.out _ HBX) ?_
      rintro e v2 ⟨rfl, hb2⟩
      have hH2 := hH1.belowW hb2
      refine ⟨_, rfl, hH2, ?_⟩
      simp only [Act.put, List.setIfInBounds_toArray, List.set_cons_zero, List.set_cons_succ]
      refine step_to 17 114 (.bool true) _ rfl (by kernel_rfl) rfl (by rfl) (rfl) hH2 ?_
      simp only [Act.put, List.setIfInBounds_toArray, List.set_cons_zero, List.set_cons_succ]
      refine step_to 18 4 (.bool true) _ rfl (by kernel_rfl) rfl (by rfl) (rfl) hH2 ?_
      simp only [Act.put, List.setIfInBounds_toArray, List.set_cons_zero, List.set_cons_succ]
      refine wpAnyH_done (by kernel_rfl) ?_ _
      go_wp2
      go_ret
      exact ⟨rfl, thenW HBX hb2⟩
  · skip
    have hU1 := allocW hd0 (.cells #[.int .i64 0, .int .i64 0, .string { data := #[] }, .bool false] 23)
    refine op_to 9 (.pointer (some ⟨U0.heap.size, 0, none⟩)) (U0.alloc (.cells #[.int .i64 0, .int .i64 0, .string { data := #[] }, .bool false] 23)) rfl rfl (by rfl) (op_alloc23 _ _ rfl _) ⟨HR.out.belowW hU1, ?_⟩
    simp only [Act.put, List.setIfInBounds_toArray, List.set_cons_zero, List.set_cons_succ]
    have hnU1 : Box (U0.alloc (.cells #[.int .i64 0, .int .i64 0, .string { data := #[] }, .bool false] 23)) U0.heap.size Vl.zero := heap_alloc_new _ _
    have hgU1 := (hd0).size
    generalize U0.alloc (.cells #[.int .i64 0, .int .i64 0, .string { data := #[] }, .bool false] 23) = U1 at hU1 hnU1 ⊢
    generalize U0.heap.size = p9 at hnU1 hgU1 ⊢
    refine step_call1_to 2 76 6 rfl (by kernel_rfl) rfl (by rfl) (.tmp 75) _ rfl _ rfl Tryd.enters6 (HI.out _ _) ?_
    rintro e U2 ⟨rfl, hbU2⟩
    have hU2 := thenW hU1 hbU2
    refine ⟨_, rfl, HR.out.belowW hU2, ?_⟩
    simp only [Act.put, List.setIfInBounds_toArray, List.set_cons_zero, List.set_cons_succ]
    refine step_call3_to 3 77 5 rfl (by kernel_rfl) rfl (by rfl) (.const (.int .i64 20)) (.tmp 74) (.tmp 76) _ rfl _ _ _ rfl rfl rfl Tryd.enters5 (H20.out _) ?_
    rintro e U3 ⟨rfl, hbU3⟩
    have hU3 := thenW hU2 hbU3
    refine ⟨_, rfl, HR.out.belowW hU3, ?_⟩
    simp only [Act.put, List.setIfInBounds_toArray, List.set_cons_zero, List.set_cons_succ]
    have hT := HR.out.belowW hU3
    refine take_to 4 73 (.tuple #[.agg #[.int .i64 1, .int .i64 p, .string { data := #[] }, .bool false], .int .i64 0]) rfl (by kernel_rfl) (by kernel_rfl) (by kernel_rfl) (fun _ _ _ h => h) rfl (by rfl) (fun w hw => by rfl) hT ?_
    simp only [Act.put, List.setIfInBounds_toArray, List.set_cons_zero, List.set_cons_succ]
    refine take_to 5 78 (.agg #[.int .i64 1, .int .i64 p, .string { data := #[] }, .bool false]) rfl (by kernel_rfl) (by kernel_rfl) (by kernel_rfl) (fun _ _ _ h => h) rfl (by rfl) (fun w hw => by rfl) hT ?_
    simp only [Act.put, List.setIfInBounds_toArray, List.set_cons_zero, List.set_cons_succ]
    refine take_to 6 79 (.int .i64 0) rfl (by kernel_rfl) (by kernel_rfl) (by kernel_rfl) (fun _ _ _ h => h) rfl (by rfl) (fun w hw => by rfl) hT ?_
    simp only [Act.put, List.setIfInBounds_toArray, List.set_cons_zero, List.set_cons_succ]
    have hnn := (hnU1.belowW hbU2).belowW hbU3
    have hT2 : QR p5 p7 q 0 U3 := HR.out.belowW hU3
    have hT3 := hT2.other #[.int .i64 1, .int .i64 p, .string { data := #[] }, .bool false] (k := p9) (by omega) (by omega)
    refine step_store_to 8 (U3.setRow p9 #[.int .i64 1, .int .i64 p, .string { data := #[] }, .bool false]) rfl (by kernel_rfl) rfl (by rfl) 23 (.tmp 9) (.tmp 78) rfl _ _ rfl rfl (store_val hnn (nV p)) hT3 ?_
    refine step_to 9 10 (.int .i64 0) _ rfl (by kernel_rfl) rfl (by rfl) rfl hT3 ?_
    simp only [Act.put, List.setIfInBounds_toArray, List.set_cons_zero, List.set_cons_succ]
    refine wpAnyH_done (by kernel_rfl) ?_ _
    have hf : Below u1.heap.size u1 (U3.setRow p9 #[.int .i64 1, .int .i64 p, .string { data := #[] }, .bool false]) := below_setRow hU3 hgU1 _
    have H9 : Hid (Box (U3.setRow p9 #[.int .i64 1, .int .i64 p, .string { data := #[] }, .bool false]) p9 (nV p)) := Box.after hnn (nV p)
    have HK := hide (thenW HG.out hf)
    have HR2 := hide hT3
    clear hf hT2 hT3
    generalize U3.setRow p9 #[.int .i64 1, .int .i64 p, .string { data := #[] }, .bool false] = Wf at *
    clear HG HR  hH
    obtain ⟨i0, i1, i2, i3⟩ := H9.out.lits
    obtain ⟨j0, j1, j2, j3⟩ := HR2.out.b.lits
    have l7f := lt_of_heap HR2.out.b
    have l9f := lt_of_heap H9.out
    go_upto_region 12 with (go_at_call 5; refine (H18.out _).mono ?_; rintro e W9 ⟨rfl, hb9⟩; have HB9 := hide hb9; clear hb9; obtain ⟨g0, g1, g2, g3⟩ := (HR2.out.b.belowW HB9.out).lits; have l79 := lt_of_heap (HR2.out.b.belowW HB9.out))
    have hX : Box (W9.alloc (.cells #[.int .i64 1, .int .i64 a, .string { data := #[] }, .bool false] 23)) W9.heap.size (nV a) := heap_alloc_new _ _
    have HX := hide (allocW (thenW HK.out HB9.out) (.cells #[.int .i64 1, .int .i64 a, .string { data := #[] }, .bool false] 23))
    generalize W9.alloc (.cells #[.int .i64 1, .int .i64 a, .string { data := #[] }, .bool false] 23) = Wy at *
    generalize W9.heap.size = p11 at *
    refine wp_region_held_drew (S := fun w' => Box w' p11 (nV a)) (by kernel_rfl) (hX.belowW (below_drewN _ _ 1)) (fun hH => ?_)
    refine step_to 0 97 (.int .i64 0) _ rfl (by kernel_rfl) rfl (by rfl) (rfl) hH ?_
    simp only [Act.put, List.setIfInBounds_toArray, List.set_cons_zero, List.set_cons_succ]
    refine step_to 1 98 (.bool true) _ rfl (by kernel_rfl) rfl (by rfl) (op_eqlE _ _ (.tmp 97) (.const (.int .i64 0)) _ rfl 0 0 rfl rfl true rfl) hH ?_
    simp only [Act.put, List.setIfInBounds_toArray, List.set_cons_zero, List.set_cons_succ]
    refine step_to 2 99 (.bool true) _ rfl (by kernel_rfl) rfl (by rfl) (rfl) hH ?_
    simp only [Act.put, List.setIfInBounds_toArray, List.set_cons_zero, List.set_cons_succ]
    refine step_to 3 100 (.int .i64 0) _ rfl (by kernel_rfl) rfl (by rfl) (rfl) hH ?_
    simp only [Act.put, List.setIfInBounds_toArray, List.set_cons_zero, List.set_cons_succ]
    refine step_to 4 101 (.bool true) _ rfl (by kernel_rfl) rfl (by rfl) (op_eqlE _ _ (.tmp 100) (.const (.int .i64 0)) _ rfl 0 0 rfl rfl true rfl) hH ?_
    simp only [Act.put, List.setIfInBounds_toArray, List.set_cons_zero, List.set_cons_succ]
    refine step_to 5 102 (.bool true) _ rfl (by kernel_rfl) rfl (by rfl) (rfl) hH ?_
    simp only [Act.put, List.setIfInBounds_toArray, List.set_cons_zero, List.set_cons_succ]
    refine step_to 6 103 (.bool true) _ rfl (by kernel_rfl) rfl (by rfl) (rfl) hH ?_
    simp only [Act.put, List.setIfInBounds_toArray, List.set_cons_zero, List.set_cons_succ]
    refine take_to 7 104 (.agg #[.int .i64 (nV a).ty, .int .i64 (nV a).n, .string (strOf (nV a).t), .bool (nV a).b]) rfl (by kernel_rfl) (by kernel_rfl) (by kernel_rfl) (fun _ _ _ h => h) rfl (by rfl) (fun w hw => op_load _ _ 23 (.tmp 11) rfl (.pointer (some ⟨p11, 0, none⟩)) _ rfl (load23 hw)) hH ?_
    simp only [Act.put, List.setIfInBounds_toArray, List.set_cons_zero, List.set_cons_succ]
    refine step_to 8 105 (.int .i64 a) _ rfl (by kernel_rfl) rfl (by rfl) (rfl) hH ?_
    simp only [Act.put, List.setIfInBounds_toArray, List.set_cons_zero, List.set_cons_succ]
    refine step_call1_to 9 106 6 rfl (by kernel_rfl) rfl (by rfl) (.tmp 105) _ rfl _ rfl Tryd.enters6 (HI.out _ _) ?_
    rintro e v1 ⟨rfl, hb1⟩
    have hH1 := hH.belowW hb1
    refine ⟨_, rfl, hH1, ?_⟩
    simp only [Act.put, List.setIfInBounds_toArray, List.set_cons_zero, List.set_cons_succ]
    refine step_to 10 107 (.bool true) _ rfl (by kernel_rfl) rfl (by rfl) (op_eqlV _ _ (.tmp 104) (.tmp 106) _ rfl (nV a) rfl rfl) hH1 ?_
    simp only [Act.put, List.setIfInBounds_toArray, List.set_cons_zero, List.set_cons_succ]
    refine step_to 11 108 (.bool true) _ rfl (by kernel_rfl) rfl (by rfl) (rfl) hH1 ?_
    simp only [Act.put, List.setIfInBounds_toArray, List.set_cons_zero, List.set_cons_succ]
    refine step_to 12 109 (.bool true) _ rfl (by kernel_rfl) rfl (by rfl) (rfl) hH1 ?_
    simp only [Act.put, List.setIfInBounds_toArray, List.set_cons_zero, List.set_cons_succ]
    refine step_to 13 110 (.bool true) _ rfl (by kernel_rfl) rfl (by rfl) (rfl) hH1 ?_
    simp only [Act.put, List.setIfInBounds_toArray, List.set_cons_zero, List.set_cons_succ]
    refine step_to 14 111 (.bool true) _ rfl (by kernel_rfl) rfl (by rfl) (rfl) hH1 ?_
    simp only [Act.put, List.setIfInBounds_toArray, List.set_cons_zero, List.set_cons_succ]
    refine step_to 15 112 (.bool true) _ rfl (by kernel_rfl) rfl (by rfl) (rfl) hH1 ?_
    simp only [Act.put, List.setIfInBounds_toArray, List.set_cons_zero, List.set_cons_succ]
    have HBX := thenW (HX.out.trans (below_drewN _ _ 1)) hb1
    refine step_call0_to 16 113 7 rfl (by kernel_rfl) rfl (by rfl) _ rfl Tryd.enters7 (HAW.out _ HBX) ?_
    rintro e v2 ⟨rfl, hb2⟩
    have hH2 := hH1.belowW hb2
    refine ⟨_, rfl, hH2, ?_⟩
    simp only [Act.put, List.setIfInBounds_toArray, List.set_cons_zero, List.set_cons_succ]
    refine step_to 17 114 (.bool true) _ rfl (by kernel_rfl) rfl (by rfl) (rfl) hH2 ?_
    simp only [Act.put, List.setIfInBounds_toArray, List.set_cons_zero, List.set_cons_succ]
    refine step_to 18 4 (.bool true) _ rfl (by kernel_rfl) rfl (by rfl) (rfl) hH2 ?_
    simp only [Act.put, List.setIfInBounds_toArray, List.set_cons_zero, List.set_cons_succ]
    refine wpAnyH_done (by kernel_rfl) ?_ _
    go_wp2
    go_ret
    exact ⟨rfl, thenW HBX hb2⟩
set_option maxHeartbeats 16000000 in
theorem div_zero (a m : Int) (w : World) (hm : w.cell? ⟨1, 0, none⟩ = some (.int .i64 m)) (H21 : Hid (∀ W, Calls Tryd.prog 5 #[.int .i64 21, .agg #[.int .i64 1, .int .i64 a, .string { data := #[] }, .bool false], .agg #[.int .i64 1, .int .i64 0, .string { data := #[] }, .bool false]] W fun e w' => e = .returned (.tuple #[.agg #[.int .i64 0, .int .i64 0, .string { data := #[] }, .bool false], .int .i64 162]) ∧ Below W.heap.size W w')) (H22 : Hid (∀ W, Calls Tryd.prog 5 #[.int .i64 22, .agg #[.int .i64 1, .int .i64 a, .string { data := #[] }, .bool false], .agg #[.int .i64 1, .int .i64 0, .string { data := #[] }, .bool false]] W fun e w' => e = .returned (.tuple #[.agg #[.int .i64 0, .int .i64 0, .string { data := #[] }, .bool false], .int .i64 162]) ∧ Below W.heap.size W w')) :
    Calls Tryd.prog 3 #[.int .i64 a, .int .i64 0] w fun e w' => e = .returned (.bool true) ∧ Below w.heap.size w w' := by
  have HI : Hid (∀ n W, Calls Tryd.prog 6 #[.int .i64 n] W fun e w' => e = .returned (.agg #[.int .i64 1, .int .i64 n, .string { data := #[] }, .bool false]) ∧ Below W.heap.size W w') := lawInt_any
  have HAW : Hid (∀ W, Below w.heap.size w W → Calls Tryd.prog 7 #[] W fun e w' => e = .returned (.bool true) ∧ Below W.heap.size W w') := fun W hW => awake_any m W ((hW.cell (p := ⟨1, 0, none⟩) (World.block_lt_of_cell? w _ hm)).trans hm)
  clear hm
  go_enter Tryd.func3, Tryd.ntmps3
  go_upto_region 4 with (first
    | (have _t := HB5; go_at_call 5; refine (H22.out _).mono ?_; rintro e W6 ⟨rfl, hb6⟩; have HB6 := hide hb6; clear hb6)
    | (have _t := HB4; go_at_call 6; refine (HI.out _ _).mono ?_; rintro e W5 ⟨rfl, hb5⟩; have HB5 := hide hb5; clear hb5)
    | (have _t := HB3; go_at_call 6; refine (HI.out _ _).mono ?_; rintro e W4 ⟨rfl, hb4⟩; have HB4 := hide hb4; clear hb4)
    | (have _t := HB2; go_at_call 5; refine (H21.out _).mono ?_; rintro e W3 ⟨rfl, hb3⟩; have HB3 := hide hb3; clear hb3)
    | (have _t := HB1; go_at_call 6; refine (HI.out _ _).mono ?_; rintro e W2 ⟨rfl, hb2⟩; have HB2 := hide hb2; clear hb2)
    | (go_at_call 6; refine (HI.out _ _).mono ?_; rintro e W1 ⟨rfl, hb1⟩; have HB1 := hide hb1; clear hb1))
  have HF := hide (allocW (thenW (thenW (thenW (allocW (thenW (thenW HB1.out HB2.out) HB3.out) (.cells #[.int .i64 0, .int .i64 0, .string { data := #[] }, .bool false] 23)) HB4.out) HB5.out) HB6.out) (.cells #[.int .i64 0, .int .i64 0, .string { data := #[] }, .bool false] 23))
  have hP5 : Box (W3.alloc (.cells #[.int .i64 0, .int .i64 0, .string { data := #[] }, .bool false] 23)) W3.heap.size Vl.zero := heap_alloc_new _ _
  have G5 : Box (W6.alloc (.cells #[.int .i64 0, .int .i64 0, .string { data := #[] }, .bool false] 23)) W3.heap.size Vl.zero := (((hP5.belowW HB4.out).belowW HB5.out).belowW HB6.out).belowW ((Below.refl _ _).alloc (Nat.le_refl _) _)
  have G7 : Box (W6.alloc (.cells #[.int .i64 0, .int .i64 0, .string { data := #[] }, .bool false] 23)) W6.heap.size Vl.zero := heap_alloc_new _ _
  clear hP5 G5 G7 HB1 HB2 HB3 HB4 HB5 HB6 H21 H22
  generalize W6.alloc (.cells #[.int .i64 0, .int .i64 0, .string { data := #[] }, .bool false] 23) = Wx at *
  go_wp2_with (go_at_call 7; refine (HAW.out _ HF.out).mono ?_; rintro e w9 ⟨rfl, hb9⟩; have HB9 := hide hb9; clear hb9)
  go_ret
  exact ⟨rfl, thenW HF.out HB9.out⟩
set_option maxHeartbeats 16000000 in
theorem div_over (m : Int) (w : World) (hm : w.cell? ⟨1, 0, none⟩ = some (.int .i64 m)) (H21 : Hid (∀ W, Calls Tryd.prog 5 #[.int .i64 21, .agg #[.int .i64 1, .int .i64 (-9223372036854775808), .string { data := #[] }, .bool false], .agg #[.int .i64 1, .int .i64 (-1), .string { data := #[] }, .bool false]] W fun e w' => e = .returned (.tuple #[.agg #[.int .i64 0, .int .i64 0, .string { data := #[] }, .bool false], .int .i64 161]) ∧ Below W.heap.size W w')) (H22 : Hid (∀ W, Calls Tryd.prog 5 #[.int .i64 22, .agg #[.int .i64 1, .int .i64 (-9223372036854775808), .string { data := #[] }, .bool false], .agg #[.int .i64 1, .int .i64 (-1), .string { data := #[] }, .bool false]] W fun e w' => e = .returned (.tuple #[.agg #[.int .i64 1, .int .i64 0, .string { data := #[] }, .bool false], .int .i64 0]) ∧ Below W.heap.size W w')) :
    Calls Tryd.prog 3 #[.int .i64 (-9223372036854775808), .int .i64 (-1)] w fun e w' => e = .returned (.bool true) ∧ Below w.heap.size w w' := by
  have HI : Hid (∀ n W, Calls Tryd.prog 6 #[.int .i64 n] W fun e w' => e = .returned (.agg #[.int .i64 1, .int .i64 n, .string { data := #[] }, .bool false]) ∧ Below W.heap.size W w') := lawInt_any
  have HAW : Hid (∀ W, Below w.heap.size w W → Calls Tryd.prog 7 #[] W fun e w' => e = .returned (.bool true) ∧ Below W.heap.size W w') := fun W hW => awake_any m W ((hW.cell (p := ⟨1, 0, none⟩) (World.block_lt_of_cell? w _ hm)).trans hm)
  clear hm
  go_enter Tryd.func3, Tryd.ntmps3
  go_upto_region 5 with (first
    | (have _t := HB5; go_at_call 5; refine (H22.out _).mono ?_; rintro e W6 ⟨rfl, hb6⟩; have HB6 := hide hb6; clear hb6)
    | (have _t := HB4; go_at_call 6; refine (HI.out _ _).mono ?_; rintro e W5 ⟨rfl, hb5⟩; have HB5 := hide hb5; clear hb5)
    | (have _t := HB3; go_at_call 6; refine (HI.out _ _).mono ?_; rintro e W4 ⟨rfl, hb4⟩; have HB4 := hide hb4; clear hb4)
    | (have _t := HB2; go_at_call 5; refine (H21.out _).mono ?_; rintro e W3 ⟨rfl, hb3⟩; have HB3 := hide hb3; clear hb3)
    | (have _t := HB1; go_at_call 6; refine (HI.out _ _).mono ?_; rintro e W2 ⟨rfl, hb2⟩; have HB2 := hide hb2; clear hb2)
    | (go_at_call 6; refine (HI.out _ _).mono ?_; rintro e W1 ⟨rfl, hb1⟩; have HB1 := hide hb1; clear hb1))
  have HF := hide (allocW (thenW (thenW (thenW (allocW (thenW (thenW HB1.out HB2.out) HB3.out) (.cells #[.int .i64 0, .int .i64 0, .string { data := #[] }, .bool false] 23)) HB4.out) HB5.out) HB6.out) (.cells #[.int .i64 1, .int .i64 0, .string { data := #[] }, .bool false] 23))
  have hP5 : Box (W3.alloc (.cells #[.int .i64 0, .int .i64 0, .string { data := #[] }, .bool false] 23)) W3.heap.size Vl.zero := heap_alloc_new _ _
  have G5 : Box (W6.alloc (.cells #[.int .i64 1, .int .i64 0, .string { data := #[] }, .bool false] 23)) W3.heap.size Vl.zero := (((hP5.belowW HB4.out).belowW HB5.out).belowW HB6.out).belowW ((Below.refl _ _).alloc (Nat.le_refl _) _)
  have G7 : Box (W6.alloc (.cells #[.int .i64 1, .int .i64 0, .string { data := #[] }, .bool false] 23)) W6.heap.size (nV 0) := heap_alloc_new _ _
  clear hP5 G5 HB1 HB2 HB3 HB4 HB5 HB6 H21 H22
  have HQ := hide G7
  clear G7
  generalize W6.alloc (.cells #[.int .i64 1, .int .i64 0, .string { data := #[] }, .bool false] 23) = Wx at *
  generalize W6.heap.size = p7 at *
  have HF5 : Hid (Below w.heap.size w Wx.drew) := HF.out.trans (below_drewN _ _ 1)
  refine wp_region_held_drew (S := fun w' => Box w' p7 (nV 0)) (by kernel_rfl) (HQ.out.belowW (below_drewN _ _ 1)) (fun hH => ?_)
  refine step_to 0 41 (.int .i64 0) _ rfl (by kernel_rfl) rfl (by rfl) (rfl) hH ?_
  simp only [Act.put, List.setIfInBounds_toArray, List.set_cons_zero, List.set_cons_succ]
  refine step_to 1 42 (.bool false) _ rfl (by kernel_rfl) rfl (by rfl) (op_neqE _ _ (.tmp 41) (.const (.int .i64 0)) _ rfl 0 0 rfl rfl false rfl) hH ?_
  simp only [Act.put, List.setIfInBounds_toArray, List.set_cons_zero, List.set_cons_succ]
  refine step_to 2 43 (.bool false) _ rfl (by kernel_rfl) rfl (by rfl) (rfl) hH ?_
  simp only [Act.put, List.setIfInBounds_toArray, List.set_cons_zero, List.set_cons_succ]
  refine step_to 3 44 (.int .i64 (-1)) _ rfl (by kernel_rfl) rfl (by rfl) (rfl) hH ?_
  simp only [Act.put, List.setIfInBounds_toArray, List.set_cons_zero, List.set_cons_succ]
  refine step_to 4 45 (.bool true) _ rfl (by kernel_rfl) rfl (by rfl) (op_eqlI _ _ (.tmp 44) (.const (.int .i64 (-1))) _ rfl (-1) (-1) rfl rfl true rfl) hH ?_
  simp only [Act.put, List.setIfInBounds_toArray, List.set_cons_zero, List.set_cons_succ]
  refine step_to 5 46 (.bool true) _ rfl (by kernel_rfl) rfl (by rfl) (rfl) hH ?_
  simp only [Act.put, List.setIfInBounds_toArray, List.set_cons_zero, List.set_cons_succ]
  refine take_to 6 47 (.agg #[.int .i64 (nV 0).ty, .int .i64 (nV 0).n, .string (strOf (nV 0).t), .bool (nV 0).b]) rfl (by kernel_rfl) (by kernel_rfl) (by kernel_rfl) (fun _ _ _ h => h) rfl (by rfl) (fun w hw => op_load _ _ 23 (.tmp 7) rfl (.pointer (some ⟨p7, 0, none⟩)) _ rfl (load23 hw)) hH ?_
  simp only [Act.put, List.setIfInBounds_toArray, List.set_cons_zero, List.set_cons_succ]
  refine step_call1_to 7 48 6 rfl (by kernel_rfl) rfl (by rfl) (.const (.int .i64 0)) _ rfl _ rfl Tryd.enters6 (HI.out _ _) ?_
  rintro e u1 ⟨rfl, hb1⟩
  have hH1 := hH.belowW hb1
  refine ⟨_, rfl, hH1, ?_⟩
  simp only [Act.put, List.setIfInBounds_toArray, List.set_cons_zero, List.set_cons_succ]
  refine step_to 8 49 (.bool false) _ rfl (by kernel_rfl) rfl (by rfl) (op_neqV _ _ (.tmp 47) (.tmp 48) _ rfl (nV 0) rfl rfl) hH1 ?_
  simp only [Act.put, List.setIfInBounds_toArray, List.set_cons_zero, List.set_cons_succ]
  refine step_to 9 50 (.bool false) _ rfl (by kernel_rfl) rfl (by rfl) (rfl) hH1 ?_
  simp only [Act.put, List.setIfInBounds_toArray, List.set_cons_zero, List.set_cons_succ]
  refine step_to 10 51 (.bool false) _ rfl (by kernel_rfl) rfl (by rfl) (rfl) hH1 ?_
  simp only [Act.put, List.setIfInBounds_toArray, List.set_cons_zero, List.set_cons_succ]
  refine wpAnyH_done (by kernel_rfl) ?_ _
  have HG := hide (thenW HF5.out hb1)
  have hwr : wrap64 9223372036854775808 = -9223372036854775808 := by first | kernel_rfl | (simp only [wrap64]; omega)
  go_wp2_with (go_at_call 7; refine (HAW.out _ HG.out).mono ?_; rintro e w9 ⟨rfl, hb9⟩; have HB9 := hide hb9; clear hb9)
  go_ret
  exact ⟨by first | rfl | kernel_rfl | simp [hwr], thenW HG.out HB9.out⟩
end Go.Proofs.YtigafjdacllohabDoor
