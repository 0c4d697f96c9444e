/- The walk of ValueMath. -/
import Derived.Test.YtigafjdacllohaaDoorRma
import Derived.Test.YtigafjdacllohaaDoorAwk
namespace Go.Proofs.YtigafjdacllohaaDoor
open Go.RowKit
set_option linter.unusedVariables false
set_option linter.unusedSimpArgs false
set_option maxRecDepth 100000
theorem op_call1_to {P : Program} {ops : Array Oper} {Q : Exit → Act → World → Prop} {o : Oper} {a : Act} {w : World} {K : Act → World → Prop} {i : Nat} {R : Ending → World → Prop} (dst f : Nat) (hi : ops[i]? = some o)
    (hd : o.dst = some dst) (hw : Region.wanted o (yielded ops a.tmps) = true) (x : Operand) (ts : Array TypeId) (hop : o.op = Op.call { callee := Callee.value (Operand.func f), args := #[x], argTypes := ts })
    (vx : Value) (hx : a.eval x = vx) (hcf : ∀ args w, (callFunc f args).run P w = .ok (.enter f args) w) (hc : Calls P f #[vx] w R)
    (hK : ∀ e w', R e w' → ∃ v, e = .returned v ∧ K (a.put (some dst) v) w') : wpOp P ops Q i K a w := by
  refine wpOp_step hi (fun K' hK' => ?_)
  rw [if_pos hw]
  have hrun : (execOp a.eval o).run P w = .ok (.enter f #[vx]) w := by
    have hff : a.eval (.func f) = .func (.func f) #[] #[] := rfl
    unfold execOp
    simp [hop, resolve, hff, Deferred.ofValue, invoke, hx]
    exact hcf _ _
  unfold Oper.wp
  rw [hrun, Oper.upon_enter]
  refine hc.mono ?_
  intro e w' hR
  obtain ⟨v, rfl, hW⟩ := hK e w' hR
  show K' (a.put o.dst v) w'
  rw [hd]
  exact hK' _ _ hW
theorem op_call3_to {P : Program} {ops : Array Oper} {Q : Exit → Act → World → Prop} {o : Oper} {a : Act} {w : World} {K : Act → World → Prop} {i : Nat} {R : Ending → World → Prop} (dst f : Nat) (hi : ops[i]? = some o)
    (hd : o.dst = some dst) (hw : Region.wanted o (yielded ops a.tmps) = true) (x y z : Operand) (ts : Array TypeId) (hop : o.op = Op.call { callee := Callee.value (Operand.func f), args := #[x, y, z], argTypes := ts })
    (vx vy vz : Value) (hx : a.eval x = vx) (hy : a.eval y = vy) (hz : a.eval z = vz) (hcf : ∀ args w, (callFunc f args).run P w = .ok (.enter f args) w) (hc : Calls P f #[vx, vy, vz] w R)
    (hK : ∀ e w', R e w' → ∃ v, e = .returned v ∧ K (a.put (some dst) v) w') : wpOp P ops Q i K a w := by
  refine wpOp_step hi (fun K' hK' => ?_)
  rw [if_pos hw]
  have hrun : (execOp a.eval o).run P w = .ok (.enter f #[vx, vy, vz]) w := by
    have hff : a.eval (.func f) = .func (.func f) #[] #[] := rfl
    unfold execOp
    simp [hop, resolve, hff, Deferred.ofValue, invoke, hx, hy, hz]
    exact hcf _ _
  unfold Oper.wp
  rw [hrun, Oper.upon_enter]
  refine hc.mono ?_
  intro e w' hR
  obtain ⟨v, rfl, hW⟩ := hK e w' hR
  show K' (a.put o.dst v) w'
  rw [hd]
  exact hK' _ _ hW
theorem op_alloc23 (ρ : Operand → Value) (o : Oper) (ho : o.op = .alloc 23) (w : World) : (execOp ρ o).run Tryd.prog w = .ok (.value (.pointer (some ⟨w.heap.size, 0, none⟩))) (w.alloc (.cells #[.int .i64 0, .int .i64 0, .string { data := #[] }, .bool false] 23)) := by
  unfold execOp
  rw [ho]
  kernel_rfl
set_option maxHeartbeats 8000000 in
theorem math_walk (op : Int) (A B : Vl) (hA : A.wf) (hB : B.wf) (hl : A.t.length + B.t.length ≤ 100000000000) (m : Int) (w : World) (hm : w.cell? ⟨1, 0, none⟩ = some (.int .i64 m)) :
    Calls Tryd.prog 5 #[.int .i64 op, valOf A, valOf B] w fun e w' => e = .returned (.bool true) ∧ Below w.heap.size w w' := by
  unfold valOf
  have HB0 : Hid (Below w.heap.size w ((w.alloc (.cells #[.int .i64 A.ty, .int .i64 A.n, .string (strOf A.t), .bool A.b] 23)).alloc (.cells #[.int .i64 B.ty, .int .i64 B.n, .string (strOf B.t), .bool B.b] 23))) := below2 _ _ _
  have HT0 : Hid (TwoAB w.heap.size A B ((w.alloc (.cells #[.int .i64 A.ty, .int .i64 A.n, .string (strOf A.t), .bool A.b] 23)).alloc (.cells #[.int .i64 B.ty, .int .i64 B.n, .string (strOf B.t), .bool B.b] 23))) := ⟨first2 _ _ _, new2 _ _ _⟩
  obtain ⟨W1, hW1⟩ : ∃ W1, (w.alloc (.cells #[.int .i64 A.ty, .int .i64 A.n, .string (strOf A.t), .bool A.b] 23)).alloc (.cells #[.int .i64 B.ty, .int .i64 B.n, .string (strOf B.t), .bool B.b] 23) = W1 := ⟨_, rfl⟩
  rw [hW1] at HB0 HT0
  have HMA : Hid (∀ W, Calls Tryd.prog 16 #[.int .i64 op, .agg #[.int .i64 A.ty, .int .i64 A.n, .string (strOf A.t), .bool A.b], .agg #[.int .i64 B.ty, .int .i64 B.n, .string (strOf B.t), .bool B.b]] W fun e w' => e = .returned (telling (mathP op A B).1 (mathP op A B).2) ∧ Below W.heap.size W w') := math_any op A B hA hB hl
  have HRM : Hid (∀ W, Calls Tryd.prog 18 #[.int .i64 op, .agg #[.int .i64 A.ty, .int .i64 A.n, .string (strOf A.t), .bool A.b], .agg #[.int .i64 B.ty, .int .i64 B.n, .string (strOf B.t), .bool B.b]] W fun e w' => e = .returned (telling (mathP op A B).1 (mathP op A B).2) ∧ Below W.heap.size W w') := rmath_any op A B hA hB hl
  have HNE : Hid (∀ W, Calls Tryd.prog 19 #[.agg #[.int .i64 A.ty, .int .i64 A.n, .string (strOf A.t), .bool A.b]] W fun e w' => e = .returned (telling (negP A).1 (negP A).2) ∧ Below W.heap.size W w') := neg_any A hA (by omega)
  have HR2 : Hid (∀ W, Calls Tryd.prog 18 #[.int .i64 19, .agg #[.int .i64 1, .int .i64 0, .string { data := #[] }, .bool false], .agg #[.int .i64 A.ty, .int .i64 A.n, .string (strOf A.t), .bool A.b]] W fun e w' => e = .returned (telling (negP A).1 (negP A).2) ∧ Below W.heap.size W w') := rmath_any 19 (nV 0) A ⟨by decide, by decide⟩ hA (by simp [nV]; omega)
  generalize (mathP op A B).1 = V at *
  generalize (mathP op A B).2 = er at *
  generalize (negP A).1 = V2 at *
  generalize (negP A).2 = er2 at *
  unfold telling at *
  clear hA hB hl
  have HAW : Hid (∀ W, Below w.heap.size w W → Calls Tryd.prog 14 #[] W fun e w' => e = .returned (.bool true) ∧ Below W.heap.size W w') := fun W hW => awake_any m W ((hW.cell (p := ⟨1, 0, none⟩) (World.block_lt_of_cell? w _ hm)).trans hm)
  have HIN : Hid (∀ n W, Calls Tryd.prog 20 #[.int .i64 n] W fun e w' => e = .returned (.agg #[.int .i64 1, .int .i64 n, .string { data := #[] }, .bool false]) ∧ Below W.heap.size W w') := refInt_any
  clear hm
  go_enter Tryd.func5, Tryd.ntmps5
  go_upto_region 1 with fail
  try rw [hW1]
  clear hW1
  generalize hq : w.heap.size = q at HT0 ⊢
  have HQ := hide hq
  clear hq
  obtain ⟨a0, a1, a2, a3⟩ := HT0.out.a.cells
  obtain ⟨b0, b1, b2, b3⟩ := HT0.out.b.cells
  go_upto_region 4 with (first
    | (go_at_call 16; refine (HMA.out _).mono ?_; rintro e W2 ⟨rfl, hb2⟩; have HB2 := hide hb2; clear hb2; have HT2 := hide (HT0.out.belowW HB2.out); obtain ⟨c0, c1, c2, c3⟩ := HT2.out.a.cells; obtain ⟨d0, d1, d2, d3⟩ := HT2.out.b.cells; have l2 := lt_of_heap HT2.out.a; have m2 := lt_of_heap HT2.out.b)
    | (go_at_call 18; refine (HRM.out _).mono ?_; rintro e W3 ⟨rfl, hb3⟩; have HB3 := hide hb3; clear hb3; have HT3 := hide ((HT2.out.belowW ((Below.refl _ _).alloc (Nat.le_refl _) _)).belowW HB3.out); obtain ⟨f0, f1, f2, f3⟩ := HT3.out.a.cells; have l3 := lt_of_heap HT3.out.a)
    | (go_at_call 19; refine (HNE.out _).mono ?_; rintro e W4 ⟨rfl, hb4⟩; have HB4 := hide hb4; clear hb4; have HT4 := hide ((HT3.out.belowW ((Below.refl _ _).alloc (Nat.le_refl _) _)).belowW HB4.out)))
  have HA4 := thenW (allocW (thenW (allocW (thenW HB0.out HB2.out) (.cells #[.int .i64 V.ty, .int .i64 V.n, .string (strOf V.t), .bool V.b] 23)) HB3.out) (.cells #[.int .i64 V.ty, .int .i64 V.n, .string (strOf V.t), .bool V.b] 23)) HB4.out
  have HA5 := hide (allocW HA4 (.cells #[.int .i64 V2.ty, .int .i64 V2.n, .string (strOf V2.t), .bool V2.b] 23))
  have hP7 : Box (W2.alloc (.cells #[.int .i64 V.ty, .int .i64 V.n, .string (strOf V.t), .bool V.b] 23)) W2.heap.size V := heap_alloc_new _ _
  have hP73 : Box W3 W2.heap.size V := hP7.belowW HB3.out
  have hP9 : Box (W3.alloc (.cells #[.int .i64 V.ty, .int .i64 V.n, .string (strOf V.t), .bool V.b] 23)) W3.heap.size V := heap_alloc_new _ _
  have hP94 : Box W4 W3.heap.size V := hP9.belowW HB4.out
  have hP74 : Box W4 W2.heap.size V := (hP73.belowW ((Below.refl _ _).alloc (Nat.le_refl _) _)).belowW HB4.out
  have hS : Below W4.heap.size W4 (W4.alloc (.cells #[.int .i64 V2.ty, .int .i64 V2.n, .string (strOf V2.t), .bool V2.b] 23)) := (Below.refl _ _).alloc (Nat.le_refl _) _
  have H7 := hide (hP74.belowW hS)
  have H9 := hide (hP94.belowW hS)
  have H11 : Hid (Box (W4.alloc (.cells #[.int .i64 V2.ty, .int .i64 V2.n, .string (strOf V2.t), .bool V2.b] 23)) W4.heap.size V2) := heap_alloc_new _ _
  have HA := hide (HT4.out.a.belowW hS)
  clear hS hP74 hP94 hP9 hP73 hP7 HA4 HB0 HB2 HB3 HB4 HT0 HT2 HT3 HT4 HMA HRM HNE a0 a1 a2 a3 b0 b1 b2 b3 c0 c1 c2 c3 d0 d1 d2 d3 f0 f1 f2 f3 l2 m2 l3
  generalize W4.alloc (.cells #[.int .i64 V2.ty, .int .i64 V2.n, .string (strOf V2.t), .bool V2.b] 23) = Ws at *
  generalize W4.heap.size = p11 at *
  generalize W3.heap.size = p9 at *
  generalize W2.heap.size = p7 at *
  have hd0 : Below Ws.heap.size Ws Ws.drew := below_drewN _ _ 1
  have hqs : q < Ws.heap.size := lt_of_heap HA.out
  refine wp_region_held_drew (S := fun w' => Box w' q A) (by kernel_rfl) (HA.out.belowW hd0) (fun hH => ?_)
  refine take_to 1 36 (.agg #[.int .i64 A.ty, .int .i64 A.n, .string (strOf A.t), .bool A.b]) rfl (by kernel_rfl) (by kernel_rfl) (by kernel_rfl) (fun _ _ _ h => h) rfl (by rfl) (fun w hw => op_load _ _ 23 (.tmp 4) rfl (.pointer (some ⟨q, 0, none⟩)) _ rfl (load23 hw)) hH ?_
  simp only [Act.put, List.setIfInBounds_toArray, List.set_cons_zero, List.set_cons_succ]
  generalize Ws.drew = U0 at *
  refine wpAnyH_all (rs := [0, 6]) (by kernel_rfl) (by simp) ?_
  intro n hn
  rcases (by simpa using hn : n = 0 ∨ n = 6) with rfl | rfl
  · skip
    refine op_call1_to 35 20 rfl rfl (by rfl) (.const (.int .i64 0)) _ rfl _ rfl Tryd.enters20 (HIN.out _ _) ?_
    rintro e U1 ⟨rfl, hbU1⟩
    have hU1 := thenW hd0 hbU1
    refine ⟨_, rfl, HA.out.belowW hU1, ?_⟩
    simp only [Act.put, List.setIfInBounds_toArray, List.set_cons_zero, List.set_cons_succ]
    refine wpAnyH_all (rs := [2, 6]) (by kernel_rfl) (by simp) ?_
    intro n hn
    rcases (by simpa using hn : n = 2 ∨ n = 6) with rfl | rfl
    · skip
      refine op_call3_to 37 18 rfl rfl (by rfl) (.const (.int .i64 19)) (.tmp 35) (.tmp 36) _ rfl _ _ _ rfl rfl rfl Tryd.enters18 (HR2.out _) ?_
      rintro e U2 ⟨rfl, hbU2⟩
      have hU2 := thenW hU1 hbU2
      refine ⟨_, rfl, HA.out.belowW hU2, ?_⟩
      simp only [Act.put, List.setIfInBounds_toArray, List.set_cons_zero, List.set_cons_succ]
      have hT := HA.out.belowW hU2
      refine take_to 3 34 (.tuple #[.agg #[.int .i64 V2.ty, .int .i64 V2.n, .string (strOf V2.t), .bool V2.b], .int .i64 er2]) rfl (by kernel_rfl) (by kernel_rfl) (by kernel_rfl) (fun _ _ _ h => h) rfl (by rfl) (fun w hw => by rfl) hT ?_
      simp only [Act.put, List.setIfInBounds_toArray, List.set_cons_zero, List.set_cons_succ]
      refine take_to 4 38 (.agg #[.int .i64 V2.ty, .int .i64 V2.n, .string (strOf V2.t), .bool V2.b]) rfl (by kernel_rfl) (by kernel_rfl) (by kernel_rfl) (fun _ _ _ h => h) rfl (by rfl) (fun w hw => by rfl) hT ?_
      simp only [Act.put, List.setIfInBounds_toArray, List.set_cons_zero, List.set_cons_succ]
      refine take_to 5 39 (.int .i64 er2) rfl (by kernel_rfl) (by kernel_rfl) (by kernel_rfl) (fun _ _ _ h => h) rfl (by rfl) (fun w hw => by rfl) hT ?_
      simp only [Act.put, List.setIfInBounds_toArray, List.set_cons_zero, List.set_cons_succ]
      have hU3 := allocW hU2 (.cells #[.int .i64 0, .int .i64 0, .string { data := #[] }, .bool false] 23)
      refine step_to 6 13 (.pointer (some ⟨U2.heap.size, 0, none⟩)) (U2.alloc (.cells #[.int .i64 0, .int .i64 0, .string { data := #[] }, .bool false] 23)) rfl (by kernel_rfl) rfl (by rfl) (op_alloc23 _ _ rfl _) (HA.out.belowW hU3) ?_
      simp only [Act.put, List.setIfInBounds_toArray, List.set_cons_zero, List.set_cons_succ]
      have hnU3 : Box (U2.alloc (.cells #[.int .i64 0, .int .i64 0, .string { data := #[] }, .bool false] 23)) U2.heap.size Vl.zero := heap_alloc_new _ _
      have hgU3 := (hU2).size
      generalize U2.alloc (.cells #[.int .i64 0, .int .i64 0, .string { data := #[] }, .bool false] 23) = U3 at hU3 hnU3 ⊢
      generalize U2.heap.size = p13 at hnU3 hgU3 ⊢
      have hne : q ≠ p13 := by omega
      have hT2 : Box U3 q A := HA.out.belowW hU3
      refine step_store_to 7 (U3.setRow p13 #[.int .i64 V2.ty, .int .i64 V2.n, .string (strOf V2.t), .bool V2.b]) rfl (by kernel_rfl) rfl (by rfl) 23 (.tmp 13) (.tmp 38) rfl _ _ rfl rfl (store_val hnU3 V2) (hT2.other _ hne) ?_
      refine step_to 8 14 (.int .i64 er2) _ rfl (by kernel_rfl) rfl (by rfl) rfl (hT2.other _ hne) ?_
      simp only [Act.put, List.setIfInBounds_toArray, List.set_cons_zero, List.set_cons_succ]
      refine wpAnyH_done (by kernel_rfl) ?_ _
      have hf : Below Ws.heap.size Ws (U3.setRow p13 #[.int .i64 V2.ty, .int .i64 V2.n, .string (strOf V2.t), .bool V2.b]) := below_setRow hU3 hgU3 _
      have h13 := hide (Box.after hnU3 V2)
      have G7 := hide (H7.out.belowW hf)
      have G9 := hide (H9.out.belowW hf)
      have G11 := hide (H11.out.belowW hf)
      have HF := hide (thenW HA5.out hf)
      clear hf hne hT2
      generalize U3.setRow p13 #[.int .i64 V2.ty, .int .i64 V2.n, .string (strOf V2.t), .bool V2.b] = Wf at *
      obtain ⟨g0, g1, g2, g3⟩ := G7.out.cells
      obtain ⟨i0, i1, i2, i3⟩ := G9.out.cells
      obtain ⟨j0, j1, j2, j3⟩ := G11.out.cells
      obtain ⟨k0, k1, k2, k3⟩ := h13.out.cells
      have he := fun w => run_eql23 w V V true (by simp)
      have he2 := fun w => run_eql23 w V2 V2 true (by simp)
      have heq := fun w => eq23 w V V true (by simp)
      have heq2 := fun w => eq23 w V2 V2 true (by simp)
      go_wp2_with (go_at_call 14; refine (HAW.out _ HF.out).mono ?_; rintro e w9 ⟨rfl, hb9⟩; have HB9 := hide hb9; clear hb9)
      go_ret
      exact ⟨rfl, thenW HF.out HB9.out⟩
    · skip
      have hU2 := allocW hU1 (.cells #[.int .i64 0, .int .i64 0, .string { data := #[] }, .bool false] 23)
      refine op_to 13 (.pointer (some ⟨U1.heap.size, 0, none⟩)) (U1.alloc (.cells #[.int .i64 0, .int .i64 0, .string { data := #[] }, .bool false] 23)) rfl rfl (by rfl) (op_alloc23 _ _ rfl _) ⟨HA.out.belowW hU2, ?_⟩
      simp only [Act.put, List.setIfInBounds_toArray, List.set_cons_zero, List.set_cons_succ]
      have hnU2 : Box (U1.alloc (.cells #[.int .i64 0, .int .i64 0, .string { data := #[] }, .bool false] 23)) U1.heap.size Vl.zero := heap_alloc_new _ _
      have hgU2 := (hU1).size
      generalize U1.alloc (.cells #[.int .i64 0, .int .i64 0, .string { data := #[] }, .bool false] 23) = U2 at hU2 hnU2 ⊢
      generalize U1.heap.size = p13 at hnU2 hgU2 ⊢
      refine step_call3_to 2 37 18 rfl (by kernel_rfl) rfl (by rfl) (.const (.int .i64 19)) (.tmp 35) (.tmp 36) _ rfl _ _ _ rfl rfl rfl Tryd.enters18 (HR2.out _) ?_
      rintro e U3 ⟨rfl, hbU3⟩
      have hU3 := thenW hU2 hbU3
      refine ⟨_, rfl, HA.out.belowW hU3, ?_⟩
      simp only [Act.put, List.setIfInBounds_toArray, List.set_cons_zero, List.set_cons_succ]
      have hT := HA.out.belowW hU3
      refine take_to 3 34 (.tuple #[.agg #[.int .i64 V2.ty, .int .i64 V2.n, .string (strOf V2.t), .bool V2.b], .int .i64 er2]) rfl (by kernel_rfl) (by kernel_rfl) (by kernel_rfl) (fun _ _ _ h => h) rfl (by rfl) (fun w hw => by rfl) hT ?_
      simp only [Act.put, List.setIfInBounds_toArray, List.set_cons_zero, List.set_cons_succ]
      refine take_to 4 38 (.agg #[.int .i64 V2.ty, .int .i64 V2.n, .string (strOf V2.t), .bool V2.b]) rfl (by kernel_rfl) (by kernel_rfl) (by kernel_rfl) (fun _ _ _ h => h) rfl (by rfl) (fun w hw => by rfl) hT ?_
      simp only [Act.put, List.setIfInBounds_toArray, List.set_cons_zero, List.set_cons_succ]
      refine take_to 5 39 (.int .i64 er2) rfl (by kernel_rfl) (by kernel_rfl) (by kernel_rfl) (fun _ _ _ h => h) rfl (by rfl) (fun w hw => by rfl) hT ?_
      simp only [Act.put, List.setIfInBounds_toArray, List.set_cons_zero, List.set_cons_succ]
      have hnn := hnU2.belowW hbU3
      have hne : q ≠ p13 := by omega
      have hT2 : Box U3 q A := HA.out.belowW hU3
      refine step_store_to 7 (U3.setRow p13 #[.int .i64 V2.ty, .int .i64 V2.n, .string (strOf V2.t), .bool V2.b]) rfl (by kernel_rfl) rfl (by rfl) 23 (.tmp 13) (.tmp 38) rfl _ _ rfl rfl (store_val hnn V2) (hT2.other _ hne) ?_
      refine step_to 8 14 (.int .i64 er2) _ rfl (by kernel_rfl) rfl (by rfl) rfl (hT2.other _ hne) ?_
      simp only [Act.put, List.setIfInBounds_toArray, List.set_cons_zero, List.set_cons_succ]
      refine wpAnyH_done (by kernel_rfl) ?_ _
      have hf : Below Ws.heap.size Ws (U3.setRow p13 #[.int .i64 V2.ty, .int .i64 V2.n, .string (strOf V2.t), .bool V2.b]) := below_setRow hU3 hgU2 _
      have h13 := hide (Box.after hnn V2)
      have G7 := hide (H7.out.belowW hf)
      have G9 := hide (H9.out.belowW hf)
      have G11 := hide (H11.out.belowW hf)
      have HF := hide (thenW HA5.out hf)
      clear hf hne hT2
      generalize U3.setRow p13 #[.int .i64 V2.ty, .int .i64 V2.n, .string (strOf V2.t), .bool V2.b] = Wf at *
      obtain ⟨g0, g1, g2, g3⟩ := G7.out.cells
      obtain ⟨i0, i1, i2, i3⟩ := G9.out.cells
      obtain ⟨j0, j1, j2, j3⟩ := G11.out.cells
      obtain ⟨k0, k1, k2, k3⟩ := h13.out.cells
      have he := fun w => run_eql23 w V V true (by simp)
      have he2 := fun w => run_eql23 w V2 V2 true (by simp)
      have heq := fun w => eq23 w V V true (by simp)
      have heq2 := fun w => eq23 w V2 V2 true (by simp)
      go_wp2_with (go_at_call 14; refine (HAW.out _ HF.out).mono ?_; rintro e w9 ⟨rfl, hb9⟩; have HB9 := hide hb9; clear hb9)
      go_ret
      exact ⟨rfl, thenW HF.out HB9.out⟩
  · skip
    have hU1 := allocW hd0 (.cells #[.int .i64 0, .int .i64 0, .string { data := #[] }, .bool false] 23)
    refine op_to 13 (.pointer (some ⟨U0.heap.size, 0, none⟩)) (U0.alloc (.cells #[.int .i64 0, .int .i64 0, .string { data := #[] }, .bool false] 23)) rfl rfl (by rfl) (op_alloc23 _ _ rfl _) ⟨HA.out.belowW hU1, ?_⟩
    simp only [Act.put, List.setIfInBounds_toArray, List.set_cons_zero, List.set_cons_succ]
    have hnU1 : Box (U0.alloc (.cells #[.int .i64 0, .int .i64 0, .string { data := #[] }, .bool false] 23)) U0.heap.size Vl.zero := heap_alloc_new _ _
    have hgU1 := (hd0).size
    generalize U0.alloc (.cells #[.int .i64 0, .int .i64 0, .string { data := #[] }, .bool false] 23) = U1 at hU1 hnU1 ⊢
    generalize U0.heap.size = p13 at hnU1 hgU1 ⊢
    refine step_call1_to 0 35 20 rfl (by kernel_rfl) rfl (by rfl) (.const (.int .i64 0)) _ rfl _ rfl Tryd.enters20 (HIN.out _ _) ?_
    rintro e U2 ⟨rfl, hbU2⟩
    have hU2 := thenW hU1 hbU2
    refine ⟨_, rfl, HA.out.belowW hU2, ?_⟩
    simp only [Act.put, List.setIfInBounds_toArray, List.set_cons_zero, List.set_cons_succ]
    refine step_call3_to 2 37 18 rfl (by kernel_rfl) rfl (by rfl) (.const (.int .i64 19)) (.tmp 35) (.tmp 36) _ rfl _ _ _ rfl rfl rfl Tryd.enters18 (HR2.out _) ?_
    rintro e U3 ⟨rfl, hbU3⟩
    have hU3 := thenW hU2 hbU3
    refine ⟨_, rfl, HA.out.belowW hU3, ?_⟩
    simp only [Act.put, List.setIfInBounds_toArray, List.set_cons_zero, List.set_cons_succ]
    have hT := HA.out.belowW hU3
    refine take_to 3 34 (.tuple #[.agg #[.int .i64 V2.ty, .int .i64 V2.n, .string (strOf V2.t), .bool V2.b], .int .i64 er2]) rfl (by kernel_rfl) (by kernel_rfl) (by kernel_rfl) (fun _ _ _ h => h) rfl (by rfl) (fun w hw => by rfl) hT ?_
    simp only [Act.put, List.setIfInBounds_toArray, List.set_cons_zero, List.set_cons_succ]
    refine take_to 4 38 (.agg #[.int .i64 V2.ty, .int .i64 V2.n, .string (strOf V2.t), .bool V2.b]) rfl (by kernel_rfl) (by kernel_rfl) (by kernel_rfl) (fun _ _ _ h => h) rfl (by rfl) (fun w hw => by rfl) hT ?_
    simp only [Act.put, List.setIfInBounds_toArray, List.set_cons_zero, List.set_cons_succ]
    refine take_to 5 39 (.int .i64 er2) rfl (by kernel_rfl) (by kernel_rfl) (by kernel_rfl) (fun _ _ _ h => h) rfl (by rfl) (fun w hw => by rfl) hT ?_
    simp only [Act.put, List.setIfInBounds_toArray, List.set_cons_zero, List.set_cons_succ]
    have hnn := (hnU1.belowW hbU2).belowW hbU3
    have hne : q ≠ p13 := by omega
    have hT2 : Box U3 q A := HA.out.belowW hU3
    refine step_store_to 7 (U3.setRow p13 #[.int .i64 V2.ty, .int .i64 V2.n, .string (strOf V2.t), .bool V2.b]) rfl (by kernel_rfl) rfl (by rfl) 23 (.tmp 13) (.tmp 38) rfl _ _ rfl rfl (store_val hnn V2) (hT2.other _ hne) ?_
    refine step_to 8 14 (.int .i64 er2) _ rfl (by kernel_rfl) rfl (by rfl) rfl (hT2.other _ hne) ?_
    simp only [Act.put, List.setIfInBounds_toArray, List.set_cons_zero, List.set_cons_succ]
    refine wpAnyH_done (by kernel_rfl) ?_ _
    have hf : Below Ws.heap.size Ws (U3.setRow p13 #[.int .i64 V2.ty, .int .i64 V2.n, .string (strOf V2.t), .bool V2.b]) := below_setRow hU3 hgU1 _
    have h13 := hide (Box.after hnn V2)
    have G7 := hide (H7.out.belowW hf)
    have G9 := hide (H9.out.belowW hf)
    have G11 := hide (H11.out.belowW hf)
    have HF := hide (thenW HA5.out hf)
    clear hf hne hT2
    generalize U3.setRow p13 #[.int .i64 V2.ty, .int .i64 V2.n, .string (strOf V2.t), .bool V2.b] = Wf at *
    obtain ⟨g0, g1, g2, g3⟩ := G7.out.cells
    obtain ⟨i0, i1, i2, i3⟩ := G9.out.cells
    obtain ⟨j0, j1, j2, j3⟩ := G11.out.cells
    obtain ⟨k0, k1, k2, k3⟩ := h13.out.cells
    have he := fun w => run_eql23 w V V true (by simp)
    have he2 := fun w => run_eql23 w V2 V2 true (by simp)
    have heq := fun w => eq23 w V V true (by simp)
    have heq2 := fun w => eq23 w V2 V2 true (by simp)
    go_wp2_with (go_at_call 14; refine (HAW.out _ HF.out).mono ?_; rintro e w9 ⟨rfl, hb9⟩; have HB9 := hide hb9; clear hb9)
    go_ret
    exact ⟨rfl, thenW HF.out HB9.out⟩
end Go.Proofs.YtigafjdacllohaaDoor
