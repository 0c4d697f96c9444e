/- The walk of ValueLogic. -/
import Derived.Test.YtigafjdacllohaaDoorLgc
namespace Go.Proofs.YtigafjdacllohaaDoor
open Go.RowKit
set_option linter.unusedVariables false
set_option linter.unusedSimpArgs false
set_option maxRecDepth 100000

theorem op_alloc23 (ρ : Operand → Value) (o : Oper) (ho : o.op = .alloc 23) (w : World) : (execOp ρ o).run Tryd.prog w = .ok (.value (.pointer (some ⟨w.heap.size, 0, none⟩))) (w.alloc (.cells #[.int .i64 0, .int .i64 0, .string { data := #[] }, .bool false] 23)) := by
  unfold execOp
  rw [ho]
  kernel_rfl
theorem step_call0_to {P : Program} {ops : Array Oper} {Q : Exit → Act → World → Prop} {md : Region.Mode} {S : World → Prop} {o : Oper} {fuel : Nat} {listed : Array Bool} {a : Act} {w : World} {R : Ending → World → Prop} (j dst f : Nat) (hj : ops[j]? = some o)
    (hr : Region.ready md ops listed = [j]) (hd : o.dst = some dst) (hw : Region.wanted o (yielded ops a.tmps) = true) (ts : Array TypeId) (hop : o.op = Op.call { callee := Callee.value (Operand.func f), args := #[], argTypes := ts })
    (hcf : ∀ args w, (callFunc f args).run P w = .ok (.enter f args) w) (hc : Calls P f #[] w R)
    (hK : ∀ e w', R e w' → ∃ v, e = .returned v ∧ S w' ∧ wpAnyH P md ops Q S fuel (listed.setIfInBounds j true) (a.put (some dst) v) w') : wpAnyH P md ops Q S (fuel + 1) listed a w := by
  refine step_by j hj hr (fun K hK' => ?_)
  rw [if_pos hw]
  have hrun : (execOp a.eval o).run P w = .ok (.enter f #[]) w := by
    have hff : a.eval (.func f) = .func (.func f) #[] #[] := rfl
    unfold execOp
    simp [hop, resolve, hff, Deferred.ofValue, invoke]
    exact hcf _ _
  unfold Oper.wp
  rw [hrun, Oper.upon_enter]
  refine hc.mono ?_
  intro e w' hR
  obtain ⟨v, rfl, hS, hW⟩ := hK e w' hR
  show K (a.put o.dst v) w'
  rw [hd]
  exact hK' _ _ hS hW
theorem step_callv1_to {P : Program} {ops : Array Oper} {Q : Exit → Act → World → Prop} {md : Region.Mode} {S : World → Prop} {o : Oper} {fuel : Nat} {listed : Array Bool} {a : Act} {w : World} {R : Ending → World → Prop} (j dst f : Nat) (hj : ops[j]? = some o)
    (hr : Region.ready md ops listed = [j]) (hd : o.dst = some dst) (hw : Region.wanted o (yielded ops a.tmps) = true) (fo x : Operand) (ts : Array TypeId) (hop : o.op = Op.call { callee := Callee.value fo, args := #[x], argTypes := ts })
    (hfo : a.eval fo = .func (.func f) #[] #[]) (vx : Value) (hx : a.eval x = vx) (hcf : ∀ args w, (callFunc f args).run P w = .ok (.enter f args) w) (hc : Calls P f #[vx] w R)
    (hK : ∀ e w', R e w' → ∃ v, e = .returned v ∧ S w' ∧ wpAnyH P md ops Q S fuel (listed.setIfInBounds j true) (a.put (some dst) v) w') : wpAnyH P md ops Q S (fuel + 1) listed a w := by
  refine step_by j hj hr (fun K hK' => ?_)
  rw [if_pos hw]
  have hrun : (execOp a.eval o).run P w = .ok (.enter f #[vx]) w := by
    unfold execOp
    simp [hop, resolve, hfo, Deferred.ofValue, invoke, hx]
    exact hcf _ _
  unfold Oper.wp
  rw [hrun, Oper.upon_enter]
  refine hc.mono ?_
  intro e w' hR
  obtain ⟨v, rfl, hS, hW⟩ := hK e w' hR
  show K (a.put o.dst v) w'
  rw [hd]
  exact hK' _ _ hS hW
theorem step_callv2_to {P : Program} {ops : Array Oper} {Q : Exit → Act → World → Prop} {md : Region.Mode} {S : World → Prop} {o : Oper} {fuel : Nat} {listed : Array Bool} {a : Act} {w : World} {R : Ending → World → Prop} (j dst f : Nat) (hj : ops[j]? = some o)
    (hr : Region.ready md ops listed = [j]) (hd : o.dst = some dst) (hw : Region.wanted o (yielded ops a.tmps) = true) (fo x y : Operand) (ts : Array TypeId) (hop : o.op = Op.call { callee := Callee.value fo, args := #[x, y], argTypes := ts })
    (hfo : a.eval fo = .func (.func f) #[] #[]) (vx vy : Value) (hx : a.eval x = vx) (hy : a.eval y = vy) (hcf : ∀ args w, (callFunc f args).run P w = .ok (.enter f args) w) (hc : Calls P f #[vx, vy] w R)
    (hK : ∀ e w', R e w' → ∃ v, e = .returned v ∧ S w' ∧ wpAnyH P md ops Q S fuel (listed.setIfInBounds j true) (a.put (some dst) v) w') : wpAnyH P md ops Q S (fuel + 1) listed a w := by
  refine step_by j hj hr (fun K hK' => ?_)
  rw [if_pos hw]
  have hrun : (execOp a.eval o).run P w = .ok (.enter f #[vx, vy]) w := by
    unfold execOp
    simp [hop, resolve, hfo, Deferred.ofValue, invoke, hx, hy]
    exact hcf _ _
  unfold Oper.wp
  rw [hrun, Oper.upon_enter]
  refine hc.mono ?_
  intro e w' hR
  obtain ⟨v, rfl, hS, hW⟩ := hK e w' hR
  show K (a.put o.dst v) w'
  rw [hd]
  exact hK' _ _ hS hW
theorem op_eqlAB (ρ : Operand → Value) (o : Oper) (x y : Operand) (tt : TypeId) (ho : o.op = .binOp .eql 23 x y tt) (A B : Vl) (hAB : A = B) (hx : ρ x = .agg #[.int .i64 A.ty, .int .i64 A.n, .string (strOf A.t), .bool A.b]) (hy : ρ y = .agg #[.int .i64 B.ty, .int .i64 B.n, .string (strOf B.t), .bool B.b]) {w : World} : (execOp ρ o).run Tryd.prog w = .ok (.value (.bool true)) w := by
  subst hAB
  exact op_eqlV ρ o x y tt ho A hx hy
structure TriS (p8 p9 p10 : Nat) (X Y Z : Vl) (W : World) : Prop where
  x : Box W p8 X
  y : Box W p9 Y
  z : Box W p10 Z
theorem TriS.belowW {p8 p9 p10 : Nat} {X Y Z : Vl} {w w' : World} (h : TriS p8 p9 p10 X Y Z w) (hb : Below w.heap.size w w') : TriS p8 p9 p10 X Y Z w' := ⟨h.x.belowW hb, h.y.belowW hb, h.z.belowW hb⟩
theorem wp_with_act {P : Program} {c : Code} {Q : Exit → Act → World → Prop} {a : Act} {w : World} (h : ∀ a0, a0 = a → c.wp P Q a0 w) : c.wp P Q a w := h a rfl
theorem tri_ix (a : Int) : ∃ i : Nat, i < 3 ∧ (a.tmod 3 + 3).tmod 3 = (i : Int) ∧ IntKind.i64.wrap (a.tmod 3 + 3) = a.tmod 3 + 3 := by
  have h2 : (a.tmod 3).natAbs < 3 := by rw [Int.natAbs_tmod]; exact Nat.mod_lt _ (by omega)
  have h3 := Int.tmod_nonneg (a := a.tmod 3 + 3) 3 (by omega)
  have h4 : ((a.tmod 3 + 3).tmod 3).natAbs < 3 := by rw [Int.natAbs_tmod]; exact Nat.mod_lt _ (by omega)
  exact ⟨((a.tmod 3 + 3).tmod 3).toNat, by omega, by omega, by rw [IntKind.wrap_i64]; omega⟩
theorem vs3 (W : World) : VsAt (W.alloc (.cells #[.int .i64 0, .int .i64 0, .string { data := #[] }, .bool false, .int .i64 3, .int .i64 0, .string { data := #[] }, .bool false, .int .i64 3, .int .i64 0, .string { data := #[] }, .bool true] 23)) (.slice (some ⟨W.heap.size, 0, none⟩) 3 3) L3 := by
  refine ⟨_, _, rfl, Nat.le_refl _, by simp [maxLen], fun _ => ⟨_, _, rfl, fun j u hu => ?_⟩⟩
  rw [Nat.zero_add, cell_row (heap_alloc_new W _)]
  have e : vsCells L3 = [.int .i64 0, .int .i64 0, .string { data := #[] }, .bool false, .int .i64 3, .int .i64 0, .string { data := #[] }, .bool false, .int .i64 3, .int .i64 0, .string { data := #[] }, .bool true] := rfl
  rw [e] at hu
  simpa using hu
theorem VsAt.at3 {W : World} {g : Nat} (h : VsAt W (.slice (some ⟨g, 0, none⟩) 3 3) L3) (i : Nat) (hi : i < 3) : CellsAt W g (0 + i * 4) (tri i) := by
  obtain ⟨g', o, e, hC⟩ := h.get i hi
  cases e
  exact hC
set_option maxHeartbeats 16000000 in
theorem logic_walk (a b c m : Int) (w : World) (hm : w.cell? ⟨1, 0, none⟩ = some (.int .i64 m)) :
    Calls Tryd.prog 8 #[.int .i64 a, .int .i64 b, .int .i64 c] w fun e w' => e = .returned (.bool true) ∧ Below w.heap.size w w' := by
  obtain ⟨i, hi, ei, wi⟩ := tri_ix a
  obtain ⟨j, hj, ej, wj⟩ := tri_ix b
  obtain ⟨k, hk, ek, wk⟩ := tri_ix c
  have HTR : Hid (∀ b W, Calls Tryd.prog 11 #[.bool b] W fun e w' => e = .returned (.agg #[.int .i64 3, .int .i64 0, .string { data := #[] }, .bool b]) ∧ Below W.heap.size W w') := lawTruth_any
  have HAW : Hid (∀ W, Below w.heap.size w W → Calls Tryd.prog 14 #[] W fun e w' => e = .returned (.bool true) ∧ Below W.heap.size W w') := fun W hW => awake_any m W ((hW.cell (p := ⟨1, 0, none⟩) (World.block_lt_of_cell? w _ hm)).trans hm)
  have HLG := hide (logic_is hi hj hk)
  have HI := hide hi
  have HJ := hide hj
  have HK := hide hk
  have EI := hide ei
  have EJ := hide ej
  have EK := hide ek
  have WI := hide wi
  have WJ := hide wj
  have WK := hide wk
  clear hm hi hj hk ei ej ek wi wj wk
  go_enter Tryd.func8, Tryd.ntmps8
  go_upto_region 2 with (first
    | (have _t := HB1; go_at_call 11; refine (HTR.out _ _).mono ?_; rintro e w2 ⟨rfl, hb2⟩; have HB2 := hide hb2; clear hb2)
    | (go_at_call 11; refine (HTR.out _ _).mono ?_; rintro e w1 ⟨rfl, hb1⟩; have HB1 := hide hb1; clear hb1))
  have HV : Hid (VsAt (w2.alloc (.cells #[.int .i64 0, .int .i64 0, .string { data := #[] }, .bool false, .int .i64 3, .int .i64 0, .string { data := #[] }, .bool false, .int .i64 3, .int .i64 0, .string { data := #[] }, .bool true] 23)) (.slice (some ⟨w2.heap.size, 0, none⟩) 3 3) L3) := vs3 w2
  have HBW := hide (allocW (thenW HB1.out HB2.out) (.cells #[.int .i64 0, .int .i64 0, .string { data := #[] }, .bool false, .int .i64 3, .int .i64 0, .string { data := #[] }, .bool false, .int .i64 3, .int .i64 0, .string { data := #[] }, .bool true] 23))
  generalize w2.alloc (.cells #[.int .i64 0, .int .i64 0, .string { data := #[] }, .bool false, .int .i64 3, .int .i64 0, .string { data := #[] }, .bool false, .int .i64 3, .int .i64 0, .string { data := #[] }, .bool true] 23) = Ws at *
  generalize w2.heap.size = g at *
  clear HB1 HB2
  generalize hX : tri i = X at *
  generalize hY : tri j = Y at *
  generalize hZ : tri k = Z at *
  have HX := hide hX
  have HY := hide hY
  have HZ := hide hZ
  clear hX hY hZ
  have hd0 : Below Ws.heap.size Ws Ws.drew := below_drewN _ _ 1
  refine wp_with_act (fun a0 ha0 => ?_)
  refine Code.wp_mono (Q := fun e a' W => e = .normal ∧ ∃ p8 p9 p10, (Box W p8 X ∧ Box W p9 Y ∧ Box W p10 Z ∧ Below Ws.heap.size Ws W) ∧ a' = ((((((((((((((((((((((((a0.put (some 18) (.slice (some ⟨g, 0, none⟩) 3 3)).put (some 19) (.int .i64 a)).put (some 20) (.int .i64 (a.tmod 3))).put (some 21) (.int .i64 (a.tmod 3 + 3))).put (some 22) (.int .i64 (i : Int))).put (some 23) (.pointer (some ⟨g, 0 + i * 4, none⟩))).put (some 24) (.agg #[.int .i64 X.ty, .int .i64 X.n, .string (strOf X.t), .bool X.b])).put (some 25) (.slice (some ⟨g, 0, none⟩) 3 3)).put (some 26) (.int .i64 b)).put (some 27) (.int .i64 (b.tmod 3))).put (some 28) (.int .i64 (b.tmod 3 + 3))).put (some 29) (.int .i64 (j : Int))).put (some 30) (.pointer (some ⟨g, 0 + j * 4, none⟩))).put (some 31) (.agg #[.int .i64 Y.ty, .int .i64 Y.n, .string (strOf Y.t), .bool Y.b])).put (some 32) (.slice (some ⟨g, 0, none⟩) 3 3)).put (some 33) (.int .i64 c)).put (some 34) (.int .i64 (c.tmod 3))).put (some 35) (.int .i64 (c.tmod 3 + 3))).put (some 36) (.int .i64 (k : Int))).put (some 37) (.pointer (some ⟨g, 0 + k * 4, none⟩))).put (some 38) (.agg #[.int .i64 Z.ty, .int .i64 Z.n, .string (strOf Z.t), .bool Z.b])).put (some 8) (.pointer (some ⟨p8, 0, none⟩))).put (some 9) (.pointer (some ⟨p9, 0, none⟩))).put (some 10) (.pointer (some ⟨p10, 0, none⟩)))) ?cont ?region
  case region =>
    rw [ha0]
    refine wp_region_held_drew (S := fun w' => VsAt w' (.slice (some ⟨g, 0, none⟩) 3 3) L3) (by kernel_rfl) (HV.out.belowW hd0) (fun hH => ?_)
    refine take_to 0 18 (.slice (some ⟨g, 0, none⟩) 3 3) rfl (by kernel_rfl) (by kernel_rfl) (by kernel_rfl) (fun _ _ _ h => (by cases h.1)) rfl (by rfl) (fun w hw => by rfl) hH ?_
    simp only [Act.put, List.setIfInBounds_toArray, List.set_cons_zero, List.set_cons_succ]
    refine take_to 1 19 (.int .i64 a) rfl (by kernel_rfl) (by kernel_rfl) (by kernel_rfl) (fun _ _ _ h => (by cases h.1)) rfl (by rfl) (fun w hw => by rfl) hH ?_
    simp only [Act.put, List.setIfInBounds_toArray, List.set_cons_zero, List.set_cons_succ]
    refine take_to 2 20 (.int .i64 (a.tmod 3)) rfl (by kernel_rfl) (by kernel_rfl) (by kernel_rfl) (fun _ _ _ h => (by cases h.1)) rfl (by rfl) (fun w hw => op_rem3 _ _ (.tmp 19) (.const (.int .i64 3)) _ rfl a 3 rfl rfl _ (by omega) rfl) hH ?_
    simp only [Act.put, List.setIfInBounds_toArray, List.set_cons_zero, List.set_cons_succ]
    refine take_to 3 21 (.int .i64 (a.tmod 3 + 3)) rfl (by kernel_rfl) (by kernel_rfl) (by kernel_rfl) (fun _ _ _ h => (by cases h.1)) rfl (by rfl) (fun w hw => op_add3 _ _ (.tmp 20) (.const (.int .i64 3)) _ rfl (a.tmod 3) 3 rfl rfl _ WI.out) hH ?_
    simp only [Act.put, List.setIfInBounds_toArray, List.set_cons_zero, List.set_cons_succ]
    refine take_to 4 22 (.int .i64 (i : Int)) rfl (by kernel_rfl) (by kernel_rfl) (by kernel_rfl) (fun _ _ _ h => (by cases h.1)) rfl (by rfl) (fun w hw => op_rem3 _ _ (.tmp 21) (.const (.int .i64 3)) _ rfl (a.tmod 3 + 3) 3 rfl rfl _ (by omega) EI.out) hH ?_
    simp only [Act.put, List.setIfInBounds_toArray, List.set_cons_zero, List.set_cons_succ]
    refine take_to 5 23 (.pointer (some ⟨g, 0 + i * 4, none⟩)) rfl (by kernel_rfl) (by kernel_rfl) (by kernel_rfl) (fun _ _ _ h => (by cases h.1)) rfl (by rfl) (fun w hw => op_index _ _ 38 (.tmp 18) (.tmp 22) rfl (.slice (some ⟨g, 0, none⟩) 3 3) (.int .i64 (i : Int)) _ rfl rfl (run_index38 w g 0 3 3 i HI.out)) hH ?_
    simp only [Act.put, List.setIfInBounds_toArray, List.set_cons_zero, List.set_cons_succ]
    refine take_to 6 24 (.agg #[.int .i64 X.ty, .int .i64 X.n, .string (strOf X.t), .bool X.b]) rfl (by kernel_rfl) (by kernel_rfl) (by kernel_rfl) (fun _ _ _ h => (by cases h.1)) rfl (by rfl) (fun w hw => op_load _ _ 23 (.tmp 23) rfl (.pointer (some ⟨g, 0 + i * 4, none⟩)) _ rfl (by have h3 := hw.at3 i HI.out; rw [HX.out] at h3; exact load23c h3)) hH ?_
    simp only [Act.put, List.setIfInBounds_toArray, List.set_cons_zero, List.set_cons_succ]
    refine take_to 7 25 (.slice (some ⟨g, 0, none⟩) 3 3) rfl (by kernel_rfl) (by kernel_rfl) (by kernel_rfl) (fun _ _ _ h => (by cases h.1)) rfl (by rfl) (fun w hw => by rfl) hH ?_
    simp only [Act.put, List.setIfInBounds_toArray, List.set_cons_zero, List.set_cons_succ]
    refine take_to 8 26 (.int .i64 b) rfl (by kernel_rfl) (by kernel_rfl) (by kernel_rfl) (fun _ _ _ h => (by cases h.1)) rfl (by rfl) (fun w hw => by rfl) hH ?_
    simp only [Act.put, List.setIfInBounds_toArray, List.set_cons_zero, List.set_cons_succ]
    refine take_to 9 27 (.int .i64 (b.tmod 3)) rfl (by kernel_rfl) (by kernel_rfl) (by kernel_rfl) (fun _ _ _ h => (by cases h.1)) rfl (by rfl) (fun w hw => op_rem3 _ _ (.tmp 26) (.const (.int .i64 3)) _ rfl b 3 rfl rfl _ (by omega) rfl) hH ?_
    simp only [Act.put, List.setIfInBounds_toArray, List.set_cons_zero, List.set_cons_succ]
    refine take_to 10 28 (.int .i64 (b.tmod 3 + 3)) rfl (by kernel_rfl) (by kernel_rfl) (by kernel_rfl) (fun _ _ _ h => (by cases h.1)) rfl (by rfl) (fun w hw => op_add3 _ _ (.tmp 27) (.const (.int .i64 3)) _ rfl (b.tmod 3) 3 rfl rfl _ WJ.out) hH ?_
    simp only [Act.put, List.setIfInBounds_toArray, List.set_cons_zero, List.set_cons_succ]
    refine take_to 11 29 (.int .i64 (j : Int)) rfl (by kernel_rfl) (by kernel_rfl) (by kernel_rfl) (fun _ _ _ h => (by cases h.1)) rfl (by rfl) (fun w hw => op_rem3 _ _ (.tmp 28) (.const (.int .i64 3)) _ rfl (b.tmod 3 + 3) 3 rfl rfl _ (by omega) EJ.out) hH ?_
    simp only [Act.put, List.setIfInBounds_toArray, List.set_cons_zero, List.set_cons_succ]
    refine take_to 12 30 (.pointer (some ⟨g, 0 + j * 4, none⟩)) rfl (by kernel_rfl) (by kernel_rfl) (by kernel_rfl) (fun _ _ _ h => (by cases h.1)) rfl (by rfl) (fun w hw => op_index _ _ 38 (.tmp 25) (.tmp 29) rfl (.slice (some ⟨g, 0, none⟩) 3 3) (.int .i64 (j : Int)) _ rfl rfl (run_index38 w g 0 3 3 j HJ.out)) hH ?_
    simp only [Act.put, List.setIfInBounds_toArray, List.set_cons_zero, List.set_cons_succ]
    refine take_to 13 31 (.agg #[.int .i64 Y.ty, .int .i64 Y.n, .string (strOf Y.t), .bool Y.b]) rfl (by kernel_rfl) (by kernel_rfl) (by kernel_rfl) (fun _ _ _ h => (by cases h.1)) rfl (by rfl) (fun w hw => op_load _ _ 23 (.tmp 30) rfl (.pointer (some ⟨g, 0 + j * 4, none⟩)) _ rfl (by have h3 := hw.at3 j HJ.out; rw [HY.out] at h3; exact load23c h3)) hH ?_
    simp only [Act.put, List.setIfInBounds_toArray, List.set_cons_zero, List.set_cons_succ]
    refine take_to 14 32 (.slice (some ⟨g, 0, none⟩) 3 3) rfl (by kernel_rfl) (by kernel_rfl) (by kernel_rfl) (fun _ _ _ h => (by cases h.1)) rfl (by rfl) (fun w hw => by rfl) hH ?_
    simp only [Act.put, List.setIfInBounds_toArray, List.set_cons_zero, List.set_cons_succ]
    refine take_to 15 33 (.int .i64 c) rfl (by kernel_rfl) (by kernel_rfl) (by kernel_rfl) (fun _ _ _ h => (by cases h.1)) rfl (by rfl) (fun w hw => by rfl) hH ?_
    simp only [Act.put, List.setIfInBounds_toArray, List.set_cons_zero, List.set_cons_succ]
    refine take_to 16 34 (.int .i64 (c.tmod 3)) rfl (by kernel_rfl) (by kernel_rfl) (by kernel_rfl) (fun _ _ _ h => (by cases h.1)) rfl (by rfl) (fun w hw => op_rem3 _ _ (.tmp 33) (.const (.int .i64 3)) _ rfl c 3 rfl rfl _ (by omega) rfl) hH ?_
    simp only [Act.put, List.setIfInBounds_toArray, List.set_cons_zero, List.set_cons_succ]
    refine take_to 17 35 (.int .i64 (c.tmod 3 + 3)) rfl (by kernel_rfl) (by kernel_rfl) (by kernel_rfl) (fun _ _ _ h => (by cases h.1)) rfl (by rfl) (fun w hw => op_add3 _ _ (.tmp 34) (.const (.int .i64 3)) _ rfl (c.tmod 3) 3 rfl rfl _ WK.out) hH ?_
    simp only [Act.put, List.setIfInBounds_toArray, List.set_cons_zero, List.set_cons_succ]
    refine take_to 18 36 (.int .i64 (k : Int)) rfl (by kernel_rfl) (by kernel_rfl) (by kernel_rfl) (fun _ _ _ h => (by cases h.1)) rfl (by rfl) (fun w hw => op_rem3 _ _ (.tmp 35) (.const (.int .i64 3)) _ rfl (c.tmod 3 + 3) 3 rfl rfl _ (by omega) EK.out) hH ?_
    simp only [Act.put, List.setIfInBounds_toArray, List.set_cons_zero, List.set_cons_succ]
    refine take_to 19 37 (.pointer (some ⟨g, 0 + k * 4, none⟩)) rfl (by kernel_rfl) (by kernel_rfl) (by kernel_rfl) (fun _ _ _ h => (by cases h.1)) rfl (by rfl) (fun w hw => op_index _ _ 38 (.tmp 32) (.tmp 36) rfl (.slice (some ⟨g, 0, none⟩) 3 3) (.int .i64 (k : Int)) _ rfl rfl (run_index38 w g 0 3 3 k HK.out)) hH ?_
    simp only [Act.put, List.setIfInBounds_toArray, List.set_cons_zero, List.set_cons_succ]
    refine take_to 20 38 (.agg #[.int .i64 Z.ty, .int .i64 Z.n, .string (strOf Z.t), .bool Z.b]) rfl (by kernel_rfl) (by kernel_rfl) (by kernel_rfl) (fun _ _ _ h => (by cases h.1)) rfl (by rfl) (fun w hw => op_load _ _ 23 (.tmp 37) rfl (.pointer (some ⟨g, 0 + k * 4, none⟩)) _ rfl (by have h3 := hw.at3 k HK.out; rw [HZ.out] at h3; exact load23c h3)) hH ?_
    simp only [Act.put, List.setIfInBounds_toArray, List.set_cons_zero, List.set_cons_succ]
    generalize Ws.drew = U0 at *
    refine wpAnyH_all (rs := [21, 22, 23]) (by kernel_rfl) (by simp) ?_
    intro n hn
    rcases (by simpa using hn : n = 21 ∨ n = 22 ∨ n = 23) with rfl | rfl | rfl
    · skip
      have hU1 := allocW hd0 (.cells #[.int .i64 0, .int .i64 0, .string { data := #[] }, .bool false] 23)
      refine op_to 8 (.pointer (some ⟨U0.heap.size, 0, none⟩)) (U0.alloc (.cells #[.int .i64 0, .int .i64 0, .string { data := #[] }, .bool false] 23)) rfl rfl (by rfl) (op_alloc23 _ _ rfl _) ⟨HV.out.belowW hU1, ?_⟩
      simp only [Act.put, List.setIfInBounds_toArray, List.set_cons_zero, List.set_cons_succ]
      have f21_1 : Box (U0.alloc (.cells #[.int .i64 0, .int .i64 0, .string { data := #[] }, .bool false] 23)) U0.heap.size Vl.zero := heap_alloc_new _ _
      have hg21 := (hd0).size
      generalize U0.alloc (.cells #[.int .i64 0, .int .i64 0, .string { data := #[] }, .bool false] 23) = U1 at *
      generalize U0.heap.size = p8 at *
      refine wpAnyH_all (rs := [22, 23]) (by kernel_rfl) (by simp) ?_
      intro n hn
      rcases (by simpa using hn : n = 22 ∨ n = 23) with rfl | rfl
      · skip
        have hU2 := allocW hU1 (.cells #[.int .i64 0, .int .i64 0, .string { data := #[] }, .bool false] 23)
        refine op_to 9 (.pointer (some ⟨U1.heap.size, 0, none⟩)) (U1.alloc (.cells #[.int .i64 0, .int .i64 0, .string { data := #[] }, .bool false] 23)) rfl rfl (by rfl) (op_alloc23 _ _ rfl _) ⟨HV.out.belowW hU2, ?_⟩
        simp only [Act.put, List.setIfInBounds_toArray, List.set_cons_zero, List.set_cons_succ]
        have f22_2 : Box (U1.alloc (.cells #[.int .i64 0, .int .i64 0, .string { data := #[] }, .bool false] 23)) U1.heap.size Vl.zero := heap_alloc_new _ _
        have hg22 := (hU1).size
        have f21_1q2 : Box (U1.alloc (.cells #[.int .i64 0, .int .i64 0, .string { data := #[] }, .bool false] 23)) p8 Vl.zero := f21_1.belowW ((Below.refl _ _).alloc (Nat.le_refl _) _)
        have lt21_2 := lt_of_heap f21_1
        generalize U1.alloc (.cells #[.int .i64 0, .int .i64 0, .string { data := #[] }, .bool false] 23) = U2 at *
        generalize U1.heap.size = p9 at *
        have hU3 := allocW hU2 (.cells #[.int .i64 0, .int .i64 0, .string { data := #[] }, .bool false] 23)
        refine step_to 23 10 (.pointer (some ⟨U2.heap.size, 0, none⟩)) (U2.alloc (.cells #[.int .i64 0, .int .i64 0, .string { data := #[] }, .bool false] 23)) rfl (by kernel_rfl) rfl (by rfl) (op_alloc23 _ _ rfl _) (HV.out.belowW hU3) ?_
        simp only [Act.put, List.setIfInBounds_toArray, List.set_cons_zero, List.set_cons_succ]
        have f23_3 : Box (U2.alloc (.cells #[.int .i64 0, .int .i64 0, .string { data := #[] }, .bool false] 23)) U2.heap.size Vl.zero := heap_alloc_new _ _
        have hg23 := (hU2).size
        have f21_1q2q3 : Box (U2.alloc (.cells #[.int .i64 0, .int .i64 0, .string { data := #[] }, .bool false] 23)) p8 Vl.zero := f21_1q2.belowW ((Below.refl _ _).alloc (Nat.le_refl _) _)
        have lt21_3 := lt_of_heap f21_1q2
        have f22_2q3 : Box (U2.alloc (.cells #[.int .i64 0, .int .i64 0, .string { data := #[] }, .bool false] 23)) p9 Vl.zero := f22_2.belowW ((Below.refl _ _).alloc (Nat.le_refl _) _)
        have lt22_3 := lt_of_heap f22_2
        generalize U2.alloc (.cells #[.int .i64 0, .int .i64 0, .string { data := #[] }, .bool false] 23) = U3 at *
        generalize U2.heap.size = p10 at *
        have n1 : p8 ≠ p9 := by first | exact Nat.ne_of_lt (by omega) | exact Nat.ne_of_gt (by omega)
        have n2 : p8 ≠ p10 := by first | exact Nat.ne_of_lt (by omega) | exact Nat.ne_of_gt (by omega)
        have n3 : p9 ≠ p10 := by first | exact Nat.ne_of_lt (by omega) | exact Nat.ne_of_gt (by omega)
        have s1 : Below Ws.heap.size Ws (U3.setRow p8 #[.int .i64 X.ty, .int .i64 X.n, .string (strOf X.t), .bool X.b]) := below_setRow hU3 hg21 _
        have s2 : Below Ws.heap.size Ws ((U3.setRow p8 #[.int .i64 X.ty, .int .i64 X.n, .string (strOf X.t), .bool X.b]).setRow p9 #[.int .i64 Y.ty, .int .i64 Y.n, .string (strOf Y.t), .bool Y.b]) := below_setRow s1 hg22 _
        have s3 : Below Ws.heap.size Ws (((U3.setRow p8 #[.int .i64 X.ty, .int .i64 X.n, .string (strOf X.t), .bool X.b]).setRow p9 #[.int .i64 Y.ty, .int .i64 Y.n, .string (strOf Y.t), .bool Y.b]).setRow p10 #[.int .i64 Z.ty, .int .i64 Z.n, .string (strOf Z.t), .bool Z.b]) := below_setRow s2 hg23 _
        have t9 : Box (U3.setRow p8 #[.int .i64 X.ty, .int .i64 X.n, .string (strOf X.t), .bool X.b]) p9 Vl.zero := f22_2q3.other _ (fun e => n1 e.symm)
        have t10 : Box ((U3.setRow p8 #[.int .i64 X.ty, .int .i64 X.n, .string (strOf X.t), .bool X.b]).setRow p9 #[.int .i64 Y.ty, .int .i64 Y.n, .string (strOf Y.t), .bool Y.b]) p10 Vl.zero := (f23_3.other _ (fun e => n2 e.symm)).other _ (fun e => n3 e.symm)
        have u8 : Box (((U3.setRow p8 #[.int .i64 X.ty, .int .i64 X.n, .string (strOf X.t), .bool X.b]).setRow p9 #[.int .i64 Y.ty, .int .i64 Y.n, .string (strOf Y.t), .bool Y.b]).setRow p10 #[.int .i64 Z.ty, .int .i64 Z.n, .string (strOf Z.t), .bool Z.b]) p8 X := (((Box.after f21_1q2q3 X).other _ n1).other _ n2)
        have u9 : Box (((U3.setRow p8 #[.int .i64 X.ty, .int .i64 X.n, .string (strOf X.t), .bool X.b]).setRow p9 #[.int .i64 Y.ty, .int .i64 Y.n, .string (strOf Y.t), .bool Y.b]).setRow p10 #[.int .i64 Z.ty, .int .i64 Z.n, .string (strOf Z.t), .bool Z.b]) p9 Y := ((Box.after t9 Y).other _ n3)
        have u10 : Box (((U3.setRow p8 #[.int .i64 X.ty, .int .i64 X.n, .string (strOf X.t), .bool X.b]).setRow p9 #[.int .i64 Y.ty, .int .i64 Y.n, .string (strOf Y.t), .bool Y.b]).setRow p10 #[.int .i64 Z.ty, .int .i64 Z.n, .string (strOf Z.t), .bool Z.b]) p10 Z := Box.after t10 Z
        refine step_store_to 24 (U3.setRow p8 #[.int .i64 X.ty, .int .i64 X.n, .string (strOf X.t), .bool X.b]) rfl (by kernel_rfl) rfl (by rfl) 23 (.tmp 8) (.tmp 24) rfl _ _ rfl rfl (store_val f21_1q2q3 X) (HV.out.belowW s1) ?_
        refine step_store_to 25 ((U3.setRow p8 #[.int .i64 X.ty, .int .i64 X.n, .string (strOf X.t), .bool X.b]).setRow p9 #[.int .i64 Y.ty, .int .i64 Y.n, .string (strOf Y.t), .bool Y.b]) rfl (by kernel_rfl) rfl (by rfl) 23 (.tmp 9) (.tmp 31) rfl _ _ rfl rfl (store_val t9 Y) (HV.out.belowW s2) ?_
        refine step_store_to 26 (((U3.setRow p8 #[.int .i64 X.ty, .int .i64 X.n, .string (strOf X.t), .bool X.b]).setRow p9 #[.int .i64 Y.ty, .int .i64 Y.n, .string (strOf Y.t), .bool Y.b]).setRow p10 #[.int .i64 Z.ty, .int .i64 Z.n, .string (strOf Z.t), .bool Z.b]) rfl (by kernel_rfl) rfl (by rfl) 23 (.tmp 10) (.tmp 38) rfl _ _ rfl rfl (store_val t10 Z) (HV.out.belowW s3) ?_
        refine wpAnyH_done (by kernel_rfl) ?_ _
        exact ⟨rfl, _, _, _, ⟨u8, u9, u10, s3⟩, rfl⟩
      · skip
        have hU4 := allocW hU1 (.cells #[.int .i64 0, .int .i64 0, .string { data := #[] }, .bool false] 23)
        refine op_to 10 (.pointer (some ⟨U1.heap.size, 0, none⟩)) (U1.alloc (.cells #[.int .i64 0, .int .i64 0, .string { data := #[] }, .bool false] 23)) rfl rfl (by rfl) (op_alloc23 _ _ rfl _) ⟨HV.out.belowW hU4, ?_⟩
        simp only [Act.put, List.setIfInBounds_toArray, List.set_cons_zero, List.set_cons_succ]
        have f23_4 : Box (U1.alloc (.cells #[.int .i64 0, .int .i64 0, .string { data := #[] }, .bool false] 23)) U1.heap.size Vl.zero := heap_alloc_new _ _
        have hg23 := (hU1).size
        have f21_1q4 : Box (U1.alloc (.cells #[.int .i64 0, .int .i64 0, .string { data := #[] }, .bool false] 23)) p8 Vl.zero := f21_1.belowW ((Below.refl _ _).alloc (Nat.le_refl _) _)
        have lt21_4 := lt_of_heap f21_1
        generalize U1.alloc (.cells #[.int .i64 0, .int .i64 0, .string { data := #[] }, .bool false] 23) = U4 at *
        generalize U1.heap.size = p10 at *
        have hU5 := allocW hU4 (.cells #[.int .i64 0, .int .i64 0, .string { data := #[] }, .bool false] 23)
        refine step_to 22 9 (.pointer (some ⟨U4.heap.size, 0, none⟩)) (U4.alloc (.cells #[.int .i64 0, .int .i64 0, .string { data := #[] }, .bool false] 23)) rfl (by kernel_rfl) rfl (by rfl) (op_alloc23 _ _ rfl _) (HV.out.belowW hU5) ?_
        simp only [Act.put, List.setIfInBounds_toArray, List.set_cons_zero, List.set_cons_succ]
        have f22_5 : Box (U4.alloc (.cells #[.int .i64 0, .int .i64 0, .string { data := #[] }, .bool false] 23)) U4.heap.size Vl.zero := heap_alloc_new _ _
        have hg22 := (hU4).size
        have f21_1q4q5 : Box (U4.alloc (.cells #[.int .i64 0, .int .i64 0, .string { data := #[] }, .bool false] 23)) p8 Vl.zero := f21_1q4.belowW ((Below.refl _ _).alloc (Nat.le_refl _) _)
        have lt21_5 := lt_of_heap f21_1q4
        have f23_4q5 : Box (U4.alloc (.cells #[.int .i64 0, .int .i64 0, .string { data := #[] }, .bool false] 23)) p10 Vl.zero := f23_4.belowW ((Below.refl _ _).alloc (Nat.le_refl _) _)
        have lt23_5 := lt_of_heap f23_4
        generalize U4.alloc (.cells #[.int .i64 0, .int .i64 0, .string { data := #[] }, .bool false] 23) = U5 at *
        generalize U4.heap.size = p9 at *
        have n1 : p8 ≠ p9 := by first | exact Nat.ne_of_lt (by omega) | exact Nat.ne_of_gt (by omega)
        have n2 : p8 ≠ p10 := by first | exact Nat.ne_of_lt (by omega) | exact Nat.ne_of_gt (by omega)
        have n3 : p9 ≠ p10 := by first | exact Nat.ne_of_lt (by omega) | exact Nat.ne_of_gt (by omega)
        have s1 : Below Ws.heap.size Ws (U5.setRow p8 #[.int .i64 X.ty, .int .i64 X.n, .string (strOf X.t), .bool X.b]) := below_setRow hU5 hg21 _
        have s2 : Below Ws.heap.size Ws ((U5.setRow p8 #[.int .i64 X.ty, .int .i64 X.n, .string (strOf X.t), .bool X.b]).setRow p9 #[.int .i64 Y.ty, .int .i64 Y.n, .string (strOf Y.t), .bool Y.b]) := below_setRow s1 hg22 _
        have s3 : Below Ws.heap.size Ws (((U5.setRow p8 #[.int .i64 X.ty, .int .i64 X.n, .string (strOf X.t), .bool X.b]).setRow p9 #[.int .i64 Y.ty, .int .i64 Y.n, .string (strOf Y.t), .bool Y.b]).setRow p10 #[.int .i64 Z.ty, .int .i64 Z.n, .string (strOf Z.t), .bool Z.b]) := below_setRow s2 hg23 _
        have t9 : Box (U5.setRow p8 #[.int .i64 X.ty, .int .i64 X.n, .string (strOf X.t), .bool X.b]) p9 Vl.zero := f22_5.other _ (fun e => n1 e.symm)
        have t10 : Box ((U5.setRow p8 #[.int .i64 X.ty, .int .i64 X.n, .string (strOf X.t), .bool X.b]).setRow p9 #[.int .i64 Y.ty, .int .i64 Y.n, .string (strOf Y.t), .bool Y.b]) p10 Vl.zero := (f23_4q5.other _ (fun e => n2 e.symm)).other _ (fun e => n3 e.symm)
        have u8 : Box (((U5.setRow p8 #[.int .i64 X.ty, .int .i64 X.n, .string (strOf X.t), .bool X.b]).setRow p9 #[.int .i64 Y.ty, .int .i64 Y.n, .string (strOf Y.t), .bool Y.b]).setRow p10 #[.int .i64 Z.ty, .int .i64 Z.n, .string (strOf Z.t), .bool Z.b]) p8 X := (((Box.after f21_1q4q5 X).other _ n1).other _ n2)
        have u9 : Box (((U5.setRow p8 #[.int .i64 X.ty, .int .i64 X.n, .string (strOf X.t), .bool X.b]).setRow p9 #[.int .i64 Y.ty, .int .i64 Y.n, .string (strOf Y.t), .bool Y.b]).setRow p10 #[.int .i64 Z.ty, .int .i64 Z.n, .string (strOf Z.t), .bool Z.b]) p9 Y := ((Box.after t9 Y).other _ n3)
        have u10 : Box (((U5.setRow p8 #[.int .i64 X.ty, .int .i64 X.n, .string (strOf X.t), .bool X.b]).setRow p9 #[.int .i64 Y.ty, .int .i64 Y.n, .string (strOf Y.t), .bool Y.b]).setRow p10 #[.int .i64 Z.ty, .int .i64 Z.n, .string (strOf Z.t), .bool Z.b]) p10 Z := Box.after t10 Z
        refine step_store_to 24 (U5.setRow p8 #[.int .i64 X.ty, .int .i64 X.n, .string (strOf X.t), .bool X.b]) rfl (by kernel_rfl) rfl (by rfl) 23 (.tmp 8) (.tmp 24) rfl _ _ rfl rfl (store_val f21_1q4q5 X) (HV.out.belowW s1) ?_
        refine step_store_to 25 ((U5.setRow p8 #[.int .i64 X.ty, .int .i64 X.n, .string (strOf X.t), .bool X.b]).setRow p9 #[.int .i64 Y.ty, .int .i64 Y.n, .string (strOf Y.t), .bool Y.b]) rfl (by kernel_rfl) rfl (by rfl) 23 (.tmp 9) (.tmp 31) rfl _ _ rfl rfl (store_val t9 Y) (HV.out.belowW s2) ?_
        refine step_store_to 26 (((U5.setRow p8 #[.int .i64 X.ty, .int .i64 X.n, .string (strOf X.t), .bool X.b]).setRow p9 #[.int .i64 Y.ty, .int .i64 Y.n, .string (strOf Y.t), .bool Y.b]).setRow p10 #[.int .i64 Z.ty, .int .i64 Z.n, .string (strOf Z.t), .bool Z.b]) rfl (by kernel_rfl) rfl (by rfl) 23 (.tmp 10) (.tmp 38) rfl _ _ rfl rfl (store_val t10 Z) (HV.out.belowW s3) ?_
        refine wpAnyH_done (by kernel_rfl) ?_ _
        exact ⟨rfl, _, _, _, ⟨u8, u9, u10, s3⟩, rfl⟩
    · skip
      have hU6 := allocW hd0 (.cells #[.int .i64 0, .int .i64 0, .string { data := #[] }, .bool false] 23)
      refine op_to 9 (.pointer (some ⟨U0.heap.size, 0, none⟩)) (U0.alloc (.cells #[.int .i64 0, .int .i64 0, .string { data := #[] }, .bool false] 23)) rfl rfl (by rfl) (op_alloc23 _ _ rfl _) ⟨HV.out.belowW hU6, ?_⟩
      simp only [Act.put, List.setIfInBounds_toArray, List.set_cons_zero, List.set_cons_succ]
      have f22_6 : Box (U0.alloc (.cells #[.int .i64 0, .int .i64 0, .string { data := #[] }, .bool false] 23)) U0.heap.size Vl.zero := heap_alloc_new _ _
      have hg22 := (hd0).size
      generalize U0.alloc (.cells #[.int .i64 0, .int .i64 0, .string { data := #[] }, .bool false] 23) = U6 at *
      generalize U0.heap.size = p9 at *
      refine wpAnyH_all (rs := [21, 23]) (by kernel_rfl) (by simp) ?_
      intro n hn
      rcases (by simpa using hn : n = 21 ∨ n = 23) with rfl | rfl
      · skip
        have hU7 := allocW hU6 (.cells #[.int .i64 0, .int .i64 0, .string { data := #[] }, .bool false] 23)
        refine op_to 8 (.pointer (some ⟨U6.heap.size, 0, none⟩)) (U6.alloc (.cells #[.int .i64 0, .int .i64 0, .string { data := #[] }, .bool false] 23)) rfl rfl (by rfl) (op_alloc23 _ _ rfl _) ⟨HV.out.belowW hU7, ?_⟩
        simp only [Act.put, List.setIfInBounds_toArray, List.set_cons_zero, List.set_cons_succ]
        have f21_7 : Box (U6.alloc (.cells #[.int .i64 0, .int .i64 0, .string { data := #[] }, .bool false] 23)) U6.heap.size Vl.zero := heap_alloc_new _ _
        have hg21 := (hU6).size
        have f22_6q7 : Box (U6.alloc (.cells #[.int .i64 0, .int .i64 0, .string { data := #[] }, .bool false] 23)) p9 Vl.zero := f22_6.belowW ((Below.refl _ _).alloc (Nat.le_refl _) _)
        have lt22_7 := lt_of_heap f22_6
        generalize U6.alloc (.cells #[.int .i64 0, .int .i64 0, .string { data := #[] }, .bool false] 23) = U7 at *
        generalize U6.heap.size = p8 at *
        have hU8 := allocW hU7 (.cells #[.int .i64 0, .int .i64 0, .string { data := #[] }, .bool false] 23)
        refine step_to 23 10 (.pointer (some ⟨U7.heap.size, 0, none⟩)) (U7.alloc (.cells #[.int .i64 0, .int .i64 0, .string { data := #[] }, .bool false] 23)) rfl (by kernel_rfl) rfl (by rfl) (op_alloc23 _ _ rfl _) (HV.out.belowW hU8) ?_
        simp only [Act.put, List.setIfInBounds_toArray, List.set_cons_zero, List.set_cons_succ]
        have f23_8 : Box (U7.alloc (.cells #[.int .i64 0, .int .i64 0, .string { data := #[] }, .bool false] 23)) U7.heap.size Vl.zero := heap_alloc_new _ _
        have hg23 := (hU7).size
        have f22_6q7q8 : Box (U7.alloc (.cells #[.int .i64 0, .int .i64 0, .string { data := #[] }, .bool false] 23)) p9 Vl.zero := f22_6q7.belowW ((Below.refl _ _).alloc (Nat.le_refl _) _)
        have lt22_8 := lt_of_heap f22_6q7
        have f21_7q8 : Box (U7.alloc (.cells #[.int .i64 0, .int .i64 0, .string { data := #[] }, .bool false] 23)) p8 Vl.zero := f21_7.belowW ((Below.refl _ _).alloc (Nat.le_refl _) _)
        have lt21_8 := lt_of_heap f21_7
        generalize U7.alloc (.cells #[.int .i64 0, .int .i64 0, .string { data := #[] }, .bool false] 23) = U8 at *
        generalize U7.heap.size = p10 at *
        have n1 : p8 ≠ p9 := by first | exact Nat.ne_of_lt (by omega) | exact Nat.ne_of_gt (by omega)
        have n2 : p8 ≠ p10 := by first | exact Nat.ne_of_lt (by omega) | exact Nat.ne_of_gt (by omega)
        have n3 : p9 ≠ p10 := by first | exact Nat.ne_of_lt (by omega) | exact Nat.ne_of_gt (by omega)
        have s1 : Below Ws.heap.size Ws (U8.setRow p8 #[.int .i64 X.ty, .int .i64 X.n, .string (strOf X.t), .bool X.b]) := below_setRow hU8 hg21 _
        have s2 : Below Ws.heap.size Ws ((U8.setRow p8 #[.int .i64 X.ty, .int .i64 X.n, .string (strOf X.t), .bool X.b]).setRow p9 #[.int .i64 Y.ty, .int .i64 Y.n, .string (strOf Y.t), .bool Y.b]) := below_setRow s1 hg22 _
        have s3 : Below Ws.heap.size Ws (((U8.setRow p8 #[.int .i64 X.ty, .int .i64 X.n, .string (strOf X.t), .bool X.b]).setRow p9 #[.int .i64 Y.ty, .int .i64 Y.n, .string (strOf Y.t), .bool Y.b]).setRow p10 #[.int .i64 Z.ty, .int .i64 Z.n, .string (strOf Z.t), .bool Z.b]) := below_setRow s2 hg23 _
        have t9 : Box (U8.setRow p8 #[.int .i64 X.ty, .int .i64 X.n, .string (strOf X.t), .bool X.b]) p9 Vl.zero := f22_6q7q8.other _ (fun e => n1 e.symm)
        have t10 : Box ((U8.setRow p8 #[.int .i64 X.ty, .int .i64 X.n, .string (strOf X.t), .bool X.b]).setRow p9 #[.int .i64 Y.ty, .int .i64 Y.n, .string (strOf Y.t), .bool Y.b]) p10 Vl.zero := (f23_8.other _ (fun e => n2 e.symm)).other _ (fun e => n3 e.symm)
        have u8 : Box (((U8.setRow p8 #[.int .i64 X.ty, .int .i64 X.n, .string (strOf X.t), .bool X.b]).setRow p9 #[.int .i64 Y.ty, .int .i64 Y.n, .string (strOf Y.t), .bool Y.b]).setRow p10 #[.int .i64 Z.ty, .int .i64 Z.n, .string (strOf Z.t), .bool Z.b]) p8 X := (((Box.after f21_7q8 X).other _ n1).other _ n2)
        have u9 : Box (((U8.setRow p8 #[.int .i64 X.ty, .int .i64 X.n, .string (strOf X.t), .bool X.b]).setRow p9 #[.int .i64 Y.ty, .int .i64 Y.n, .string (strOf Y.t), .bool Y.b]).setRow p10 #[.int .i64 Z.ty, .int .i64 Z.n, .string (strOf Z.t), .bool Z.b]) p9 Y := ((Box.after t9 Y).other _ n3)
        have u10 : Box (((U8.setRow p8 #[.int .i64 X.ty, .int .i64 X.n, .string (strOf X.t), .bool X.b]).setRow p9 #[.int .i64 Y.ty, .int .i64 Y.n, .string (strOf Y.t), .bool Y.b]).setRow p10 #[.int .i64 Z.ty, .int .i64 Z.n, .string (strOf Z.t), .bool Z.b]) p10 Z := Box.after t10 Z
        refine step_store_to 24 (U8.setRow p8 #[.int .i64 X.ty, .int .i64 X.n, .string (strOf X.t), .bool X.b]) rfl (by kernel_rfl) rfl (by rfl) 23 (.tmp 8) (.tmp 24) rfl _ _ rfl rfl (store_val f21_7q8 X) (HV.out.belowW s1) ?_
        refine step_store_to 25 ((U8.setRow p8 #[.int .i64 X.ty, .int .i64 X.n, .string (strOf X.t), .bool X.b]).setRow p9 #[.int .i64 Y.ty, .int .i64 Y.n, .string (strOf Y.t), .bool Y.b]) rfl (by kernel_rfl) rfl (by rfl) 23 (.tmp 9) (.tmp 31) rfl _ _ rfl rfl (store_val t9 Y) (HV.out.belowW s2) ?_
        refine step_store_to 26 (((U8.setRow p8 #[.int .i64 X.ty, .int .i64 X.n, .string (strOf X.t), .bool X.b]).setRow p9 #[.int .i64 Y.ty, .int .i64 Y.n, .string (strOf Y.t), .bool Y.b]).setRow p10 #[.int .i64 Z.ty, .int .i64 Z.n, .string (strOf Z.t), .bool Z.b]) rfl (by kernel_rfl) rfl (by rfl) 23 (.tmp 10) (.tmp 38) rfl _ _ rfl rfl (store_val t10 Z) (HV.out.belowW s3) ?_
        refine wpAnyH_done (by kernel_rfl) ?_ _
        exact ⟨rfl, _, _, _, ⟨u8, u9, u10, s3⟩, rfl⟩
      · skip
        have hU9 := allocW hU6 (.cells #[.int .i64 0, .int .i64 0, .string { data := #[] }, .bool false] 23)
        refine op_to 10 (.pointer (some ⟨U6.heap.size, 0, none⟩)) (U6.alloc (.cells #[.int .i64 0, .int .i64 0, .string { data := #[] }, .bool false] 23)) rfl rfl (by rfl) (op_alloc23 _ _ rfl _) ⟨HV.out.belowW hU9, ?_⟩
        simp only [Act.put, List.setIfInBounds_toArray, List.set_cons_zero, List.set_cons_succ]
        have f23_9 : Box (U6.alloc (.cells #[.int .i64 0, .int .i64 0, .string { data := #[] }, .bool false] 23)) U6.heap.size Vl.zero := heap_alloc_new _ _
        have hg23 := (hU6).size
        have f22_6q9 : Box (U6.alloc (.cells #[.int .i64 0, .int .i64 0, .string { data := #[] }, .bool false] 23)) p9 Vl.zero := f22_6.belowW ((Below.refl _ _).alloc (Nat.le_refl _) _)
        have lt22_9 := lt_of_heap f22_6
        generalize U6.alloc (.cells #[.int .i64 0, .int .i64 0, .string { data := #[] }, .bool false] 23) = U9 at *
        generalize U6.heap.size = p10 at *
        have hU10 := allocW hU9 (.cells #[.int .i64 0, .int .i64 0, .string { data := #[] }, .bool false] 23)
        refine step_to 21 8 (.pointer (some ⟨U9.heap.size, 0, none⟩)) (U9.alloc (.cells #[.int .i64 0, .int .i64 0, .string { data := #[] }, .bool false] 23)) rfl (by kernel_rfl) rfl (by rfl) (op_alloc23 _ _ rfl _) (HV.out.belowW hU10) ?_
        simp only [Act.put, List.setIfInBounds_toArray, List.set_cons_zero, List.set_cons_succ]
        have f21_10 : Box (U9.alloc (.cells #[.int .i64 0, .int .i64 0, .string { data := #[] }, .bool false] 23)) U9.heap.size Vl.zero := heap_alloc_new _ _
        have hg21 := (hU9).size
        have f22_6q9q10 : Box (U9.alloc (.cells #[.int .i64 0, .int .i64 0, .string { data := #[] }, .bool false] 23)) p9 Vl.zero := f22_6q9.belowW ((Below.refl _ _).alloc (Nat.le_refl _) _)
        have lt22_10 := lt_of_heap f22_6q9
        have f23_9q10 : Box (U9.alloc (.cells #[.int .i64 0, .int .i64 0, .string { data := #[] }, .bool false] 23)) p10 Vl.zero := f23_9.belowW ((Below.refl _ _).alloc (Nat.le_refl _) _)
        have lt23_10 := lt_of_heap f23_9
        generalize U9.alloc (.cells #[.int .i64 0, .int .i64 0, .string { data := #[] }, .bool false] 23) = U10 at *
        generalize U9.heap.size = p8 at *
        have n1 : p8 ≠ p9 := by first | exact Nat.ne_of_lt (by omega) | exact Nat.ne_of_gt (by omega)
        have n2 : p8 ≠ p10 := by first | exact Nat.ne_of_lt (by omega) | exact Nat.ne_of_gt (by omega)
        have n3 : p9 ≠ p10 := by first | exact Nat.ne_of_lt (by omega) | exact Nat.ne_of_gt (by omega)
        have s1 : Below Ws.heap.size Ws (U10.setRow p8 #[.int .i64 X.ty, .int .i64 X.n, .string (strOf X.t), .bool X.b]) := below_setRow hU10 hg21 _
        have s2 : Below Ws.heap.size Ws ((U10.setRow p8 #[.int .i64 X.ty, .int .i64 X.n, .string (strOf X.t), .bool X.b]).setRow p9 #[.int .i64 Y.ty, .int .i64 Y.n, .string (strOf Y.t), .bool Y.b]) := below_setRow s1 hg22 _
        have s3 : Below Ws.heap.size Ws (((U10.setRow p8 #[.int .i64 X.ty, .int .i64 X.n, .string (strOf X.t), .bool X.b]).setRow p9 #[.int .i64 Y.ty, .int .i64 Y.n, .string (strOf Y.t), .bool Y.b]).setRow p10 #[.int .i64 Z.ty, .int .i64 Z.n, .string (strOf Z.t), .bool Z.b]) := below_setRow s2 hg23 _
        have t9 : Box (U10.setRow p8 #[.int .i64 X.ty, .int .i64 X.n, .string (strOf X.t), .bool X.b]) p9 Vl.zero := f22_6q9q10.other _ (fun e => n1 e.symm)
        have t10 : Box ((U10.setRow p8 #[.int .i64 X.ty, .int .i64 X.n, .string (strOf X.t), .bool X.b]).setRow p9 #[.int .i64 Y.ty, .int .i64 Y.n, .string (strOf Y.t), .bool Y.b]) p10 Vl.zero := (f23_9q10.other _ (fun e => n2 e.symm)).other _ (fun e => n3 e.symm)
        have u8 : Box (((U10.setRow p8 #[.int .i64 X.ty, .int .i64 X.n, .string (strOf X.t), .bool X.b]).setRow p9 #[.int .i64 Y.ty, .int .i64 Y.n, .string (strOf Y.t), .bool Y.b]).setRow p10 #[.int .i64 Z.ty, .int .i64 Z.n, .string (strOf Z.t), .bool Z.b]) p8 X := (((Box.after f21_10 X).other _ n1).other _ n2)
        have u9 : Box (((U10.setRow p8 #[.int .i64 X.ty, .int .i64 X.n, .string (strOf X.t), .bool X.b]).setRow p9 #[.int .i64 Y.ty, .int .i64 Y.n, .string (strOf Y.t), .bool Y.b]).setRow p10 #[.int .i64 Z.ty, .int .i64 Z.n, .string (strOf Z.t), .bool Z.b]) p9 Y := ((Box.after t9 Y).other _ n3)
        have u10 : Box (((U10.setRow p8 #[.int .i64 X.ty, .int .i64 X.n, .string (strOf X.t), .bool X.b]).setRow p9 #[.int .i64 Y.ty, .int .i64 Y.n, .string (strOf Y.t), .bool Y.b]).setRow p10 #[.int .i64 Z.ty, .int .i64 Z.n, .string (strOf Z.t), .bool Z.b]) p10 Z := Box.after t10 Z
        refine step_store_to 24 (U10.setRow p8 #[.int .i64 X.ty, .int .i64 X.n, .string (strOf X.t), .bool X.b]) rfl (by kernel_rfl) rfl (by rfl) 23 (.tmp 8) (.tmp 24) rfl _ _ rfl rfl (store_val f21_10 X) (HV.out.belowW s1) ?_
        refine step_store_to 25 ((U10.setRow p8 #[.int .i64 X.ty, .int .i64 X.n, .string (strOf X.t), .bool X.b]).setRow p9 #[.int .i64 Y.ty, .int .i64 Y.n, .string (strOf Y.t), .bool Y.b]) rfl (by kernel_rfl) rfl (by rfl) 23 (.tmp 9) (.tmp 31) rfl _ _ rfl rfl (store_val t9 Y) (HV.out.belowW s2) ?_
        refine step_store_to 26 (((U10.setRow p8 #[.int .i64 X.ty, .int .i64 X.n, .string (strOf X.t), .bool X.b]).setRow p9 #[.int .i64 Y.ty, .int .i64 Y.n, .string (strOf Y.t), .bool Y.b]).setRow p10 #[.int .i64 Z.ty, .int .i64 Z.n, .string (strOf Z.t), .bool Z.b]) rfl (by kernel_rfl) rfl (by rfl) 23 (.tmp 10) (.tmp 38) rfl _ _ rfl rfl (store_val t10 Z) (HV.out.belowW s3) ?_
        refine wpAnyH_done (by kernel_rfl) ?_ _
        exact ⟨rfl, _, _, _, ⟨u8, u9, u10, s3⟩, rfl⟩
    · skip
      have hU11 := allocW hd0 (.cells #[.int .i64 0, .int .i64 0, .string { data := #[] }, .bool false] 23)
      refine op_to 10 (.pointer (some ⟨U0.heap.size, 0, none⟩)) (U0.alloc (.cells #[.int .i64 0, .int .i64 0, .string { data := #[] }, .bool false] 23)) rfl rfl (by rfl) (op_alloc23 _ _ rfl _) ⟨HV.out.belowW hU11, ?_⟩
      simp only [Act.put, List.setIfInBounds_toArray, List.set_cons_zero, List.set_cons_succ]
      have f23_11 : Box (U0.alloc (.cells #[.int .i64 0, .int .i64 0, .string { data := #[] }, .bool false] 23)) U0.heap.size Vl.zero := heap_alloc_new _ _
      have hg23 := (hd0).size
      generalize U0.alloc (.cells #[.int .i64 0, .int .i64 0, .string { data := #[] }, .bool false] 23) = U11 at *
      generalize U0.heap.size = p10 at *
      refine wpAnyH_all (rs := [21, 22]) (by kernel_rfl) (by simp) ?_
      intro n hn
      rcases (by simpa using hn : n = 21 ∨ n = 22) with rfl | rfl
      · skip
        have hU12 := allocW hU11 (.cells #[.int .i64 0, .int .i64 0, .string { data := #[] }, .bool false] 23)
        refine op_to 8 (.pointer (some ⟨U11.heap.size, 0, none⟩)) (U11.alloc (.cells #[.int .i64 0, .int .i64 0, .string { data := #[] }, .bool false] 23)) rfl rfl (by rfl) (op_alloc23 _ _ rfl _) ⟨HV.out.belowW hU12, ?_⟩
        simp only [Act.put, List.setIfInBounds_toArray, List.set_cons_zero, List.set_cons_succ]
        have f21_12 : Box (U11.alloc (.cells #[.int .i64 0, .int .i64 0, .string { data := #[] }, .bool false] 23)) U11.heap.size Vl.zero := heap_alloc_new _ _
        have hg21 := (hU11).size
        have f23_11q12 : Box (U11.alloc (.cells #[.int .i64 0, .int .i64 0, .string { data := #[] }, .bool false] 23)) p10 Vl.zero := f23_11.belowW ((Below.refl _ _).alloc (Nat.le_refl _) _)
        have lt23_12 := lt_of_heap f23_11
        generalize U11.alloc (.cells #[.int .i64 0, .int .i64 0, .string { data := #[] }, .bool false] 23) = U12 at *
        generalize U11.heap.size = p8 at *
        have hU13 := allocW hU12 (.cells #[.int .i64 0, .int .i64 0, .string { data := #[] }, .bool false] 23)
        refine step_to 22 9 (.pointer (some ⟨U12.heap.size, 0, none⟩)) (U12.alloc (.cells #[.int .i64 0, .int .i64 0, .string { data := #[] }, .bool false] 23)) rfl (by kernel_rfl) rfl (by rfl) (op_alloc23 _ _ rfl _) (HV.out.belowW hU13) ?_
        simp only [Act.put, List.setIfInBounds_toArray, List.set_cons_zero, List.set_cons_succ]
        have f22_13 : Box (U12.alloc (.cells #[.int .i64 0, .int .i64 0, .string { data := #[] }, .bool false] 23)) U12.heap.size Vl.zero := heap_alloc_new _ _
        have hg22 := (hU12).size
        have f23_11q12q13 : Box (U12.alloc (.cells #[.int .i64 0, .int .i64 0, .string { data := #[] }, .bool false] 23)) p10 Vl.zero := f23_11q12.belowW ((Below.refl _ _).alloc (Nat.le_refl _) _)
        have lt23_13 := lt_of_heap f23_11q12
        have f21_12q13 : Box (U12.alloc (.cells #[.int .i64 0, .int .i64 0, .string { data := #[] }, .bool false] 23)) p8 Vl.zero := f21_12.belowW ((Below.refl _ _).alloc (Nat.le_refl _) _)
        have lt21_13 := lt_of_heap f21_12
        generalize U12.alloc (.cells #[.int .i64 0, .int .i64 0, .string { data := #[] }, .bool false] 23) = U13 at *
        generalize U12.heap.size = p9 at *
        have n1 : p8 ≠ p9 := by first | exact Nat.ne_of_lt (by omega) | exact Nat.ne_of_gt (by omega)
        have n2 : p8 ≠ p10 := by first | exact Nat.ne_of_lt (by omega) | exact Nat.ne_of_gt (by omega)
        have n3 : p9 ≠ p10 := by first | exact Nat.ne_of_lt (by omega) | exact Nat.ne_of_gt (by omega)
        have s1 : Below Ws.heap.size Ws (U13.setRow p8 #[.int .i64 X.ty, .int .i64 X.n, .string (strOf X.t), .bool X.b]) := below_setRow hU13 hg21 _
        have s2 : Below Ws.heap.size Ws ((U13.setRow p8 #[.int .i64 X.ty, .int .i64 X.n, .string (strOf X.t), .bool X.b]).setRow p9 #[.int .i64 Y.ty, .int .i64 Y.n, .string (strOf Y.t), .bool Y.b]) := below_setRow s1 hg22 _
        have s3 : Below Ws.heap.size Ws (((U13.setRow p8 #[.int .i64 X.ty, .int .i64 X.n, .string (strOf X.t), .bool X.b]).setRow p9 #[.int .i64 Y.ty, .int .i64 Y.n, .string (strOf Y.t), .bool Y.b]).setRow p10 #[.int .i64 Z.ty, .int .i64 Z.n, .string (strOf Z.t), .bool Z.b]) := below_setRow s2 hg23 _
        have t9 : Box (U13.setRow p8 #[.int .i64 X.ty, .int .i64 X.n, .string (strOf X.t), .bool X.b]) p9 Vl.zero := f22_13.other _ (fun e => n1 e.symm)
        have t10 : Box ((U13.setRow p8 #[.int .i64 X.ty, .int .i64 X.n, .string (strOf X.t), .bool X.b]).setRow p9 #[.int .i64 Y.ty, .int .i64 Y.n, .string (strOf Y.t), .bool Y.b]) p10 Vl.zero := (f23_11q12q13.other _ (fun e => n2 e.symm)).other _ (fun e => n3 e.symm)
        have u8 : Box (((U13.setRow p8 #[.int .i64 X.ty, .int .i64 X.n, .string (strOf X.t), .bool X.b]).setRow p9 #[.int .i64 Y.ty, .int .i64 Y.n, .string (strOf Y.t), .bool Y.b]).setRow p10 #[.int .i64 Z.ty, .int .i64 Z.n, .string (strOf Z.t), .bool Z.b]) p8 X := (((Box.after f21_12q13 X).other _ n1).other _ n2)
        have u9 : Box (((U13.setRow p8 #[.int .i64 X.ty, .int .i64 X.n, .string (strOf X.t), .bool X.b]).setRow p9 #[.int .i64 Y.ty, .int .i64 Y.n, .string (strOf Y.t), .bool Y.b]).setRow p10 #[.int .i64 Z.ty, .int .i64 Z.n, .string (strOf Z.t), .bool Z.b]) p9 Y := ((Box.after t9 Y).other _ n3)
        have u10 : Box (((U13.setRow p8 #[.int .i64 X.ty, .int .i64 X.n, .string (strOf X.t), .bool X.b]).setRow p9 #[.int .i64 Y.ty, .int .i64 Y.n, .string (strOf Y.t), .bool Y.b]).setRow p10 #[.int .i64 Z.ty, .int .i64 Z.n, .string (strOf Z.t), .bool Z.b]) p10 Z := Box.after t10 Z
        refine step_store_to 24 (U13.setRow p8 #[.int .i64 X.ty, .int .i64 X.n, .string (strOf X.t), .bool X.b]) rfl (by kernel_rfl) rfl (by rfl) 23 (.tmp 8) (.tmp 24) rfl _ _ rfl rfl (store_val f21_12q13 X) (HV.out.belowW s1) ?_
        refine step_store_to 25 ((U13.setRow p8 #[.int .i64 X.ty, .int .i64 X.n, .string (strOf X.t), .bool X.b]).setRow p9 #[.int .i64 Y.ty, .int .i64 Y.n, .string (strOf Y.t), .bool Y.b]) rfl (by kernel_rfl) rfl (by rfl) 23 (.tmp 9) (.tmp 31) rfl _ _ rfl rfl (store_val t9 Y) (HV.out.belowW s2) ?_
        refine step_store_to 26 (((U13.setRow p8 #[.int .i64 X.ty, .int .i64 X.n, .string (strOf X.t), .bool X.b]).setRow p9 #[.int .i64 Y.ty, .int .i64 Y.n, .string (strOf Y.t), .bool Y.b]).setRow p10 #[.int .i64 Z.ty, .int .i64 Z.n, .string (strOf Z.t), .bool Z.b]) rfl (by kernel_rfl) rfl (by rfl) 23 (.tmp 10) (.tmp 38) rfl _ _ rfl rfl (store_val t10 Z) (HV.out.belowW s3) ?_
        refine wpAnyH_done (by kernel_rfl) ?_ _
        exact ⟨rfl, _, _, _, ⟨u8, u9, u10, s3⟩, rfl⟩
      · skip
        have hU14 := allocW hU11 (.cells #[.int .i64 0, .int .i64 0, .string { data := #[] }, .bool false] 23)
        refine op_to 9 (.pointer (some ⟨U11.heap.size, 0, none⟩)) (U11.alloc (.cells #[.int .i64 0, .int .i64 0, .string { data := #[] }, .bool false] 23)) rfl rfl (by rfl) (op_alloc23 _ _ rfl _) ⟨HV.out.belowW hU14, ?_⟩
        simp only [Act.put, List.setIfInBounds_toArray, List.set_cons_zero, List.set_cons_succ]
        have f22_14 : Box (U11.alloc (.cells #[.int .i64 0, .int .i64 0, .string { data := #[] }, .bool false] 23)) U11.heap.size Vl.zero := heap_alloc_new _ _
        have hg22 := (hU11).size
        have f23_11q14 : Box (U11.alloc (.cells #[.int .i64 0, .int .i64 0, .string { data := #[] }, .bool false] 23)) p10 Vl.zero := f23_11.belowW ((Below.refl _ _).alloc (Nat.le_refl _) _)
        have lt23_14 := lt_of_heap f23_11
        generalize U11.alloc (.cells #[.int .i64 0, .int .i64 0, .string { data := #[] }, .bool false] 23) = U14 at *
        generalize U11.heap.size = p9 at *
        have hU15 := allocW hU14 (.cells #[.int .i64 0, .int .i64 0, .string { data := #[] }, .bool false] 23)
        refine step_to 21 8 (.pointer (some ⟨U14.heap.size, 0, none⟩)) (U14.alloc (.cells #[.int .i64 0, .int .i64 0, .string { data := #[] }, .bool false] 23)) rfl (by kernel_rfl) rfl (by rfl) (op_alloc23 _ _ rfl _) (HV.out.belowW hU15) ?_
        simp only [Act.put, List.setIfInBounds_toArray, List.set_cons_zero, List.set_cons_succ]
        have f21_15 : Box (U14.alloc (.cells #[.int .i64 0, .int .i64 0, .string { data := #[] }, .bool false] 23)) U14.heap.size Vl.zero := heap_alloc_new _ _
        have hg21 := (hU14).size
        have f23_11q14q15 : Box (U14.alloc (.cells #[.int .i64 0, .int .i64 0, .string { data := #[] }, .bool false] 23)) p10 Vl.zero := f23_11q14.belowW ((Below.refl _ _).alloc (Nat.le_refl _) _)
        have lt23_15 := lt_of_heap f23_11q14
        have f22_14q15 : Box (U14.alloc (.cells #[.int .i64 0, .int .i64 0, .string { data := #[] }, .bool false] 23)) p9 Vl.zero := f22_14.belowW ((Below.refl _ _).alloc (Nat.le_refl _) _)
        have lt22_15 := lt_of_heap f22_14
        generalize U14.alloc (.cells #[.int .i64 0, .int .i64 0, .string { data := #[] }, .bool false] 23) = U15 at *
        generalize U14.heap.size = p8 at *
        have n1 : p8 ≠ p9 := by first | exact Nat.ne_of_lt (by omega) | exact Nat.ne_of_gt (by omega)
        have n2 : p8 ≠ p10 := by first | exact Nat.ne_of_lt (by omega) | exact Nat.ne_of_gt (by omega)
        have n3 : p9 ≠ p10 := by first | exact Nat.ne_of_lt (by omega) | exact Nat.ne_of_gt (by omega)
        have s1 : Below Ws.heap.size Ws (U15.setRow p8 #[.int .i64 X.ty, .int .i64 X.n, .string (strOf X.t), .bool X.b]) := below_setRow hU15 hg21 _
        have s2 : Below Ws.heap.size Ws ((U15.setRow p8 #[.int .i64 X.ty, .int .i64 X.n, .string (strOf X.t), .bool X.b]).setRow p9 #[.int .i64 Y.ty, .int .i64 Y.n, .string (strOf Y.t), .bool Y.b]) := below_setRow s1 hg22 _
        have s3 : Below Ws.heap.size Ws (((U15.setRow p8 #[.int .i64 X.ty, .int .i64 X.n, .string (strOf X.t), .bool X.b]).setRow p9 #[.int .i64 Y.ty, .int .i64 Y.n, .string (strOf Y.t), .bool Y.b]).setRow p10 #[.int .i64 Z.ty, .int .i64 Z.n, .string (strOf Z.t), .bool Z.b]) := below_setRow s2 hg23 _
        have t9 : Box (U15.setRow p8 #[.int .i64 X.ty, .int .i64 X.n, .string (strOf X.t), .bool X.b]) p9 Vl.zero := f22_14q15.other _ (fun e => n1 e.symm)
        have t10 : Box ((U15.setRow p8 #[.int .i64 X.ty, .int .i64 X.n, .string (strOf X.t), .bool X.b]).setRow p9 #[.int .i64 Y.ty, .int .i64 Y.n, .string (strOf Y.t), .bool Y.b]) p10 Vl.zero := (f23_11q14q15.other _ (fun e => n2 e.symm)).other _ (fun e => n3 e.symm)
        have u8 : Box (((U15.setRow p8 #[.int .i64 X.ty, .int .i64 X.n, .string (strOf X.t), .bool X.b]).setRow p9 #[.int .i64 Y.ty, .int .i64 Y.n, .string (strOf Y.t), .bool Y.b]).setRow p10 #[.int .i64 Z.ty, .int .i64 Z.n, .string (strOf Z.t), .bool Z.b]) p8 X := (((Box.after f21_15 X).other _ n1).other _ n2)
        have u9 : Box (((U15.setRow p8 #[.int .i64 X.ty, .int .i64 X.n, .string (strOf X.t), .bool X.b]).setRow p9 #[.int .i64 Y.ty, .int .i64 Y.n, .string (strOf Y.t), .bool Y.b]).setRow p10 #[.int .i64 Z.ty, .int .i64 Z.n, .string (strOf Z.t), .bool Z.b]) p9 Y := ((Box.after t9 Y).other _ n3)
        have u10 : Box (((U15.setRow p8 #[.int .i64 X.ty, .int .i64 X.n, .string (strOf X.t), .bool X.b]).setRow p9 #[.int .i64 Y.ty, .int .i64 Y.n, .string (strOf Y.t), .bool Y.b]).setRow p10 #[.int .i64 Z.ty, .int .i64 Z.n, .string (strOf Z.t), .bool Z.b]) p10 Z := Box.after t10 Z
        refine step_store_to 24 (U15.setRow p8 #[.int .i64 X.ty, .int .i64 X.n, .string (strOf X.t), .bool X.b]) rfl (by kernel_rfl) rfl (by rfl) 23 (.tmp 8) (.tmp 24) rfl _ _ rfl rfl (store_val f21_15 X) (HV.out.belowW s1) ?_
        refine step_store_to 25 ((U15.setRow p8 #[.int .i64 X.ty, .int .i64 X.n, .string (strOf X.t), .bool X.b]).setRow p9 #[.int .i64 Y.ty, .int .i64 Y.n, .string (strOf Y.t), .bool Y.b]) rfl (by kernel_rfl) rfl (by rfl) 23 (.tmp 9) (.tmp 31) rfl _ _ rfl rfl (store_val t9 Y) (HV.out.belowW s2) ?_
        refine step_store_to 26 (((U15.setRow p8 #[.int .i64 X.ty, .int .i64 X.n, .string (strOf X.t), .bool X.b]).setRow p9 #[.int .i64 Y.ty, .int .i64 Y.n, .string (strOf Y.t), .bool Y.b]).setRow p10 #[.int .i64 Z.ty, .int .i64 Z.n, .string (strOf Z.t), .bool Z.b]) rfl (by kernel_rfl) rfl (by rfl) 23 (.tmp 10) (.tmp 38) rfl _ _ rfl rfl (store_val t10 Z) (HV.out.belowW s3) ?_
        refine wpAnyH_done (by kernel_rfl) ?_ _
        exact ⟨rfl, _, _, _, ⟨u8, u9, u10, s3⟩, rfl⟩
  case cont =>
    rintro e a' W ⟨rfl, p8, p9, p10, ⟨hX, hY, hZ, hb⟩, ha'⟩
    rw [ha', ha0]
    simp only [Act.put, List.setIfInBounds_toArray, List.set_cons_zero, List.set_cons_succ]
    clear ha' ha0 HX HY HZ EI EJ EK WI WJ WK HI HJ HK HV
    have HF := hide (thenW HBW.out hb)
    have GX := hide hX
    have GY := hide hY
    have GZ := hide hZ
    clear hX hY hZ hb HBW hd0
    obtain ⟨g1, g2, g3, g4, g5, g6, g7⟩ := HLG.out
    have HCA : Hid (∀ A B W, Calls Tryd.prog 33 #[.agg #[.int .i64 (A : Vl).ty, .int .i64 A.n, .string (strOf A.t), .bool A.b], .agg #[.int .i64 (B : Vl).ty, .int .i64 B.n, .string (strOf B.t), .bool B.b]] W fun e w' => e = .returned (.agg #[.int .i64 (aV A B).ty, .int .i64 (aV A B).n, .string (strOf (aV A B).t), .bool (aV A B).b]) ∧ Below W.heap.size W w') := clAnd_any
    have HCO : Hid (∀ A B W, Calls Tryd.prog 34 #[.agg #[.int .i64 (A : Vl).ty, .int .i64 A.n, .string (strOf A.t), .bool A.b], .agg #[.int .i64 (B : Vl).ty, .int .i64 B.n, .string (strOf B.t), .bool B.b]] W fun e w' => e = .returned (.agg #[.int .i64 (oV A B).ty, .int .i64 (oV A B).n, .string (strOf (oV A B).t), .bool (oV A B).b]) ∧ Below W.heap.size W w') := clOr_any
    have HCN : Hid (∀ A W, Calls Tryd.prog 35 #[.agg #[.int .i64 (A : Vl).ty, .int .i64 A.n, .string (strOf A.t), .bool A.b]] W fun e w' => e = .returned (.agg #[.int .i64 (nT A).ty, .int .i64 (nT A).n, .string (strOf (nT A).t), .bool (nT A).b]) ∧ Below W.heap.size W w') := clNot_any
    go_upto_region 6 with fail
    have hB0 : Below w.heap.size w W.drew := HF.out.trans (below_drewN _ _ 1)
    have hS0 : TriS p8 p9 p10 X Y Z W.drew := ⟨GX.out, GY.out, GZ.out⟩
    refine wp_region_held_drew (S := TriS p8 p9 p10 X Y Z) (by kernel_rfl) hS0 (fun hH => ?_)
    refine take_to 0 39 (.func (.func 33) #[] #[]) rfl (by as_aux_lemma => kernel_rfl) (by as_aux_lemma => kernel_rfl) (by as_aux_lemma => kernel_rfl) (fun _ _ _ h => h) rfl (by rfl) (fun w hw => by rfl) hH ?_
    simp only [Act.put, List.setIfInBounds_toArray, List.set_cons_zero, List.set_cons_succ]
    refine take_to 1 40 (.agg #[.int .i64 X.ty, .int .i64 X.n, .string (strOf X.t), .bool X.b]) rfl (by as_aux_lemma => kernel_rfl) (by as_aux_lemma => kernel_rfl) (by as_aux_lemma => kernel_rfl) (fun _ _ _ h => h) rfl (by rfl) (fun w hw => op_load _ _ 23 (.tmp 8) rfl (.pointer (some ⟨p8, 0, none⟩)) _ rfl (load23 hw.x)) hH ?_
    simp only [Act.put, List.setIfInBounds_toArray, List.set_cons_zero, List.set_cons_succ]
    refine take_to 2 41 (.agg #[.int .i64 Y.ty, .int .i64 Y.n, .string (strOf Y.t), .bool Y.b]) rfl (by as_aux_lemma => kernel_rfl) (by as_aux_lemma => kernel_rfl) (by as_aux_lemma => kernel_rfl) (fun _ _ _ h => h) rfl (by rfl) (fun w hw => op_load _ _ 23 (.tmp 9) rfl (.pointer (some ⟨p9, 0, none⟩)) _ rfl (load23 hw.y)) hH ?_
    simp only [Act.put, List.setIfInBounds_toArray, List.set_cons_zero, List.set_cons_succ]
    refine take_to 4 43 (.func (.func 33) #[] #[]) rfl (by as_aux_lemma => kernel_rfl) (by as_aux_lemma => kernel_rfl) (by as_aux_lemma => kernel_rfl) (fun _ _ _ h => h) rfl (by rfl) (fun w hw => by rfl) hH ?_
    simp only [Act.put, List.setIfInBounds_toArray, List.set_cons_zero, List.set_cons_succ]
    refine take_to 5 44 (.agg #[.int .i64 Y.ty, .int .i64 Y.n, .string (strOf Y.t), .bool Y.b]) rfl (by as_aux_lemma => kernel_rfl) (by as_aux_lemma => kernel_rfl) (by as_aux_lemma => kernel_rfl) (fun _ _ _ h => h) rfl (by rfl) (fun w hw => op_load _ _ 23 (.tmp 9) rfl (.pointer (some ⟨p9, 0, none⟩)) _ rfl (load23 hw.y)) hH ?_
    simp only [Act.put, List.setIfInBounds_toArray, List.set_cons_zero, List.set_cons_succ]
    refine take_to 6 45 (.agg #[.int .i64 X.ty, .int .i64 X.n, .string (strOf X.t), .bool X.b]) rfl (by as_aux_lemma => kernel_rfl) (by as_aux_lemma => kernel_rfl) (by as_aux_lemma => kernel_rfl) (fun _ _ _ h => h) rfl (by rfl) (fun w hw => op_load _ _ 23 (.tmp 8) rfl (.pointer (some ⟨p8, 0, none⟩)) _ rfl (load23 hw.x)) hH ?_
    simp only [Act.put, List.setIfInBounds_toArray, List.set_cons_zero, List.set_cons_succ]
    refine step_callv2_to 3 42 33 rfl (by as_aux_lemma => kernel_rfl) rfl (by rfl) (.tmp 39) (.tmp 40) (.tmp 41) _ rfl rfl _ _ rfl rfl Tryd.enters33 (HCA.out X Y _) ?_
    rintro e u1 ⟨rfl, hb1⟩
    have hS1 := hH.belowW hb1
    have hB1 := thenW hB0 hb1
    refine ⟨_, rfl, hS1, ?_⟩
    simp only [Act.put, List.setIfInBounds_toArray, List.set_cons_zero, List.set_cons_succ]
    refine step_callv2_to 7 46 33 rfl (by as_aux_lemma => kernel_rfl) rfl (by rfl) (.tmp 43) (.tmp 44) (.tmp 45) _ rfl rfl _ _ rfl rfl Tryd.enters33 (HCA.out Y X _) ?_
    rintro e u2 ⟨rfl, hb2⟩
    have hS2 := hS1.belowW hb2
    have hB2 := thenW hB1 hb2
    refine ⟨_, rfl, hS2, ?_⟩
    simp only [Act.put, List.setIfInBounds_toArray, List.set_cons_zero, List.set_cons_succ]
    refine step_to 8 47 (.bool true) _ rfl (by as_aux_lemma => kernel_rfl) rfl (by rfl) (op_eqlAB _ _ (.tmp 42) (.tmp 46) _ rfl (aV X Y) (aV Y X) g1.symm rfl rfl) hS2 ?_
    simp only [Act.put, List.setIfInBounds_toArray, List.set_cons_zero, List.set_cons_succ]
    refine step_to 9 48 (.bool true) _ rfl (by as_aux_lemma => kernel_rfl) rfl (by rfl) (rfl) hS2 ?_
    simp only [Act.put, List.setIfInBounds_toArray, List.set_cons_zero, List.set_cons_succ]
    refine take_to 10 49 (.func (.func 34) #[] #[]) rfl (by as_aux_lemma => kernel_rfl) (by as_aux_lemma => kernel_rfl) (by as_aux_lemma => kernel_rfl) (fun _ _ _ h => h) rfl (by rfl) (fun w hw => by rfl) hS2 ?_
    simp only [Act.put, List.setIfInBounds_toArray, List.set_cons_zero, List.set_cons_succ]
    refine take_to 11 50 (.agg #[.int .i64 X.ty, .int .i64 X.n, .string (strOf X.t), .bool X.b]) rfl (by as_aux_lemma => kernel_rfl) (by as_aux_lemma => kernel_rfl) (by as_aux_lemma => kernel_rfl) (fun _ _ _ h => h) rfl (by rfl) (fun w hw => op_load _ _ 23 (.tmp 8) rfl (.pointer (some ⟨p8, 0, none⟩)) _ rfl (load23 hw.x)) hS2 ?_
    simp only [Act.put, List.setIfInBounds_toArray, List.set_cons_zero, List.set_cons_succ]
    refine take_to 12 51 (.agg #[.int .i64 Y.ty, .int .i64 Y.n, .string (strOf Y.t), .bool Y.b]) rfl (by as_aux_lemma => kernel_rfl) (by as_aux_lemma => kernel_rfl) (by as_aux_lemma => kernel_rfl) (fun _ _ _ h => h) rfl (by rfl) (fun w hw => op_load _ _ 23 (.tmp 9) rfl (.pointer (some ⟨p9, 0, none⟩)) _ rfl (load23 hw.y)) hS2 ?_
    simp only [Act.put, List.setIfInBounds_toArray, List.set_cons_zero, List.set_cons_succ]
    refine take_to 14 53 (.func (.func 34) #[] #[]) rfl (by as_aux_lemma => kernel_rfl) (by as_aux_lemma => kernel_rfl) (by as_aux_lemma => kernel_rfl) (fun _ _ _ h => h) rfl (by rfl) (fun w hw => by rfl) hS2 ?_
    simp only [Act.put, List.setIfInBounds_toArray, List.set_cons_zero, List.set_cons_succ]
    refine take_to 15 54 (.agg #[.int .i64 Y.ty, .int .i64 Y.n, .string (strOf Y.t), .bool Y.b]) rfl (by as_aux_lemma => kernel_rfl) (by as_aux_lemma => kernel_rfl) (by as_aux_lemma => kernel_rfl) (fun _ _ _ h => h) rfl (by rfl) (fun w hw => op_load _ _ 23 (.tmp 9) rfl (.pointer (some ⟨p9, 0, none⟩)) _ rfl (load23 hw.y)) hS2 ?_
    simp only [Act.put, List.setIfInBounds_toArray, List.set_cons_zero, List.set_cons_succ]
    refine take_to 16 55 (.agg #[.int .i64 X.ty, .int .i64 X.n, .string (strOf X.t), .bool X.b]) rfl (by as_aux_lemma => kernel_rfl) (by as_aux_lemma => kernel_rfl) (by as_aux_lemma => kernel_rfl) (fun _ _ _ h => h) rfl (by rfl) (fun w hw => op_load _ _ 23 (.tmp 8) rfl (.pointer (some ⟨p8, 0, none⟩)) _ rfl (load23 hw.x)) hS2 ?_
    simp only [Act.put, List.setIfInBounds_toArray, List.set_cons_zero, List.set_cons_succ]
    refine step_callv2_to 13 52 34 rfl (by as_aux_lemma => kernel_rfl) rfl (by rfl) (.tmp 49) (.tmp 50) (.tmp 51) _ rfl rfl _ _ rfl rfl Tryd.enters34 (HCO.out X Y _) ?_
    rintro e u3 ⟨rfl, hb3⟩
    have hS3 := hS2.belowW hb3
    have hB3 := thenW hB2 hb3
    refine ⟨_, rfl, hS3, ?_⟩
    simp only [Act.put, List.setIfInBounds_toArray, List.set_cons_zero, List.set_cons_succ]
    refine step_callv2_to 17 56 34 rfl (by as_aux_lemma => kernel_rfl) rfl (by rfl) (.tmp 53) (.tmp 54) (.tmp 55) _ rfl rfl _ _ rfl rfl Tryd.enters34 (HCO.out Y X _) ?_
    rintro e u4 ⟨rfl, hb4⟩
    have hS4 := hS3.belowW hb4
    have hB4 := thenW hB3 hb4
    refine ⟨_, rfl, hS4, ?_⟩
    simp only [Act.put, List.setIfInBounds_toArray, List.set_cons_zero, List.set_cons_succ]
    refine step_to 18 57 (.bool true) _ rfl (by as_aux_lemma => kernel_rfl) rfl (by rfl) (op_eqlAB _ _ (.tmp 52) (.tmp 56) _ rfl (oV X Y) (oV Y X) g2.symm rfl rfl) hS4 ?_
    simp only [Act.put, List.setIfInBounds_toArray, List.set_cons_zero, List.set_cons_succ]
    refine step_to 19 58 (.bool true) _ rfl (by as_aux_lemma => kernel_rfl) rfl (by rfl) (rfl) hS4 ?_
    simp only [Act.put, List.setIfInBounds_toArray, List.set_cons_zero, List.set_cons_succ]
    refine step_to 20 59 (.bool true) _ rfl (by as_aux_lemma => kernel_rfl) rfl (by rfl) (rfl) hS4 ?_
    simp only [Act.put, List.setIfInBounds_toArray, List.set_cons_zero, List.set_cons_succ]
    refine take_to 21 60 (.func (.func 35) #[] #[]) rfl (by as_aux_lemma => kernel_rfl) (by as_aux_lemma => kernel_rfl) (by as_aux_lemma => kernel_rfl) (fun _ _ _ h => h) rfl (by rfl) (fun w hw => by rfl) hS4 ?_
    simp only [Act.put, List.setIfInBounds_toArray, List.set_cons_zero, List.set_cons_succ]
    refine take_to 22 61 (.func (.func 33) #[] #[]) rfl (by as_aux_lemma => kernel_rfl) (by as_aux_lemma => kernel_rfl) (by as_aux_lemma => kernel_rfl) (fun _ _ _ h => h) rfl (by rfl) (fun w hw => by rfl) hS4 ?_
    simp only [Act.put, List.setIfInBounds_toArray, List.set_cons_zero, List.set_cons_succ]
    refine take_to 23 62 (.agg #[.int .i64 X.ty, .int .i64 X.n, .string (strOf X.t), .bool X.b]) rfl (by as_aux_lemma => kernel_rfl) (by as_aux_lemma => kernel_rfl) (by as_aux_lemma => kernel_rfl) (fun _ _ _ h => h) rfl (by rfl) (fun w hw => op_load _ _ 23 (.tmp 8) rfl (.pointer (some ⟨p8, 0, none⟩)) _ rfl (load23 hw.x)) hS4 ?_
    simp only [Act.put, List.setIfInBounds_toArray, List.set_cons_zero, List.set_cons_succ]
    refine take_to 24 63 (.agg #[.int .i64 Y.ty, .int .i64 Y.n, .string (strOf Y.t), .bool Y.b]) rfl (by as_aux_lemma => kernel_rfl) (by as_aux_lemma => kernel_rfl) (by as_aux_lemma => kernel_rfl) (fun _ _ _ h => h) rfl (by rfl) (fun w hw => op_load _ _ 23 (.tmp 9) rfl (.pointer (some ⟨p9, 0, none⟩)) _ rfl (load23 hw.y)) hS4 ?_
    simp only [Act.put, List.setIfInBounds_toArray, List.set_cons_zero, List.set_cons_succ]
    refine take_to 27 66 (.func (.func 34) #[] #[]) rfl (by as_aux_lemma => kernel_rfl) (by as_aux_lemma => kernel_rfl) (by as_aux_lemma => kernel_rfl) (fun _ _ _ h => h) rfl (by rfl) (fun w hw => by rfl) hS4 ?_
    simp only [Act.put, List.setIfInBounds_toArray, List.set_cons_zero, List.set_cons_succ]
    refine take_to 28 67 (.func (.func 35) #[] #[]) rfl (by as_aux_lemma => kernel_rfl) (by as_aux_lemma => kernel_rfl) (by as_aux_lemma => kernel_rfl) (fun _ _ _ h => h) rfl (by rfl) (fun w hw => by rfl) hS4 ?_
    simp only [Act.put, List.setIfInBounds_toArray, List.set_cons_zero, List.set_cons_succ]
    refine take_to 29 68 (.agg #[.int .i64 X.ty, .int .i64 X.n, .string (strOf X.t), .bool X.b]) rfl (by as_aux_lemma => kernel_rfl) (by as_aux_lemma => kernel_rfl) (by as_aux_lemma => kernel_rfl) (fun _ _ _ h => h) rfl (by rfl) (fun w hw => op_load _ _ 23 (.tmp 8) rfl (.pointer (some ⟨p8, 0, none⟩)) _ rfl (load23 hw.x)) hS4 ?_
    simp only [Act.put, List.setIfInBounds_toArray, List.set_cons_zero, List.set_cons_succ]
    refine take_to 31 70 (.func (.func 35) #[] #[]) rfl (by as_aux_lemma => kernel_rfl) (by as_aux_lemma => kernel_rfl) (by as_aux_lemma => kernel_rfl) (fun _ _ _ h => h) rfl (by rfl) (fun w hw => by rfl) hS4 ?_
    simp only [Act.put, List.setIfInBounds_toArray, List.set_cons_zero, List.set_cons_succ]
    refine take_to 32 71 (.agg #[.int .i64 Y.ty, .int .i64 Y.n, .string (strOf Y.t), .bool Y.b]) rfl (by as_aux_lemma => kernel_rfl) (by as_aux_lemma => kernel_rfl) (by as_aux_lemma => kernel_rfl) (fun _ _ _ h => h) rfl (by rfl) (fun w hw => op_load _ _ 23 (.tmp 9) rfl (.pointer (some ⟨p9, 0, none⟩)) _ rfl (load23 hw.y)) hS4 ?_
    simp only [Act.put, List.setIfInBounds_toArray, List.set_cons_zero, List.set_cons_succ]
    refine step_callv2_to 25 64 33 rfl (by as_aux_lemma => kernel_rfl) rfl (by rfl) (.tmp 61) (.tmp 62) (.tmp 63) _ rfl rfl _ _ rfl rfl Tryd.enters33 (HCA.out X Y _) ?_
    rintro e u5 ⟨rfl, hb5⟩
    have hS5 := hS4.belowW hb5
    have hB5 := thenW hB4 hb5
    refine ⟨_, rfl, hS5, ?_⟩
    simp only [Act.put, List.setIfInBounds_toArray, List.set_cons_zero, List.set_cons_succ]
    refine step_callv1_to 26 65 35 rfl (by as_aux_lemma => kernel_rfl) rfl (by rfl) (.tmp 60) (.tmp 64) _ rfl rfl _ rfl Tryd.enters35 (HCN.out (aV X Y) _) ?_
    rintro e u6 ⟨rfl, hb6⟩
    have hS6 := hS5.belowW hb6
    have hB6 := thenW hB5 hb6
    refine ⟨_, rfl, hS6, ?_⟩
    simp only [Act.put, List.setIfInBounds_toArray, List.set_cons_zero, List.set_cons_succ]
    refine step_callv1_to 30 69 35 rfl (by as_aux_lemma => kernel_rfl) rfl (by rfl) (.tmp 67) (.tmp 68) _ rfl rfl _ rfl Tryd.enters35 (HCN.out X _) ?_
    rintro e u7 ⟨rfl, hb7⟩
    have hS7 := hS6.belowW hb7
    have hB7 := thenW hB6 hb7
    refine ⟨_, rfl, hS7, ?_⟩
    simp only [Act.put, List.setIfInBounds_toArray, List.set_cons_zero, List.set_cons_succ]
    refine step_callv1_to 33 72 35 rfl (by as_aux_lemma => kernel_rfl) rfl (by rfl) (.tmp 70) (.tmp 71) _ rfl rfl _ rfl Tryd.enters35 (HCN.out Y _) ?_
    rintro e u8 ⟨rfl, hb8⟩
    have hS8 := hS7.belowW hb8
    have hB8 := thenW hB7 hb8
    refine ⟨_, rfl, hS8, ?_⟩
    simp only [Act.put, List.setIfInBounds_toArray, List.set_cons_zero, List.set_cons_succ]
    refine step_callv2_to 34 73 34 rfl (by as_aux_lemma => kernel_rfl) rfl (by rfl) (.tmp 66) (.tmp 69) (.tmp 72) _ rfl rfl _ _ rfl rfl Tryd.enters34 (HCO.out (nT X) (nT Y) _) ?_
    rintro e u9 ⟨rfl, hb9⟩
    have hS9 := hS8.belowW hb9
    have hB9 := thenW hB8 hb9
    refine ⟨_, rfl, hS9, ?_⟩
    simp only [Act.put, List.setIfInBounds_toArray, List.set_cons_zero, List.set_cons_succ]
    refine step_to 35 74 (.bool true) _ rfl (by as_aux_lemma => kernel_rfl) rfl (by rfl) (op_eqlAB _ _ (.tmp 65) (.tmp 73) _ rfl (nT (aV X Y)) (oV (nT X) (nT Y)) g3.symm rfl rfl) hS9 ?_
    simp only [Act.put, List.setIfInBounds_toArray, List.set_cons_zero, List.set_cons_succ]
    refine step_to 36 75 (.bool true) _ rfl (by as_aux_lemma => kernel_rfl) rfl (by rfl) (rfl) hS9 ?_
    simp only [Act.put, List.setIfInBounds_toArray, List.set_cons_zero, List.set_cons_succ]
    refine step_to 37 76 (.bool true) _ rfl (by as_aux_lemma => kernel_rfl) rfl (by rfl) (rfl) hS9 ?_
    simp only [Act.put, List.setIfInBounds_toArray, List.set_cons_zero, List.set_cons_succ]
    refine take_to 38 77 (.func (.func 35) #[] #[]) rfl (by as_aux_lemma => kernel_rfl) (by as_aux_lemma => kernel_rfl) (by as_aux_lemma => kernel_rfl) (fun _ _ _ h => h) rfl (by rfl) (fun w hw => by rfl) hS9 ?_
    simp only [Act.put, List.setIfInBounds_toArray, List.set_cons_zero, List.set_cons_succ]
    refine take_to 39 78 (.func (.func 35) #[] #[]) rfl (by as_aux_lemma => kernel_rfl) (by as_aux_lemma => kernel_rfl) (by as_aux_lemma => kernel_rfl) (fun _ _ _ h => h) rfl (by rfl) (fun w hw => by rfl) hS9 ?_
    simp only [Act.put, List.setIfInBounds_toArray, List.set_cons_zero, List.set_cons_succ]
    refine take_to 40 79 (.agg #[.int .i64 X.ty, .int .i64 X.n, .string (strOf X.t), .bool X.b]) rfl (by as_aux_lemma => kernel_rfl) (by as_aux_lemma => kernel_rfl) (by as_aux_lemma => kernel_rfl) (fun _ _ _ h => h) rfl (by rfl) (fun w hw => op_load _ _ 23 (.tmp 8) rfl (.pointer (some ⟨p8, 0, none⟩)) _ rfl (load23 hw.x)) hS9 ?_
    simp only [Act.put, List.setIfInBounds_toArray, List.set_cons_zero, List.set_cons_succ]
    refine take_to 43 82 (.agg #[.int .i64 X.ty, .int .i64 X.n, .string (strOf X.t), .bool X.b]) rfl (by as_aux_lemma => kernel_rfl) (by as_aux_lemma => kernel_rfl) (by as_aux_lemma => kernel_rfl) (fun _ _ _ h => h) rfl (by rfl) (fun w hw => op_load _ _ 23 (.tmp 8) rfl (.pointer (some ⟨p8, 0, none⟩)) _ rfl (load23 hw.x)) hS9 ?_
    simp only [Act.put, List.setIfInBounds_toArray, List.set_cons_zero, List.set_cons_succ]
    refine step_callv1_to 41 80 35 rfl (by as_aux_lemma => kernel_rfl) rfl (by rfl) (.tmp 78) (.tmp 79) _ rfl rfl _ rfl Tryd.enters35 (HCN.out X _) ?_
    rintro e u10 ⟨rfl, hb10⟩
    have hS10 := hS9.belowW hb10
    have hB10 := thenW hB9 hb10
    refine ⟨_, rfl, hS10, ?_⟩
    simp only [Act.put, List.setIfInBounds_toArray, List.set_cons_zero, List.set_cons_succ]
    refine step_callv1_to 42 81 35 rfl (by as_aux_lemma => kernel_rfl) rfl (by rfl) (.tmp 77) (.tmp 80) _ rfl rfl _ rfl Tryd.enters35 (HCN.out (nT X) _) ?_
    rintro e u11 ⟨rfl, hb11⟩
    have hS11 := hS10.belowW hb11
    have hB11 := thenW hB10 hb11
    refine ⟨_, rfl, hS11, ?_⟩
    simp only [Act.put, List.setIfInBounds_toArray, List.set_cons_zero, List.set_cons_succ]
    refine step_to 44 83 (.bool true) _ rfl (by as_aux_lemma => kernel_rfl) rfl (by rfl) (op_eqlAB _ _ (.tmp 81) (.tmp 82) _ rfl (nT (nT X)) (X) g4 rfl rfl) hS11 ?_
    simp only [Act.put, List.setIfInBounds_toArray, List.set_cons_zero, List.set_cons_succ]
    refine step_to 45 84 (.bool true) _ rfl (by as_aux_lemma => kernel_rfl) rfl (by rfl) (rfl) hS11 ?_
    simp only [Act.put, List.setIfInBounds_toArray, List.set_cons_zero, List.set_cons_succ]
    refine step_to 46 85 (.bool true) _ rfl (by as_aux_lemma => kernel_rfl) rfl (by rfl) (rfl) hS11 ?_
    simp only [Act.put, List.setIfInBounds_toArray, List.set_cons_zero, List.set_cons_succ]
    refine take_to 47 86 (.func (.func 33) #[] #[]) rfl (by as_aux_lemma => kernel_rfl) (by as_aux_lemma => kernel_rfl) (by as_aux_lemma => kernel_rfl) (fun _ _ _ h => h) rfl (by rfl) (fun w hw => by rfl) hS11 ?_
    simp only [Act.put, List.setIfInBounds_toArray, List.set_cons_zero, List.set_cons_succ]
    refine take_to 48 87 (.agg #[.int .i64 X.ty, .int .i64 X.n, .string (strOf X.t), .bool X.b]) rfl (by as_aux_lemma => kernel_rfl) (by as_aux_lemma => kernel_rfl) (by as_aux_lemma => kernel_rfl) (fun _ _ _ h => h) rfl (by rfl) (fun w hw => op_load _ _ 23 (.tmp 8) rfl (.pointer (some ⟨p8, 0, none⟩)) _ rfl (load23 hw.x)) hS11 ?_
    simp only [Act.put, List.setIfInBounds_toArray, List.set_cons_zero, List.set_cons_succ]
    refine take_to 49 88 (.func (.func 34) #[] #[]) rfl (by as_aux_lemma => kernel_rfl) (by as_aux_lemma => kernel_rfl) (by as_aux_lemma => kernel_rfl) (fun _ _ _ h => h) rfl (by rfl) (fun w hw => by rfl) hS11 ?_
    simp only [Act.put, List.setIfInBounds_toArray, List.set_cons_zero, List.set_cons_succ]
    refine take_to 50 89 (.agg #[.int .i64 Y.ty, .int .i64 Y.n, .string (strOf Y.t), .bool Y.b]) rfl (by as_aux_lemma => kernel_rfl) (by as_aux_lemma => kernel_rfl) (by as_aux_lemma => kernel_rfl) (fun _ _ _ h => h) rfl (by rfl) (fun w hw => op_load _ _ 23 (.tmp 9) rfl (.pointer (some ⟨p9, 0, none⟩)) _ rfl (load23 hw.y)) hS11 ?_
    simp only [Act.put, List.setIfInBounds_toArray, List.set_cons_zero, List.set_cons_succ]
    refine take_to 51 90 (.agg #[.int .i64 Z.ty, .int .i64 Z.n, .string (strOf Z.t), .bool Z.b]) rfl (by as_aux_lemma => kernel_rfl) (by as_aux_lemma => kernel_rfl) (by as_aux_lemma => kernel_rfl) (fun _ _ _ h => h) rfl (by rfl) (fun w hw => op_load _ _ 23 (.tmp 10) rfl (.pointer (some ⟨p10, 0, none⟩)) _ rfl (load23 hw.z)) hS11 ?_
    simp only [Act.put, List.setIfInBounds_toArray, List.set_cons_zero, List.set_cons_succ]
    refine take_to 54 93 (.func (.func 34) #[] #[]) rfl (by as_aux_lemma => kernel_rfl) (by as_aux_lemma => kernel_rfl) (by as_aux_lemma => kernel_rfl) (fun _ _ _ h => h) rfl (by rfl) (fun w hw => by rfl) hS11 ?_
    simp only [Act.put, List.setIfInBounds_toArray, List.set_cons_zero, List.set_cons_succ]
    refine take_to 55 94 (.func (.func 33) #[] #[]) rfl (by as_aux_lemma => kernel_rfl) (by as_aux_lemma => kernel_rfl) (by as_aux_lemma => kernel_rfl) (fun _ _ _ h => h) rfl (by rfl) (fun w hw => by rfl) hS11 ?_
    simp only [Act.put, List.setIfInBounds_toArray, List.set_cons_zero, List.set_cons_succ]
    refine take_to 56 95 (.agg #[.int .i64 X.ty, .int .i64 X.n, .string (strOf X.t), .bool X.b]) rfl (by as_aux_lemma => kernel_rfl) (by as_aux_lemma => kernel_rfl) (by as_aux_lemma => kernel_rfl) (fun _ _ _ h => h) rfl (by rfl) (fun w hw => op_load _ _ 23 (.tmp 8) rfl (.pointer (some ⟨p8, 0, none⟩)) _ rfl (load23 hw.x)) hS11 ?_
    simp only [Act.put, List.setIfInBounds_toArray, List.set_cons_zero, List.set_cons_succ]
    refine take_to 57 96 (.agg #[.int .i64 Y.ty, .int .i64 Y.n, .string (strOf Y.t), .bool Y.b]) rfl (by as_aux_lemma => kernel_rfl) (by as_aux_lemma => kernel_rfl) (by as_aux_lemma => kernel_rfl) (fun _ _ _ h => h) rfl (by rfl) (fun w hw => op_load _ _ 23 (.tmp 9) rfl (.pointer (some ⟨p9, 0, none⟩)) _ rfl (load23 hw.y)) hS11 ?_
    simp only [Act.put, List.setIfInBounds_toArray, List.set_cons_zero, List.set_cons_succ]
    refine take_to 59 98 (.func (.func 33) #[] #[]) rfl (by as_aux_lemma => kernel_rfl) (by as_aux_lemma => kernel_rfl) (by as_aux_lemma => kernel_rfl) (fun _ _ _ h => h) rfl (by rfl) (fun w hw => by rfl) hS11 ?_
    simp only [Act.put, List.setIfInBounds_toArray, List.set_cons_zero, List.set_cons_succ]
    refine take_to 60 99 (.agg #[.int .i64 X.ty, .int .i64 X.n, .string (strOf X.t), .bool X.b]) rfl (by as_aux_lemma => kernel_rfl) (by as_aux_lemma => kernel_rfl) (by as_aux_lemma => kernel_rfl) (fun _ _ _ h => h) rfl (by rfl) (fun w hw => op_load _ _ 23 (.tmp 8) rfl (.pointer (some ⟨p8, 0, none⟩)) _ rfl (load23 hw.x)) hS11 ?_
    simp only [Act.put, List.setIfInBounds_toArray, List.set_cons_zero, List.set_cons_succ]
    refine take_to 61 100 (.agg #[.int .i64 Z.ty, .int .i64 Z.n, .string (strOf Z.t), .bool Z.b]) rfl (by as_aux_lemma => kernel_rfl) (by as_aux_lemma => kernel_rfl) (by as_aux_lemma => kernel_rfl) (fun _ _ _ h => h) rfl (by rfl) (fun w hw => op_load _ _ 23 (.tmp 10) rfl (.pointer (some ⟨p10, 0, none⟩)) _ rfl (load23 hw.z)) hS11 ?_
    simp only [Act.put, List.setIfInBounds_toArray, List.set_cons_zero, List.set_cons_succ]
    refine step_callv2_to 52 91 34 rfl (by as_aux_lemma => kernel_rfl) rfl (by rfl) (.tmp 88) (.tmp 89) (.tmp 90) _ rfl rfl _ _ rfl rfl Tryd.enters34 (HCO.out Y Z _) ?_
    rintro e u12 ⟨rfl, hb12⟩
    have hS12 := hS11.belowW hb12
    have hB12 := thenW hB11 hb12
    refine ⟨_, rfl, hS12, ?_⟩
    simp only [Act.put, List.setIfInBounds_toArray, List.set_cons_zero, List.set_cons_succ]
    refine step_callv2_to 53 92 33 rfl (by as_aux_lemma => kernel_rfl) rfl (by rfl) (.tmp 86) (.tmp 87) (.tmp 91) _ rfl rfl _ _ rfl rfl Tryd.enters33 (HCA.out X (oV Y Z) _) ?_
    rintro e u13 ⟨rfl, hb13⟩
    have hS13 := hS12.belowW hb13
    have hB13 := thenW hB12 hb13
    refine ⟨_, rfl, hS13, ?_⟩
    simp only [Act.put, List.setIfInBounds_toArray, List.set_cons_zero, List.set_cons_succ]
    refine step_callv2_to 58 97 33 rfl (by as_aux_lemma => kernel_rfl) rfl (by rfl) (.tmp 94) (.tmp 95) (.tmp 96) _ rfl rfl _ _ rfl rfl Tryd.enters33 (HCA.out X Y _) ?_
    rintro e u14 ⟨rfl, hb14⟩
    have hS14 := hS13.belowW hb14
    have hB14 := thenW hB13 hb14
    refine ⟨_, rfl, hS14, ?_⟩
    simp only [Act.put, List.setIfInBounds_toArray, List.set_cons_zero, List.set_cons_succ]
    refine step_callv2_to 62 101 33 rfl (by as_aux_lemma => kernel_rfl) rfl (by rfl) (.tmp 98) (.tmp 99) (.tmp 100) _ rfl rfl _ _ rfl rfl Tryd.enters33 (HCA.out X Z _) ?_
    rintro e u15 ⟨rfl, hb15⟩
    have hS15 := hS14.belowW hb15
    have hB15 := thenW hB14 hb15
    refine ⟨_, rfl, hS15, ?_⟩
    simp only [Act.put, List.setIfInBounds_toArray, List.set_cons_zero, List.set_cons_succ]
    refine step_callv2_to 63 102 34 rfl (by as_aux_lemma => kernel_rfl) rfl (by rfl) (.tmp 93) (.tmp 97) (.tmp 101) _ rfl rfl _ _ rfl rfl Tryd.enters34 (HCO.out (aV X Y) (aV X Z) _) ?_
    rintro e u16 ⟨rfl, hb16⟩
    have hS16 := hS15.belowW hb16
    have hB16 := thenW hB15 hb16
    refine ⟨_, rfl, hS16, ?_⟩
    simp only [Act.put, List.setIfInBounds_toArray, List.set_cons_zero, List.set_cons_succ]
    refine step_to 64 103 (.bool true) _ rfl (by as_aux_lemma => kernel_rfl) rfl (by rfl) (op_eqlAB _ _ (.tmp 92) (.tmp 102) _ rfl (aV X (oV Y Z)) (oV (aV X Y) (aV X Z)) g5.symm rfl rfl) hS16 ?_
    simp only [Act.put, List.setIfInBounds_toArray, List.set_cons_zero, List.set_cons_succ]
    refine step_to 65 104 (.bool true) _ rfl (by as_aux_lemma => kernel_rfl) rfl (by rfl) (rfl) hS16 ?_
    simp only [Act.put, List.setIfInBounds_toArray, List.set_cons_zero, List.set_cons_succ]
    refine step_to 66 105 (.bool true) _ rfl (by as_aux_lemma => kernel_rfl) rfl (by rfl) (rfl) hS16 ?_
    simp only [Act.put, List.setIfInBounds_toArray, List.set_cons_zero, List.set_cons_succ]
    refine take_to 67 106 (.func (.func 33) #[] #[]) rfl (by as_aux_lemma => kernel_rfl) (by as_aux_lemma => kernel_rfl) (by as_aux_lemma => kernel_rfl) (fun _ _ _ h => h) rfl (by rfl) (fun w hw => by rfl) hS16 ?_
    simp only [Act.put, List.setIfInBounds_toArray, List.set_cons_zero, List.set_cons_succ]
    refine take_to 68 107 (.agg #[.int .i64 X.ty, .int .i64 X.n, .string (strOf X.t), .bool X.b]) rfl (by as_aux_lemma => kernel_rfl) (by as_aux_lemma => kernel_rfl) (by as_aux_lemma => kernel_rfl) (fun _ _ _ h => h) rfl (by rfl) (fun w hw => op_load _ _ 23 (.tmp 8) rfl (.pointer (some ⟨p8, 0, none⟩)) _ rfl (load23 hw.x)) hS16 ?_
    simp only [Act.put, List.setIfInBounds_toArray, List.set_cons_zero, List.set_cons_succ]
    refine take_to 69 108 (.func (.func 33) #[] #[]) rfl (by as_aux_lemma => kernel_rfl) (by as_aux_lemma => kernel_rfl) (by as_aux_lemma => kernel_rfl) (fun _ _ _ h => h) rfl (by rfl) (fun w hw => by rfl) hS16 ?_
    simp only [Act.put, List.setIfInBounds_toArray, List.set_cons_zero, List.set_cons_succ]
    refine take_to 70 109 (.agg #[.int .i64 Y.ty, .int .i64 Y.n, .string (strOf Y.t), .bool Y.b]) rfl (by as_aux_lemma => kernel_rfl) (by as_aux_lemma => kernel_rfl) (by as_aux_lemma => kernel_rfl) (fun _ _ _ h => h) rfl (by rfl) (fun w hw => op_load _ _ 23 (.tmp 9) rfl (.pointer (some ⟨p9, 0, none⟩)) _ rfl (load23 hw.y)) hS16 ?_
    simp only [Act.put, List.setIfInBounds_toArray, List.set_cons_zero, List.set_cons_succ]
    refine take_to 71 110 (.agg #[.int .i64 Z.ty, .int .i64 Z.n, .string (strOf Z.t), .bool Z.b]) rfl (by as_aux_lemma => kernel_rfl) (by as_aux_lemma => kernel_rfl) (by as_aux_lemma => kernel_rfl) (fun _ _ _ h => h) rfl (by rfl) (fun w hw => op_load _ _ 23 (.tmp 10) rfl (.pointer (some ⟨p10, 0, none⟩)) _ rfl (load23 hw.z)) hS16 ?_
    simp only [Act.put, List.setIfInBounds_toArray, List.set_cons_zero, List.set_cons_succ]
    refine take_to 74 113 (.func (.func 33) #[] #[]) rfl (by as_aux_lemma => kernel_rfl) (by as_aux_lemma => kernel_rfl) (by as_aux_lemma => kernel_rfl) (fun _ _ _ h => h) rfl (by rfl) (fun w hw => by rfl) hS16 ?_
    simp only [Act.put, List.setIfInBounds_toArray, List.set_cons_zero, List.set_cons_succ]
    refine take_to 75 114 (.func (.func 33) #[] #[]) rfl (by as_aux_lemma => kernel_rfl) (by as_aux_lemma => kernel_rfl) (by as_aux_lemma => kernel_rfl) (fun _ _ _ h => h) rfl (by rfl) (fun w hw => by rfl) hS16 ?_
    simp only [Act.put, List.setIfInBounds_toArray, List.set_cons_zero, List.set_cons_succ]
    refine take_to 76 115 (.agg #[.int .i64 X.ty, .int .i64 X.n, .string (strOf X.t), .bool X.b]) rfl (by as_aux_lemma => kernel_rfl) (by as_aux_lemma => kernel_rfl) (by as_aux_lemma => kernel_rfl) (fun _ _ _ h => h) rfl (by rfl) (fun w hw => op_load _ _ 23 (.tmp 8) rfl (.pointer (some ⟨p8, 0, none⟩)) _ rfl (load23 hw.x)) hS16 ?_
    simp only [Act.put, List.setIfInBounds_toArray, List.set_cons_zero, List.set_cons_succ]
    refine take_to 77 116 (.agg #[.int .i64 Y.ty, .int .i64 Y.n, .string (strOf Y.t), .bool Y.b]) rfl (by as_aux_lemma => kernel_rfl) (by as_aux_lemma => kernel_rfl) (by as_aux_lemma => kernel_rfl) (fun _ _ _ h => h) rfl (by rfl) (fun w hw => op_load _ _ 23 (.tmp 9) rfl (.pointer (some ⟨p9, 0, none⟩)) _ rfl (load23 hw.y)) hS16 ?_
    simp only [Act.put, List.setIfInBounds_toArray, List.set_cons_zero, List.set_cons_succ]
    refine take_to 79 118 (.agg #[.int .i64 Z.ty, .int .i64 Z.n, .string (strOf Z.t), .bool Z.b]) rfl (by as_aux_lemma => kernel_rfl) (by as_aux_lemma => kernel_rfl) (by as_aux_lemma => kernel_rfl) (fun _ _ _ h => h) rfl (by rfl) (fun w hw => op_load _ _ 23 (.tmp 10) rfl (.pointer (some ⟨p10, 0, none⟩)) _ rfl (load23 hw.z)) hS16 ?_
    simp only [Act.put, List.setIfInBounds_toArray, List.set_cons_zero, List.set_cons_succ]
    refine step_callv2_to 72 111 33 rfl (by as_aux_lemma => kernel_rfl) rfl (by rfl) (.tmp 108) (.tmp 109) (.tmp 110) _ rfl rfl _ _ rfl rfl Tryd.enters33 (HCA.out Y Z _) ?_
    rintro e u17 ⟨rfl, hb17⟩
    have hS17 := hS16.belowW hb17
    have hB17 := thenW hB16 hb17
    refine ⟨_, rfl, hS17, ?_⟩
    simp only [Act.put, List.setIfInBounds_toArray, List.set_cons_zero, List.set_cons_succ]
    refine step_callv2_to 73 112 33 rfl (by as_aux_lemma => kernel_rfl) rfl (by rfl) (.tmp 106) (.tmp 107) (.tmp 111) _ rfl rfl _ _ rfl rfl Tryd.enters33 (HCA.out X (aV Y Z) _) ?_
    rintro e u18 ⟨rfl, hb18⟩
    have hS18 := hS17.belowW hb18
    have hB18 := thenW hB17 hb18
    refine ⟨_, rfl, hS18, ?_⟩
    simp only [Act.put, List.setIfInBounds_toArray, List.set_cons_zero, List.set_cons_succ]
    refine step_callv2_to 78 117 33 rfl (by as_aux_lemma => kernel_rfl) rfl (by rfl) (.tmp 114) (.tmp 115) (.tmp 116) _ rfl rfl _ _ rfl rfl Tryd.enters33 (HCA.out X Y _) ?_
    rintro e u19 ⟨rfl, hb19⟩
    have hS19 := hS18.belowW hb19
    have hB19 := thenW hB18 hb19
    refine ⟨_, rfl, hS19, ?_⟩
    simp only [Act.put, List.setIfInBounds_toArray, List.set_cons_zero, List.set_cons_succ]
    refine step_callv2_to 80 119 33 rfl (by as_aux_lemma => kernel_rfl) rfl (by rfl) (.tmp 113) (.tmp 117) (.tmp 118) _ rfl rfl _ _ rfl rfl Tryd.enters33 (HCA.out (aV X Y) Z _) ?_
    rintro e u20 ⟨rfl, hb20⟩
    have hS20 := hS19.belowW hb20
    have hB20 := thenW hB19 hb20
    refine ⟨_, rfl, hS20, ?_⟩
    simp only [Act.put, List.setIfInBounds_toArray, List.set_cons_zero, List.set_cons_succ]
    refine step_to 81 120 (.bool true) _ rfl (by as_aux_lemma => kernel_rfl) rfl (by rfl) (op_eqlAB _ _ (.tmp 112) (.tmp 119) _ rfl (aV X (aV Y Z)) (aV (aV X Y) Z) g6.symm rfl rfl) hS20 ?_
    simp only [Act.put, List.setIfInBounds_toArray, List.set_cons_zero, List.set_cons_succ]
    refine step_to 82 121 (.bool true) _ rfl (by as_aux_lemma => kernel_rfl) rfl (by rfl) (rfl) hS20 ?_
    simp only [Act.put, List.setIfInBounds_toArray, List.set_cons_zero, List.set_cons_succ]
    refine step_to 83 122 (.bool true) _ rfl (by as_aux_lemma => kernel_rfl) rfl (by rfl) (rfl) hS20 ?_
    simp only [Act.put, List.setIfInBounds_toArray, List.set_cons_zero, List.set_cons_succ]
    refine take_to 84 123 (.func (.func 33) #[] #[]) rfl (by as_aux_lemma => kernel_rfl) (by as_aux_lemma => kernel_rfl) (by as_aux_lemma => kernel_rfl) (fun _ _ _ h => h) rfl (by rfl) (fun w hw => by rfl) hS20 ?_
    simp only [Act.put, List.setIfInBounds_toArray, List.set_cons_zero, List.set_cons_succ]
    refine take_to 85 124 (.agg #[.int .i64 X.ty, .int .i64 X.n, .string (strOf X.t), .bool X.b]) rfl (by as_aux_lemma => kernel_rfl) (by as_aux_lemma => kernel_rfl) (by as_aux_lemma => kernel_rfl) (fun _ _ _ h => h) rfl (by rfl) (fun w hw => op_load _ _ 23 (.tmp 8) rfl (.pointer (some ⟨p8, 0, none⟩)) _ rfl (load23 hw.x)) hS20 ?_
    simp only [Act.put, List.setIfInBounds_toArray, List.set_cons_zero, List.set_cons_succ]
    refine take_to 86 125 (.agg #[.int .i64 X.ty, .int .i64 X.n, .string (strOf X.t), .bool X.b]) rfl (by as_aux_lemma => kernel_rfl) (by as_aux_lemma => kernel_rfl) (by as_aux_lemma => kernel_rfl) (fun _ _ _ h => h) rfl (by rfl) (fun w hw => op_load _ _ 23 (.tmp 8) rfl (.pointer (some ⟨p8, 0, none⟩)) _ rfl (load23 hw.x)) hS20 ?_
    simp only [Act.put, List.setIfInBounds_toArray, List.set_cons_zero, List.set_cons_succ]
    refine take_to 88 127 (.agg #[.int .i64 X.ty, .int .i64 X.n, .string (strOf X.t), .bool X.b]) rfl (by as_aux_lemma => kernel_rfl) (by as_aux_lemma => kernel_rfl) (by as_aux_lemma => kernel_rfl) (fun _ _ _ h => h) rfl (by rfl) (fun w hw => op_load _ _ 23 (.tmp 8) rfl (.pointer (some ⟨p8, 0, none⟩)) _ rfl (load23 hw.x)) hS20 ?_
    simp only [Act.put, List.setIfInBounds_toArray, List.set_cons_zero, List.set_cons_succ]
    refine step_callv2_to 87 126 33 rfl (by as_aux_lemma => kernel_rfl) rfl (by rfl) (.tmp 123) (.tmp 124) (.tmp 125) _ rfl rfl _ _ rfl rfl Tryd.enters33 (HCA.out X X _) ?_
    rintro e u21 ⟨rfl, hb21⟩
    have hS21 := hS20.belowW hb21
    have hB21 := thenW hB20 hb21
    refine ⟨_, rfl, hS21, ?_⟩
    simp only [Act.put, List.setIfInBounds_toArray, List.set_cons_zero, List.set_cons_succ]
    refine step_to 89 128 (.bool true) _ rfl (by as_aux_lemma => kernel_rfl) rfl (by rfl) (op_eqlAB _ _ (.tmp 126) (.tmp 127) _ rfl (aV X X) (X) g7 rfl rfl) hS21 ?_
    simp only [Act.put, List.setIfInBounds_toArray, List.set_cons_zero, List.set_cons_succ]
    refine step_to 90 129 (.bool true) _ rfl (by as_aux_lemma => kernel_rfl) rfl (by rfl) (rfl) hS21 ?_
    simp only [Act.put, List.setIfInBounds_toArray, List.set_cons_zero, List.set_cons_succ]
    refine step_to 91 130 (.bool true) _ rfl (by as_aux_lemma => kernel_rfl) rfl (by rfl) (rfl) hS21 ?_
    simp only [Act.put, List.setIfInBounds_toArray, List.set_cons_zero, List.set_cons_succ]
    refine step_call0_to 92 131 14 rfl (by as_aux_lemma => kernel_rfl) rfl (by rfl) _ rfl Tryd.enters14 (HAW.out _ hB21) ?_
    rintro e u22 ⟨rfl, hb22⟩
    have hS22 := hS21.belowW hb22
    have hB22 := thenW hB21 hb22
    refine ⟨_, rfl, hS22, ?_⟩
    simp only [Act.put, List.setIfInBounds_toArray, List.set_cons_zero, List.set_cons_succ]
    refine step_to 93 132 (.bool true) _ rfl (by as_aux_lemma => kernel_rfl) rfl (by rfl) (rfl) hS22 ?_
    simp only [Act.put, List.setIfInBounds_toArray, List.set_cons_zero, List.set_cons_succ]
    refine step_to 94 6 (.bool true) _ rfl (by as_aux_lemma => kernel_rfl) rfl (by rfl) (rfl) hS22 ?_
    simp only [Act.put, List.setIfInBounds_toArray, List.set_cons_zero, List.set_cons_succ]
    refine wpAnyH_done (by as_aux_lemma => kernel_rfl) ?_ _
    go_wp2
    go_ret
    exact ⟨rfl, hB22⟩
end Go.Proofs.YtigafjdacllohaaDoor
