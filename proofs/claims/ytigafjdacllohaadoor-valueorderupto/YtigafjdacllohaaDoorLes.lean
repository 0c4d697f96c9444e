/- Less, the program's and the document's. -/
import Derived.Test.YtigafjdacllohaaDoorLog
namespace Go.Proofs.YtigafjdacllohaaDoor
open Go.RowKit
set_option linter.unusedVariables false
set_option linter.unusedSimpArgs false
set_option maxRecDepth 100000

theorem op_call1_to {P : Program} {ops : Array Oper} {Q : Exit → Act → World → Prop} {o : Oper} {a : Act} {w : World} {K : Act → World → Prop} {i : Nat} {R : Ending → World → Prop} (dst f : Nat) (hi : ops[i]? = some o)
    (hd : o.dst = some dst) (hw : Region.wanted o (yielded ops a.tmps) = true) (x : Operand) (ts : Array TypeId) (hop : o.op = Op.call { callee := Callee.value (Operand.func f), args := #[x], argTypes := ts })
    (vx : Value) (hx : a.eval x = vx) (hcf : ∀ args w, (callFunc f args).run P w = .ok (.enter f args) w) (hc : Calls P f #[vx] w R)
    (hK : ∀ e w', R e w' → ∃ v, e = .returned v ∧ K (a.put (some dst) v) w') : wpOp P ops Q i K a w := by
  refine wpOp_step hi (fun K' hK' => ?_)
  rw [if_pos hw]
  have hrun : (execOp a.eval o).run P w = .ok (.enter f #[vx]) w := by
    have hff : a.eval (.func f) = .func (.func f) #[] #[] := rfl
    unfold execOp
    simp [hop, resolve, hff, Deferred.ofValue, invoke, hx]
    exact hcf _ _
  unfold Oper.wp
  rw [hrun, Oper.upon_enter]
  refine hc.mono ?_
  intro e w' hR
  obtain ⟨v, rfl, hW⟩ := hK e w' hR
  show K' (a.put o.dst v) w'
  rw [hd]
  exact hK' _ _ hW
theorem buildV2 (A B : Vl) (w : World) : (Instr.buildSlice 38 2 #[(0, .agg #[.int .i64 A.ty, .int .i64 A.n, .string (strOf A.t), .bool A.b]), (1, .agg #[.int .i64 B.ty, .int .i64 B.n, .string (strOf B.t), .bool B.b])]).run Tryd.prog w = .ok (.slice (some ⟨w.heap.size, 0, none⟩) 2 2) (w.alloc (.cells #[.int .i64 A.ty, .int .i64 A.n, .string (strOf A.t), .bool A.b, .int .i64 B.ty, .int .i64 B.n, .string (strOf B.t), .bool B.b] 23)) := by kernel_rfl
theorem op_build2 (ρ : Operand → Value) (o : Oper) (x y : Operand) (ho : o.op = .buildSlice 38 2 #[(0, x), (1, y)]) (A B : Vl) (hx : ρ x = .agg #[.int .i64 A.ty, .int .i64 A.n, .string (strOf A.t), .bool A.b]) (hy : ρ y = .agg #[.int .i64 B.ty, .int .i64 B.n, .string (strOf B.t), .bool B.b]) (w : World) : (execOp ρ o).run Tryd.prog w = .ok (.value (.slice (some ⟨w.heap.size, 0, none⟩) 2 2)) (w.alloc (.cells #[.int .i64 A.ty, .int .i64 A.n, .string (strOf A.t), .bool A.b, .int .i64 B.ty, .int .i64 B.n, .string (strOf B.t), .bool B.b] 23)) := by
  have h : execOp ρ o = (do pure (Next.value (← Instr.buildSlice 38 2 #[(0, .agg #[.int .i64 A.ty, .int .i64 A.n, .string (strOf A.t), .bool A.b]), (1, .agg #[.int .i64 B.ty, .int .i64 B.n, .string (strOf B.t), .bool B.b])]))) := by
    unfold execOp
    simp [ho, hx, hy]
  rw [h, Sem.run_bind, buildV2]
  rfl
theorem allocW' {a b : World} (h : Below a.heap.size a b) (o : Obj) : Below a.heap.size a (b.alloc o) := h.alloc h.size o
def lessP (op : Int) (A B : Vl) : Vl × Int := if isCmp op = false then (Vl.zero, 1) else if A.ty = 0 ∨ B.ty = 0 then (Vl.zero, 0) else if A.ty ≠ B.ty then (Vl.zero, 160) else (bV (holdsB op (cmpV A B)), 0)
theorem less_known (A B : Vl) : knownE (firstL [A, B]).ty [A, B] = (if A.ty = 0 ∨ B.ty = 0 then 0 else if A.ty ≠ B.ty then 160 else 0) ∧ (knownE (firstL [A, B]).ty [A, B] = 0 → knownA (firstL [A, B]).ty true [A, B] = decide (¬ (A.ty = 0 ∨ B.ty = 0))) := by
  simp only [firstL, knownE, knownA]
  by_cases h1 : A.ty = 0 <;> by_cases h2 : B.ty = 0 <;> by_cases h3 : A.ty = B.ty <;> simp_all
  · exact fun h => h3 h.symm
theorem lessP_is (op : Int) (A B : Vl) : lessP op A B = if isCmp op = false then (Vl.zero, 1) else if knownE (firstL [A, B]).ty [A, B] ≠ 0 then (Vl.zero, 160) else if knownA (firstL [A, B]).ty true [A, B] = false then (Vl.zero, 0) else (bV (holdsB op (cmpV A B)), 0) := by
  obtain ⟨h1, h2⟩ := less_known A B
  unfold lessP
  by_cases hc : isCmp op = false
  · rw [if_pos hc, if_pos hc]
  · rw [if_neg hc, if_neg hc]
    by_cases hz : A.ty = 0 ∨ B.ty = 0
    · rw [if_pos hz] at h1 ⊢
      rw [h2 h1, h1]
      simp [hz]
    · rw [if_neg hz] at h1 ⊢
      by_cases hd : A.ty ≠ B.ty
      · rw [if_pos hd] at h1 ⊢
        rw [h1]
        simp
      · rw [if_neg hd] at h1 ⊢
        rw [h2 h1, h1]
        simp [hz]
set_option maxHeartbeats 8000000 in
theorem less_any (op : Int) (A B : Vl) (w : World) : Calls Tryd.prog 12 #[.int .i64 op, valOf A, valOf B] w fun e w' => e = .returned (telling (lessP op A B).1 (lessP op A B).2) ∧ Below w.heap.size w w' := by
  obtain ⟨W1, hW1⟩ : ∃ W1, ((w.alloc (.cells #[.int .i64 A.ty, .int .i64 A.n, .string (strOf A.t), .bool A.b] 23)).alloc (.cells #[.int .i64 B.ty, .int .i64 B.n, .string (strOf B.t), .bool B.b] 23)).alloc (.cells #[.int .i64 0, .int .i64 0, .string { data := #[] }, .bool false] 23) = W1 := ⟨_, rfl⟩
  have HB1 : Hid (Below w.heap.size w W1) := by rw [← hW1]; exact below3 _ _ _ _
  have HT1 : Hid (Two w.heap.size A B W1) := by rw [← hW1]; exact two_new w A B
  have HCM : Hid (∀ W, Calls Tryd.prog 37 #[.agg #[.int .i64 A.ty, .int .i64 A.n, .string (strOf A.t), .bool A.b], .agg #[.int .i64 B.ty, .int .i64 B.n, .string (strOf B.t), .bool B.b]] W fun e w' => e = .returned (.int .i64 (cmpV A B)) ∧ Below W.heap.size W w') := compare_any A B
  have HHO : Hid (∀ W, Calls Tryd.prog 36 #[.int .i64 op, .int .i64 (cmpV A B)] W fun e w' => e = .returned (.tuple #[.bool (holdsB op (cmpV A B)), .bool (isCmp op)]) ∧ w' = W) := holds_any op _
  have HMP := hide (lessP_is op A B)
  have hke := knownE_or (firstL [A, B]).ty [A, B]
  generalize hmp : lessP op A B = mp at *
  clear hmp
  have HFI : Hid (∀ (W : World) (v : Value), VsAt W v [A, B] → Calls Tryd.prog 39 #[v] W fun e w' => e = .returned (.agg #[.int .i64 (firstL [A, B]).ty, .int .i64 (firstL [A, B]).n, .string (strOf (firstL [A, B]).t), .bool (firstL [A, B]).b]) ∧ Below W.heap.size W w') := fun W v h => first_any h
  have HKN : Hid (∀ (W : World) (v : Value), VsAt W v [A, B] → Calls Tryd.prog 38 #[.int .i64 (firstL [A, B]).ty, v] W fun e w' => e = .returned (.tuple #[.bool (knownA (firstL [A, B]).ty true [A, B]), .int .i64 (knownE (firstL [A, B]).ty [A, B])]) ∧ Below W.heap.size W w') := fun W v h => known_any h _
  generalize knownE (firstL [A, B]).ty [A, B] = ke at *
  generalize knownA (firstL [A, B]).ty true [A, B] = ka at *
  generalize firstL [A, B] = F at *
  generalize holdsB op (cmpV A B) = hb at *
  generalize cmpV A B = cc at *
  generalize isCmp op = ok at *
  unfold valOf
  cases ok
  · have HE : Hid (mp = (Vl.zero, 1)) := HMP.out
    clear HMP
    go_enter Tryd.func12, Tryd.ntmps12
    go_upto_region 1 with fail
    try rw [hW1]
    clear hW1
    generalize hq : w.heap.size = q at HT1 ⊢
    have HQ := hide hq
    clear hq
    obtain ⟨a0, a1, a2, a3⟩ := HT1.out.a.cells
    obtain ⟨b0, b1, b2, b3⟩ := HT1.out.b.cells
    go_wp2_with (first
      | (go_at_call 37; refine (HCM.out _).mono ?_; rintro e W2 ⟨rfl, hb2⟩; have HB2 := hide hb2; clear hb2; have HT2 := hide (HT1.out.belowW HB2.out))
      | (go_at_call 36; refine (HHO.out _).mono ?_; rintro e w' ⟨rfl, hw⟩; have hw := hw.symm; subst hw)
      | (refine wpList_store_val rfl (.tmp 6) (.tmp 22) rfl rfl (q + 2) Vl.zero Vl.zero rfl rfl HT2.out.r ?_))
    refine bodyPost_ret (v := telling Vl.zero 1) (results_ct Tryd.results12 _ _ (q + 2) 23 _ (0, 0) _ rfl (Box.after HT2.out.r Vl.zero) Tryd.underlying23 rfl Tryd.size23) rfl ?_
    rw [HE.out]
    exact ⟨rfl, below_setRow (thenW HB1.out HB2.out) (by rw [HQ.out]; omega) _⟩
  · rcases hke with rfl | rfl
    · cases ka
      · skip
        have HE : Hid (mp = (Vl.zero, 0)) := HMP.out
        clear HMP
        go_enter Tryd.func12, Tryd.ntmps12
        go_upto_region 1 with fail
        try rw [hW1]
        clear hW1
        generalize hq : w.heap.size = q at HT1 ⊢
        have HQ := hide hq
        clear hq
        obtain ⟨a0, a1, a2, a3⟩ := HT1.out.a.cells
        obtain ⟨b0, b1, b2, b3⟩ := HT1.out.b.cells
        go_upto_region 4 with (first | (go_at_call 37; refine (HCM.out _).mono ?_; rintro e W2 ⟨rfl, hb2⟩; have HB2 := hide hb2; clear hb2; have HT2 := hide (HT1.out.belowW HB2.out)) | (go_at_call 36; refine (HHO.out _).mono ?_; rintro e w' ⟨rfl, hw⟩; have hw := hw.symm; subst hw))
        clear a0 a1 a2 a3 b0 b1 b2 b3 HCM HHO
        have HS := hide (show TwoAB q A B W2 from ⟨HT2.out.a, HT2.out.b⟩)
        have hU0 : Below W2.heap.size W2 W2.drew := below_drewN _ _ 1
        refine wp_region_held_drew (S := TwoAB q A B) (by kernel_rfl) (HS.out.belowW hU0) (fun hH => ?_)
        refine take_to 0 24 (.agg #[.int .i64 A.ty, .int .i64 A.n, .string (strOf A.t), .bool A.b]) rfl (by kernel_rfl) (by kernel_rfl) (by kernel_rfl) (fun _ _ _ h => h) rfl (by rfl) (fun w hw => op_load _ _ 23 (.tmp 4) rfl (.pointer (some ⟨q, 0, none⟩)) _ rfl (load23 hw.a)) hH ?_
        simp only [Act.put, List.setIfInBounds_toArray, List.set_cons_zero, List.set_cons_succ]
        refine take_to 1 25 (.agg #[.int .i64 B.ty, .int .i64 B.n, .string (strOf B.t), .bool B.b]) rfl (by kernel_rfl) (by kernel_rfl) (by kernel_rfl) (fun _ _ _ h => h) rfl (by rfl) (fun w hw => op_load _ _ 23 (.tmp 5) rfl (.pointer (some ⟨q + 1, 0, none⟩)) _ rfl (load23 hw.b)) hH ?_
        simp only [Act.put, List.setIfInBounds_toArray, List.set_cons_zero, List.set_cons_succ]
        refine take_to 5 29 (.agg #[.int .i64 A.ty, .int .i64 A.n, .string (strOf A.t), .bool A.b]) rfl (by kernel_rfl) (by kernel_rfl) (by kernel_rfl) (fun _ _ _ h => h) rfl (by rfl) (fun w hw => op_load _ _ 23 (.tmp 4) rfl (.pointer (some ⟨q, 0, none⟩)) _ rfl (load23 hw.a)) hH ?_
        simp only [Act.put, List.setIfInBounds_toArray, List.set_cons_zero, List.set_cons_succ]
        refine take_to 6 30 (.agg #[.int .i64 B.ty, .int .i64 B.n, .string (strOf B.t), .bool B.b]) rfl (by kernel_rfl) (by kernel_rfl) (by kernel_rfl) (fun _ _ _ h => h) rfl (by rfl) (fun w hw => op_load _ _ 23 (.tmp 5) rfl (.pointer (some ⟨q + 1, 0, none⟩)) _ rfl (load23 hw.b)) hH ?_
        simp only [Act.put, List.setIfInBounds_toArray, List.set_cons_zero, List.set_cons_succ]
        generalize W2.drew = U0 at *
        refine wpAnyH_all (rs := [2, 7]) (by kernel_rfl) (by simp) ?_
        intro n hn
        rcases (by simpa using hn : n = 2 ∨ n = 7) with rfl | rfl
        · skip
          have hU1 := allocW' hU0 (.cells #[.int .i64 A.ty, .int .i64 A.n, .string (strOf A.t), .bool A.b, .int .i64 B.ty, .int .i64 B.n, .string (strOf B.t), .bool B.b] 23)
          refine op_to 26 (.slice (some ⟨U0.heap.size, 0, none⟩) 2 2) (U0.alloc (.cells #[.int .i64 A.ty, .int .i64 A.n, .string (strOf A.t), .bool A.b, .int .i64 B.ty, .int .i64 B.n, .string (strOf B.t), .bool B.b] 23)) rfl rfl (by rfl) (op_build2 _ _ (.tmp 24) (.tmp 25) rfl A B rfl rfl _) ⟨HS.out.belowW hU1, ?_⟩
          simp only [Act.put, List.setIfInBounds_toArray, List.set_cons_zero, List.set_cons_succ]
          have v2 : VsAt (U0.alloc (.cells #[.int .i64 A.ty, .int .i64 A.n, .string (strOf A.t), .bool A.b, .int .i64 B.ty, .int .i64 B.n, .string (strOf B.t), .bool B.b] 23)) (.slice (some ⟨U0.heap.size, 0, none⟩) 2 2) [A, B] := vs2 _ _ _
          generalize hU1e : U0.alloc (.cells #[.int .i64 A.ty, .int .i64 A.n, .string (strOf A.t), .bool A.b, .int .i64 B.ty, .int .i64 B.n, .string (strOf B.t), .bool B.b] 23) = U1 at *
          clear hU1e
          generalize U0.heap.size = g2 at *
          refine wpAnyH_all (rs := [3, 7]) (by kernel_rfl) (by simp) ?_
          intro n hn
          rcases (by simpa using hn : n = 3 ∨ n = 7) with rfl | rfl
          · skip
            refine op_call1_to 27 39 rfl rfl (by rfl) (.tmp 26) _ rfl _ rfl Tryd.enters39 (HFI.out _ _ (v2)) ?_
            rintro e U2 ⟨rfl, hbU2⟩
            have hU2 := thenW hU1 hbU2
            refine ⟨_, rfl, HS.out.belowW hU2, ?_⟩
            simp only [Act.put, List.setIfInBounds_toArray, List.set_cons_zero, List.set_cons_succ]
            refine take_to 4 28 (.int .i64 F.ty) rfl (by kernel_rfl) (by kernel_rfl) (by kernel_rfl) (fun _ _ _ h => h) rfl (by rfl) (fun w hw => by rfl) (HS.out.belowW hU2) ?_
            simp only [Act.put, List.setIfInBounds_toArray, List.set_cons_zero, List.set_cons_succ]
            have hU3 := allocW' hU2 (.cells #[.int .i64 A.ty, .int .i64 A.n, .string (strOf A.t), .bool A.b, .int .i64 B.ty, .int .i64 B.n, .string (strOf B.t), .bool B.b] 23)
            refine step_to 7 31 (.slice (some ⟨U2.heap.size, 0, none⟩) 2 2) (U2.alloc (.cells #[.int .i64 A.ty, .int .i64 A.n, .string (strOf A.t), .bool A.b, .int .i64 B.ty, .int .i64 B.n, .string (strOf B.t), .bool B.b] 23)) rfl (by kernel_rfl) rfl (by rfl) (op_build2 _ _ (.tmp 29) (.tmp 30) rfl A B rfl rfl _) (HS.out.belowW hU3) ?_
            simp only [Act.put, List.setIfInBounds_toArray, List.set_cons_zero, List.set_cons_succ]
            have v7 : VsAt (U2.alloc (.cells #[.int .i64 A.ty, .int .i64 A.n, .string (strOf A.t), .bool A.b, .int .i64 B.ty, .int .i64 B.n, .string (strOf B.t), .bool B.b] 23)) (.slice (some ⟨U2.heap.size, 0, none⟩) 2 2) [A, B] := vs2 _ _ _
            generalize U2.alloc (.cells #[.int .i64 A.ty, .int .i64 A.n, .string (strOf A.t), .bool A.b, .int .i64 B.ty, .int .i64 B.n, .string (strOf B.t), .bool B.b] 23) = U3 at *
            generalize U2.heap.size = g7 at *
            refine step_call2_to 8 32 38 rfl (by kernel_rfl) rfl (by rfl) (.tmp 28) (.tmp 31) _ rfl _ _ rfl rfl Tryd.enters38 (HKN.out _ _ (v7)) ?_
            rintro e U4 ⟨rfl, hbU4⟩
            have hU4 := thenW hU3 hbU4
            refine ⟨_, rfl, HS.out.belowW hU4, ?_⟩
            simp only [Act.put, List.setIfInBounds_toArray, List.set_cons_zero, List.set_cons_succ]
            refine take_to 9 23 (.tuple #[.bool false, .int .i64 0]) rfl (by kernel_rfl) (by kernel_rfl) (by kernel_rfl) (fun _ _ _ h => h) rfl (by rfl) (fun w hw => by rfl) (HS.out.belowW hU4) ?_
            simp only [Act.put, List.setIfInBounds_toArray, List.set_cons_zero, List.set_cons_succ]
            refine take_to 10 33 (.bool false) rfl (by kernel_rfl) (by kernel_rfl) (by kernel_rfl) (fun _ _ _ h => h) rfl (by rfl) (fun w hw => by rfl) (HS.out.belowW hU4) ?_
            simp only [Act.put, List.setIfInBounds_toArray, List.set_cons_zero, List.set_cons_succ]
            refine take_to 11 34 (.int .i64 0) rfl (by kernel_rfl) (by kernel_rfl) (by kernel_rfl) (fun _ _ _ h => h) rfl (by rfl) (fun w hw => by rfl) (HS.out.belowW hU4) ?_
            simp only [Act.put, List.setIfInBounds_toArray, List.set_cons_zero, List.set_cons_succ]
            refine step_to 12 10 (.bool false) _ rfl (by kernel_rfl) rfl (by rfl) rfl (HS.out.belowW hU4) ?_
            simp only [Act.put, List.setIfInBounds_toArray, List.set_cons_zero, List.set_cons_succ]
            refine step_to 13 11 (.int .i64 0) _ rfl (by kernel_rfl) rfl (by rfl) rfl (HS.out.belowW hU4) ?_
            simp only [Act.put, List.setIfInBounds_toArray, List.set_cons_zero, List.set_cons_succ]
            refine wpAnyH_done (by kernel_rfl) ?_ _
            have HT9 := hide (HT2.out.belowW hU4)
            go_wp2_with (refine wpList_store_val rfl (.tmp 6) (.tmp 41) rfl rfl (q + 2) Vl.zero Vl.zero rfl rfl HT9.out.r ?_)
            refine bodyPost_ret (v := telling Vl.zero 0) (results_ct Tryd.results12 _ _ (q + 2) 23 _ (0, 0) _ rfl (Box.after HT9.out.r Vl.zero) Tryd.underlying23 rfl Tryd.size23) rfl ?_
            rw [HE.out]
            exact ⟨rfl, below_setRow (thenW (thenW HB1.out HB2.out) hU4) (by rw [HQ.out]; omega) _⟩
          · skip
            have hU2 := allocW' hU1 (.cells #[.int .i64 A.ty, .int .i64 A.n, .string (strOf A.t), .bool A.b, .int .i64 B.ty, .int .i64 B.n, .string (strOf B.t), .bool B.b] 23)
            refine op_to 31 (.slice (some ⟨U1.heap.size, 0, none⟩) 2 2) (U1.alloc (.cells #[.int .i64 A.ty, .int .i64 A.n, .string (strOf A.t), .bool A.b, .int .i64 B.ty, .int .i64 B.n, .string (strOf B.t), .bool B.b] 23)) rfl rfl (by rfl) (op_build2 _ _ (.tmp 29) (.tmp 30) rfl A B rfl rfl _) ⟨HS.out.belowW hU2, ?_⟩
            simp only [Act.put, List.setIfInBounds_toArray, List.set_cons_zero, List.set_cons_succ]
            have v7 : VsAt (U1.alloc (.cells #[.int .i64 A.ty, .int .i64 A.n, .string (strOf A.t), .bool A.b, .int .i64 B.ty, .int .i64 B.n, .string (strOf B.t), .bool B.b] 23)) (.slice (some ⟨U1.heap.size, 0, none⟩) 2 2) [A, B] := vs2 _ _ _
            have v2' := v2.belowW ((Below.refl _ _).alloc (Nat.le_refl _) (.cells #[.int .i64 A.ty, .int .i64 A.n, .string (strOf A.t), .bool A.b, .int .i64 B.ty, .int .i64 B.n, .string (strOf B.t), .bool B.b] 23))
            generalize U1.alloc (.cells #[.int .i64 A.ty, .int .i64 A.n, .string (strOf A.t), .bool A.b, .int .i64 B.ty, .int .i64 B.n, .string (strOf B.t), .bool B.b] 23) = U2 at *
            generalize U1.heap.size = g7 at *
            refine step_call1_to 3 27 39 rfl (by kernel_rfl) rfl (by rfl) (.tmp 26) _ rfl _ rfl Tryd.enters39 (HFI.out _ _ (v2')) ?_
            rintro e U3 ⟨rfl, hbU3⟩
            have hU3 := thenW hU2 hbU3
            refine ⟨_, rfl, HS.out.belowW hU3, ?_⟩
            simp only [Act.put, List.setIfInBounds_toArray, List.set_cons_zero, List.set_cons_succ]
            refine take_to 4 28 (.int .i64 F.ty) rfl (by kernel_rfl) (by kernel_rfl) (by kernel_rfl) (fun _ _ _ h => h) rfl (by rfl) (fun w hw => by rfl) (HS.out.belowW hU3) ?_
            simp only [Act.put, List.setIfInBounds_toArray, List.set_cons_zero, List.set_cons_succ]
            refine step_call2_to 8 32 38 rfl (by kernel_rfl) rfl (by rfl) (.tmp 28) (.tmp 31) _ rfl _ _ rfl rfl Tryd.enters38 (HKN.out _ _ (v7.belowW hbU3)) ?_
            rintro e U4 ⟨rfl, hbU4⟩
            have hU4 := thenW hU3 hbU4
            refine ⟨_, rfl, HS.out.belowW hU4, ?_⟩
            simp only [Act.put, List.setIfInBounds_toArray, List.set_cons_zero, List.set_cons_succ]
            refine take_to 9 23 (.tuple #[.bool false, .int .i64 0]) rfl (by kernel_rfl) (by kernel_rfl) (by kernel_rfl) (fun _ _ _ h => h) rfl (by rfl) (fun w hw => by rfl) (HS.out.belowW hU4) ?_
            simp only [Act.put, List.setIfInBounds_toArray, List.set_cons_zero, List.set_cons_succ]
            refine take_to 10 33 (.bool false) rfl (by kernel_rfl) (by kernel_rfl) (by kernel_rfl) (fun _ _ _ h => h) rfl (by rfl) (fun w hw => by rfl) (HS.out.belowW hU4) ?_
            simp only [Act.put, List.setIfInBounds_toArray, List.set_cons_zero, List.set_cons_succ]
            refine take_to 11 34 (.int .i64 0) rfl (by kernel_rfl) (by kernel_rfl) (by kernel_rfl) (fun _ _ _ h => h) rfl (by rfl) (fun w hw => by rfl) (HS.out.belowW hU4) ?_
            simp only [Act.put, List.setIfInBounds_toArray, List.set_cons_zero, List.set_cons_succ]
            refine step_to 12 10 (.bool false) _ rfl (by kernel_rfl) rfl (by rfl) rfl (HS.out.belowW hU4) ?_
            simp only [Act.put, List.setIfInBounds_toArray, List.set_cons_zero, List.set_cons_succ]
            refine step_to 13 11 (.int .i64 0) _ rfl (by kernel_rfl) rfl (by rfl) rfl (HS.out.belowW hU4) ?_
            simp only [Act.put, List.setIfInBounds_toArray, List.set_cons_zero, List.set_cons_succ]
            refine wpAnyH_done (by kernel_rfl) ?_ _
            have HT9 := hide (HT2.out.belowW hU4)
            go_wp2_with (refine wpList_store_val rfl (.tmp 6) (.tmp 41) rfl rfl (q + 2) Vl.zero Vl.zero rfl rfl HT9.out.r ?_)
            refine bodyPost_ret (v := telling Vl.zero 0) (results_ct Tryd.results12 _ _ (q + 2) 23 _ (0, 0) _ rfl (Box.after HT9.out.r Vl.zero) Tryd.underlying23 rfl Tryd.size23) rfl ?_
            rw [HE.out]
            exact ⟨rfl, below_setRow (thenW (thenW HB1.out HB2.out) hU4) (by rw [HQ.out]; omega) _⟩
        · skip
          have hU1 := allocW' hU0 (.cells #[.int .i64 A.ty, .int .i64 A.n, .string (strOf A.t), .bool A.b, .int .i64 B.ty, .int .i64 B.n, .string (strOf B.t), .bool B.b] 23)
          refine op_to 31 (.slice (some ⟨U0.heap.size, 0, none⟩) 2 2) (U0.alloc (.cells #[.int .i64 A.ty, .int .i64 A.n, .string (strOf A.t), .bool A.b, .int .i64 B.ty, .int .i64 B.n, .string (strOf B.t), .bool B.b] 23)) rfl rfl (by rfl) (op_build2 _ _ (.tmp 29) (.tmp 30) rfl A B rfl rfl _) ⟨HS.out.belowW hU1, ?_⟩
          simp only [Act.put, List.setIfInBounds_toArray, List.set_cons_zero, List.set_cons_succ]
          have v7 : VsAt (U0.alloc (.cells #[.int .i64 A.ty, .int .i64 A.n, .string (strOf A.t), .bool A.b, .int .i64 B.ty, .int .i64 B.n, .string (strOf B.t), .bool B.b] 23)) (.slice (some ⟨U0.heap.size, 0, none⟩) 2 2) [A, B] := vs2 _ _ _
          generalize U0.alloc (.cells #[.int .i64 A.ty, .int .i64 A.n, .string (strOf A.t), .bool A.b, .int .i64 B.ty, .int .i64 B.n, .string (strOf B.t), .bool B.b] 23) = U1 at *
          generalize U0.heap.size = g7 at *
          have hU2 := allocW' hU1 (.cells #[.int .i64 A.ty, .int .i64 A.n, .string (strOf A.t), .bool A.b, .int .i64 B.ty, .int .i64 B.n, .string (strOf B.t), .bool B.b] 23)
          refine step_to 2 26 (.slice (some ⟨U1.heap.size, 0, none⟩) 2 2) (U1.alloc (.cells #[.int .i64 A.ty, .int .i64 A.n, .string (strOf A.t), .bool A.b, .int .i64 B.ty, .int .i64 B.n, .string (strOf B.t), .bool B.b] 23)) rfl (by kernel_rfl) rfl (by rfl) (op_build2 _ _ (.tmp 24) (.tmp 25) rfl A B rfl rfl _) (HS.out.belowW hU2) ?_
          simp only [Act.put, List.setIfInBounds_toArray, List.set_cons_zero, List.set_cons_succ]
          have v2 : VsAt (U1.alloc (.cells #[.int .i64 A.ty, .int .i64 A.n, .string (strOf A.t), .bool A.b, .int .i64 B.ty, .int .i64 B.n, .string (strOf B.t), .bool B.b] 23)) (.slice (some ⟨U1.heap.size, 0, none⟩) 2 2) [A, B] := vs2 _ _ _
          have v7' := v7.belowW ((Below.refl _ _).alloc (Nat.le_refl _) (.cells #[.int .i64 A.ty, .int .i64 A.n, .string (strOf A.t), .bool A.b, .int .i64 B.ty, .int .i64 B.n, .string (strOf B.t), .bool B.b] 23))
          generalize U1.alloc (.cells #[.int .i64 A.ty, .int .i64 A.n, .string (strOf A.t), .bool A.b, .int .i64 B.ty, .int .i64 B.n, .string (strOf B.t), .bool B.b] 23) = U2 at *
          generalize U1.heap.size = g2 at *
          refine step_call1_to 3 27 39 rfl (by kernel_rfl) rfl (by rfl) (.tmp 26) _ rfl _ rfl Tryd.enters39 (HFI.out _ _ (v2)) ?_
          rintro e U3 ⟨rfl, hbU3⟩
          have hU3 := thenW hU2 hbU3
          refine ⟨_, rfl, HS.out.belowW hU3, ?_⟩
          simp only [Act.put, List.setIfInBounds_toArray, List.set_cons_zero, List.set_cons_succ]
          refine take_to 4 28 (.int .i64 F.ty) rfl (by kernel_rfl) (by kernel_rfl) (by kernel_rfl) (fun _ _ _ h => h) rfl (by rfl) (fun w hw => by rfl) (HS.out.belowW hU3) ?_
          simp only [Act.put, List.setIfInBounds_toArray, List.set_cons_zero, List.set_cons_succ]
          refine step_call2_to 8 32 38 rfl (by kernel_rfl) rfl (by rfl) (.tmp 28) (.tmp 31) _ rfl _ _ rfl rfl Tryd.enters38 (HKN.out _ _ (v7'.belowW hbU3)) ?_
          rintro e U4 ⟨rfl, hbU4⟩
          have hU4 := thenW hU3 hbU4
          refine ⟨_, rfl, HS.out.belowW hU4, ?_⟩
          simp only [Act.put, List.setIfInBounds_toArray, List.set_cons_zero, List.set_cons_succ]
          refine take_to 9 23 (.tuple #[.bool false, .int .i64 0]) rfl (by kernel_rfl) (by kernel_rfl) (by kernel_rfl) (fun _ _ _ h => h) rfl (by rfl) (fun w hw => by rfl) (HS.out.belowW hU4) ?_
          simp only [Act.put, List.setIfInBounds_toArray, List.set_cons_zero, List.set_cons_succ]
          refine take_to 10 33 (.bool false) rfl (by kernel_rfl) (by kernel_rfl) (by kernel_rfl) (fun _ _ _ h => h) rfl (by rfl) (fun w hw => by rfl) (HS.out.belowW hU4) ?_
          simp only [Act.put, List.setIfInBounds_toArray, List.set_cons_zero, List.set_cons_succ]
          refine take_to 11 34 (.int .i64 0) rfl (by kernel_rfl) (by kernel_rfl) (by kernel_rfl) (fun _ _ _ h => h) rfl (by rfl) (fun w hw => by rfl) (HS.out.belowW hU4) ?_
          simp only [Act.put, List.setIfInBounds_toArray, List.set_cons_zero, List.set_cons_succ]
          refine step_to 12 10 (.bool false) _ rfl (by kernel_rfl) rfl (by rfl) rfl (HS.out.belowW hU4) ?_
          simp only [Act.put, List.setIfInBounds_toArray, List.set_cons_zero, List.set_cons_succ]
          refine step_to 13 11 (.int .i64 0) _ rfl (by kernel_rfl) rfl (by rfl) rfl (HS.out.belowW hU4) ?_
          simp only [Act.put, List.setIfInBounds_toArray, List.set_cons_zero, List.set_cons_succ]
          refine wpAnyH_done (by kernel_rfl) ?_ _
          have HT9 := hide (HT2.out.belowW hU4)
          go_wp2_with (refine wpList_store_val rfl (.tmp 6) (.tmp 41) rfl rfl (q + 2) Vl.zero Vl.zero rfl rfl HT9.out.r ?_)
          refine bodyPost_ret (v := telling Vl.zero 0) (results_ct Tryd.results12 _ _ (q + 2) 23 _ (0, 0) _ rfl (Box.after HT9.out.r Vl.zero) Tryd.underlying23 rfl Tryd.size23) rfl ?_
          rw [HE.out]
          exact ⟨rfl, below_setRow (thenW (thenW HB1.out HB2.out) hU4) (by rw [HQ.out]; omega) _⟩
      · skip
        have HE : Hid (mp = (bV hb, 0)) := HMP.out
        clear HMP
        go_enter Tryd.func12, Tryd.ntmps12
        go_upto_region 1 with fail
        try rw [hW1]
        clear hW1
        generalize hq : w.heap.size = q at HT1 ⊢
        have HQ := hide hq
        clear hq
        obtain ⟨a0, a1, a2, a3⟩ := HT1.out.a.cells
        obtain ⟨b0, b1, b2, b3⟩ := HT1.out.b.cells
        go_upto_region 4 with (first | (go_at_call 37; refine (HCM.out _).mono ?_; rintro e W2 ⟨rfl, hb2⟩; have HB2 := hide hb2; clear hb2; have HT2 := hide (HT1.out.belowW HB2.out)) | (go_at_call 36; refine (HHO.out _).mono ?_; rintro e w' ⟨rfl, hw⟩; have hw := hw.symm; subst hw))
        clear a0 a1 a2 a3 b0 b1 b2 b3 HCM HHO
        have HS := hide (show TwoAB q A B W2 from ⟨HT2.out.a, HT2.out.b⟩)
        have hU0 : Below W2.heap.size W2 W2.drew := below_drewN _ _ 1
        refine wp_region_held_drew (S := TwoAB q A B) (by kernel_rfl) (HS.out.belowW hU0) (fun hH => ?_)
        refine take_to 0 24 (.agg #[.int .i64 A.ty, .int .i64 A.n, .string (strOf A.t), .bool A.b]) rfl (by kernel_rfl) (by kernel_rfl) (by kernel_rfl) (fun _ _ _ h => h) rfl (by rfl) (fun w hw => op_load _ _ 23 (.tmp 4) rfl (.pointer (some ⟨q, 0, none⟩)) _ rfl (load23 hw.a)) hH ?_
        simp only [Act.put, List.setIfInBounds_toArray, List.set_cons_zero, List.set_cons_succ]
        refine take_to 1 25 (.agg #[.int .i64 B.ty, .int .i64 B.n, .string (strOf B.t), .bool B.b]) rfl (by kernel_rfl) (by kernel_rfl) (by kernel_rfl) (fun _ _ _ h => h) rfl (by rfl) (fun w hw => op_load _ _ 23 (.tmp 5) rfl (.pointer (some ⟨q + 1, 0, none⟩)) _ rfl (load23 hw.b)) hH ?_
        simp only [Act.put, List.setIfInBounds_toArray, List.set_cons_zero, List.set_cons_succ]
        refine take_to 5 29 (.agg #[.int .i64 A.ty, .int .i64 A.n, .string (strOf A.t), .bool A.b]) rfl (by kernel_rfl) (by kernel_rfl) (by kernel_rfl) (fun _ _ _ h => h) rfl (by rfl) (fun w hw => op_load _ _ 23 (.tmp 4) rfl (.pointer (some ⟨q, 0, none⟩)) _ rfl (load23 hw.a)) hH ?_
        simp only [Act.put, List.setIfInBounds_toArray, List.set_cons_zero, List.set_cons_succ]
        refine take_to 6 30 (.agg #[.int .i64 B.ty, .int .i64 B.n, .string (strOf B.t), .bool B.b]) rfl (by kernel_rfl) (by kernel_rfl) (by kernel_rfl) (fun _ _ _ h => h) rfl (by rfl) (fun w hw => op_load _ _ 23 (.tmp 5) rfl (.pointer (some ⟨q + 1, 0, none⟩)) _ rfl (load23 hw.b)) hH ?_
        simp only [Act.put, List.setIfInBounds_toArray, List.set_cons_zero, List.set_cons_succ]
        generalize W2.drew = U0 at *
        refine wpAnyH_all (rs := [2, 7]) (by kernel_rfl) (by simp) ?_
        intro n hn
        rcases (by simpa using hn : n = 2 ∨ n = 7) with rfl | rfl
        · skip
          have hU1 := allocW' hU0 (.cells #[.int .i64 A.ty, .int .i64 A.n, .string (strOf A.t), .bool A.b, .int .i64 B.ty, .int .i64 B.n, .string (strOf B.t), .bool B.b] 23)
          refine op_to 26 (.slice (some ⟨U0.heap.size, 0, none⟩) 2 2) (U0.alloc (.cells #[.int .i64 A.ty, .int .i64 A.n, .string (strOf A.t), .bool A.b, .int .i64 B.ty, .int .i64 B.n, .string (strOf B.t), .bool B.b] 23)) rfl rfl (by rfl) (op_build2 _ _ (.tmp 24) (.tmp 25) rfl A B rfl rfl _) ⟨HS.out.belowW hU1, ?_⟩
          simp only [Act.put, List.setIfInBounds_toArray, List.set_cons_zero, List.set_cons_succ]
          have v2 : VsAt (U0.alloc (.cells #[.int .i64 A.ty, .int .i64 A.n, .string (strOf A.t), .bool A.b, .int .i64 B.ty, .int .i64 B.n, .string (strOf B.t), .bool B.b] 23)) (.slice (some ⟨U0.heap.size, 0, none⟩) 2 2) [A, B] := vs2 _ _ _
          generalize hU1e : U0.alloc (.cells #[.int .i64 A.ty, .int .i64 A.n, .string (strOf A.t), .bool A.b, .int .i64 B.ty, .int .i64 B.n, .string (strOf B.t), .bool B.b] 23) = U1 at *
          clear hU1e
          generalize U0.heap.size = g2 at *
          refine wpAnyH_all (rs := [3, 7]) (by kernel_rfl) (by simp) ?_
          intro n hn
          rcases (by simpa using hn : n = 3 ∨ n = 7) with rfl | rfl
          · skip
            refine op_call1_to 27 39 rfl rfl (by rfl) (.tmp 26) _ rfl _ rfl Tryd.enters39 (HFI.out _ _ (v2)) ?_
            rintro e U2 ⟨rfl, hbU2⟩
            have hU2 := thenW hU1 hbU2
            refine ⟨_, rfl, HS.out.belowW hU2, ?_⟩
            simp only [Act.put, List.setIfInBounds_toArray, List.set_cons_zero, List.set_cons_succ]
            refine take_to 4 28 (.int .i64 F.ty) rfl (by kernel_rfl) (by kernel_rfl) (by kernel_rfl) (fun _ _ _ h => h) rfl (by rfl) (fun w hw => by rfl) (HS.out.belowW hU2) ?_
            simp only [Act.put, List.setIfInBounds_toArray, List.set_cons_zero, List.set_cons_succ]
            have hU3 := allocW' hU2 (.cells #[.int .i64 A.ty, .int .i64 A.n, .string (strOf A.t), .bool A.b, .int .i64 B.ty, .int .i64 B.n, .string (strOf B.t), .bool B.b] 23)
            refine step_to 7 31 (.slice (some ⟨U2.heap.size, 0, none⟩) 2 2) (U2.alloc (.cells #[.int .i64 A.ty, .int .i64 A.n, .string (strOf A.t), .bool A.b, .int .i64 B.ty, .int .i64 B.n, .string (strOf B.t), .bool B.b] 23)) rfl (by kernel_rfl) rfl (by rfl) (op_build2 _ _ (.tmp 29) (.tmp 30) rfl A B rfl rfl _) (HS.out.belowW hU3) ?_
            simp only [Act.put, List.setIfInBounds_toArray, List.set_cons_zero, List.set_cons_succ]
            have v7 : VsAt (U2.alloc (.cells #[.int .i64 A.ty, .int .i64 A.n, .string (strOf A.t), .bool A.b, .int .i64 B.ty, .int .i64 B.n, .string (strOf B.t), .bool B.b] 23)) (.slice (some ⟨U2.heap.size, 0, none⟩) 2 2) [A, B] := vs2 _ _ _
            generalize U2.alloc (.cells #[.int .i64 A.ty, .int .i64 A.n, .string (strOf A.t), .bool A.b, .int .i64 B.ty, .int .i64 B.n, .string (strOf B.t), .bool B.b] 23) = U3 at *
            generalize U2.heap.size = g7 at *
            refine step_call2_to 8 32 38 rfl (by kernel_rfl) rfl (by rfl) (.tmp 28) (.tmp 31) _ rfl _ _ rfl rfl Tryd.enters38 (HKN.out _ _ (v7)) ?_
            rintro e U4 ⟨rfl, hbU4⟩
            have hU4 := thenW hU3 hbU4
            refine ⟨_, rfl, HS.out.belowW hU4, ?_⟩
            simp only [Act.put, List.setIfInBounds_toArray, List.set_cons_zero, List.set_cons_succ]
            refine take_to 9 23 (.tuple #[.bool true, .int .i64 0]) rfl (by kernel_rfl) (by kernel_rfl) (by kernel_rfl) (fun _ _ _ h => h) rfl (by rfl) (fun w hw => by rfl) (HS.out.belowW hU4) ?_
            simp only [Act.put, List.setIfInBounds_toArray, List.set_cons_zero, List.set_cons_succ]
            refine take_to 10 33 (.bool true) rfl (by kernel_rfl) (by kernel_rfl) (by kernel_rfl) (fun _ _ _ h => h) rfl (by rfl) (fun w hw => by rfl) (HS.out.belowW hU4) ?_
            simp only [Act.put, List.setIfInBounds_toArray, List.set_cons_zero, List.set_cons_succ]
            refine take_to 11 34 (.int .i64 0) rfl (by kernel_rfl) (by kernel_rfl) (by kernel_rfl) (fun _ _ _ h => h) rfl (by rfl) (fun w hw => by rfl) (HS.out.belowW hU4) ?_
            simp only [Act.put, List.setIfInBounds_toArray, List.set_cons_zero, List.set_cons_succ]
            refine step_to 12 10 (.bool true) _ rfl (by kernel_rfl) rfl (by rfl) rfl (HS.out.belowW hU4) ?_
            simp only [Act.put, List.setIfInBounds_toArray, List.set_cons_zero, List.set_cons_succ]
            refine step_to 13 11 (.int .i64 0) _ rfl (by kernel_rfl) rfl (by rfl) rfl (HS.out.belowW hU4) ?_
            simp only [Act.put, List.setIfInBounds_toArray, List.set_cons_zero, List.set_cons_succ]
            refine wpAnyH_done (by kernel_rfl) ?_ _
            have HT9 := hide (HT2.out.belowW hU4)
            go_wp2_with (refine wpList_store_val rfl (.tmp 6) (.tmp 44) rfl rfl (q + 2) Vl.zero (bV hb) rfl rfl HT9.out.r ?_)
            refine bodyPost_ret (v := telling (bV hb) 0) (results_ct Tryd.results12 _ _ (q + 2) 23 _ (0, 0) _ rfl (Box.after HT9.out.r (bV hb)) Tryd.underlying23 rfl Tryd.size23) rfl ?_
            rw [HE.out]
            exact ⟨rfl, below_setRow (thenW (thenW HB1.out HB2.out) hU4) (by rw [HQ.out]; omega) _⟩
          · skip
            have hU2 := allocW' hU1 (.cells #[.int .i64 A.ty, .int .i64 A.n, .string (strOf A.t), .bool A.b, .int .i64 B.ty, .int .i64 B.n, .string (strOf B.t), .bool B.b] 23)
            refine op_to 31 (.slice (some ⟨U1.heap.size, 0, none⟩) 2 2) (U1.alloc (.cells #[.int .i64 A.ty, .int .i64 A.n, .string (strOf A.t), .bool A.b, .int .i64 B.ty, .int .i64 B.n, .string (strOf B.t), .bool B.b] 23)) rfl rfl (by rfl) (op_build2 _ _ (.tmp 29) (.tmp 30) rfl A B rfl rfl _) ⟨HS.out.belowW hU2, ?_⟩
            simp only [Act.put, List.setIfInBounds_toArray, List.set_cons_zero, List.set_cons_succ]
            have v7 : VsAt (U1.alloc (.cells #[.int .i64 A.ty, .int .i64 A.n, .string (strOf A.t), .bool A.b, .int .i64 B.ty, .int .i64 B.n, .string (strOf B.t), .bool B.b] 23)) (.slice (some ⟨U1.heap.size, 0, none⟩) 2 2) [A, B] := vs2 _ _ _
            have v2' := v2.belowW ((Below.refl _ _).alloc (Nat.le_refl _) (.cells #[.int .i64 A.ty, .int .i64 A.n, .string (strOf A.t), .bool A.b, .int .i64 B.ty, .int .i64 B.n, .string (strOf B.t), .bool B.b] 23))
            generalize U1.alloc (.cells #[.int .i64 A.ty, .int .i64 A.n, .string (strOf A.t), .bool A.b, .int .i64 B.ty, .int .i64 B.n, .string (strOf B.t), .bool B.b] 23) = U2 at *
            generalize U1.heap.size = g7 at *
            refine step_call1_to 3 27 39 rfl (by kernel_rfl) rfl (by rfl) (.tmp 26) _ rfl _ rfl Tryd.enters39 (HFI.out _ _ (v2')) ?_
            rintro e U3 ⟨rfl, hbU3⟩
            have hU3 := thenW hU2 hbU3
            refine ⟨_, rfl, HS.out.belowW hU3, ?_⟩
            simp only [Act.put, List.setIfInBounds_toArray, List.set_cons_zero, List.set_cons_succ]
            refine take_to 4 28 (.int .i64 F.ty) rfl (by kernel_rfl) (by kernel_rfl) (by kernel_rfl) (fun _ _ _ h => h) rfl (by rfl) (fun w hw => by rfl) (HS.out.belowW hU3) ?_
            simp only [Act.put, List.setIfInBounds_toArray, List.set_cons_zero, List.set_cons_succ]
            refine step_call2_to 8 32 38 rfl (by kernel_rfl) rfl (by rfl) (.tmp 28) (.tmp 31) _ rfl _ _ rfl rfl Tryd.enters38 (HKN.out _ _ (v7.belowW hbU3)) ?_
            rintro e U4 ⟨rfl, hbU4⟩
            have hU4 := thenW hU3 hbU4
            refine ⟨_, rfl, HS.out.belowW hU4, ?_⟩
            simp only [Act.put, List.setIfInBounds_toArray, List.set_cons_zero, List.set_cons_succ]
            refine take_to 9 23 (.tuple #[.bool true, .int .i64 0]) rfl (by kernel_rfl) (by kernel_rfl) (by kernel_rfl) (fun _ _ _ h => h) rfl (by rfl) (fun w hw => by rfl) (HS.out.belowW hU4) ?_
            simp only [Act.put, List.setIfInBounds_toArray, List.set_cons_zero, List.set_cons_succ]
            refine take_to 10 33 (.bool true) rfl (by kernel_rfl) (by kernel_rfl) (by kernel_rfl) (fun _ _ _ h => h) rfl (by rfl) (fun w hw => by rfl) (HS.out.belowW hU4) ?_
            simp only [Act.put, List.setIfInBounds_toArray, List.set_cons_zero, List.set_cons_succ]
            refine take_to 11 34 (.int .i64 0) rfl (by kernel_rfl) (by kernel_rfl) (by kernel_rfl) (fun _ _ _ h => h) rfl (by rfl) (fun w hw => by rfl) (HS.out.belowW hU4) ?_
            simp only [Act.put, List.setIfInBounds_toArray, List.set_cons_zero, List.set_cons_succ]
            refine step_to 12 10 (.bool true) _ rfl (by kernel_rfl) rfl (by rfl) rfl (HS.out.belowW hU4) ?_
            simp only [Act.put, List.setIfInBounds_toArray, List.set_cons_zero, List.set_cons_succ]
            refine step_to 13 11 (.int .i64 0) _ rfl (by kernel_rfl) rfl (by rfl) rfl (HS.out.belowW hU4) ?_
            simp only [Act.put, List.setIfInBounds_toArray, List.set_cons_zero, List.set_cons_succ]
            refine wpAnyH_done (by kernel_rfl) ?_ _
            have HT9 := hide (HT2.out.belowW hU4)
            go_wp2_with (refine wpList_store_val rfl (.tmp 6) (.tmp 44) rfl rfl (q + 2) Vl.zero (bV hb) rfl rfl HT9.out.r ?_)
            refine bodyPost_ret (v := telling (bV hb) 0) (results_ct Tryd.results12 _ _ (q + 2) 23 _ (0, 0) _ rfl (Box.after HT9.out.r (bV hb)) Tryd.underlying23 rfl Tryd.size23) rfl ?_
            rw [HE.out]
            exact ⟨rfl, below_setRow (thenW (thenW HB1.out HB2.out) hU4) (by rw [HQ.out]; omega) _⟩
        · skip
          have hU1 := allocW' hU0 (.cells #[.int .i64 A.ty, .int .i64 A.n, .string (strOf A.t), .bool A.b, .int .i64 B.ty, .int .i64 B.n, .string (strOf B.t), .bool B.b] 23)
          refine op_to 31 (.slice (some ⟨U0.heap.size, 0, none⟩) 2 2) (U0.alloc (.cells #[.int .i64 A.ty, .int .i64 A.n, .string (strOf A.t), .bool A.b, .int .i64 B.ty, .int .i64 B.n, .string (strOf B.t), .bool B.b] 23)) rfl rfl (by rfl) (op_build2 _ _ (.tmp 29) (.tmp 30) rfl A B rfl rfl _) ⟨HS.out.belowW hU1, ?_⟩
          simp only [Act.put, List.setIfInBounds_toArray, List.set_cons_zero, List.set_cons_succ]
          have v7 : VsAt (U0.alloc (.cells #[.int .i64 A.ty, .int .i64 A.n, .string (strOf A.t), .bool A.b, .int .i64 B.ty, .int .i64 B.n, .string (strOf B.t), .bool B.b] 23)) (.slice (some ⟨U0.heap.size, 0, none⟩) 2 2) [A, B] := vs2 _ _ _
          generalize U0.alloc (.cells #[.int .i64 A.ty, .int .i64 A.n, .string (strOf A.t), .bool A.b, .int .i64 B.ty, .int .i64 B.n, .string (strOf B.t), .bool B.b] 23) = U1 at *
          generalize U0.heap.size = g7 at *
          have hU2 := allocW' hU1 (.cells #[.int .i64 A.ty, .int .i64 A.n, .string (strOf A.t), .bool A.b, .int .i64 B.ty, .int .i64 B.n, .string (strOf B.t), .bool B.b] 23)
          refine step_to 2 26 (.slice (some ⟨U1.heap.size, 0, none⟩) 2 2) (U1.alloc (.cells #[.int .i64 A.ty, .int .i64 A.n, .string (strOf A.t), .bool A.b, .int .i64 B.ty, .int .i64 B.n, .string (strOf B.t), .bool B.b] 23)) rfl (by kernel_rfl) rfl (by rfl) (op_build2 _ _ (.tmp 24) (.tmp 25) rfl A B rfl rfl _) (HS.out.belowW hU2) ?_
          simp only [Act.put, List.setIfInBounds_toArray, List.set_cons_zero, List.set_cons_succ]
          have v2 : VsAt (U1.alloc (.cells #[.int .i64 A.ty, .int .i64 A.n, .string (strOf A.t), .bool A.b, .int .i64 B.ty, .int .i64 B.n, .string (strOf B.t), .bool B.b] 23)) (.slice (some ⟨U1.heap.size, 0, none⟩) 2 2) [A, B] := vs2 _ _ _
          have v7' := v7.belowW ((Below.refl _ _).alloc (Nat.le_refl _) (.cells #[.int .i64 A.ty, .int .i64 A.n, .string (strOf A.t), .bool A.b, .int .i64 B.ty, .int .i64 B.n, .string (strOf B.t), .bool B.b] 23))
          generalize U1.alloc (.cells #[.int .i64 A.ty, .int .i64 A.n, .string (strOf A.t), .bool A.b, .int .i64 B.ty, .int .i64 B.n, .string (strOf B.t), .bool B.b] 23) = U2 at *
          generalize U1.heap.size = g2 at *
          refine step_call1_to 3 27 39 rfl (by kernel_rfl) rfl (by rfl) (.tmp 26) _ rfl _ rfl Tryd.enters39 (HFI.out _ _ (v2)) ?_
          rintro e U3 ⟨rfl, hbU3⟩
          have hU3 := thenW hU2 hbU3
          refine ⟨_, rfl, HS.out.belowW hU3, ?_⟩
          simp only [Act.put, List.setIfInBounds_toArray, List.set_cons_zero, List.set_cons_succ]
          refine take_to 4 28 (.int .i64 F.ty) rfl (by kernel_rfl) (by kernel_rfl) (by kernel_rfl) (fun _ _ _ h => h) rfl (by rfl) (fun w hw => by rfl) (HS.out.belowW hU3) ?_
          simp only [Act.put, List.setIfInBounds_toArray, List.set_cons_zero, List.set_cons_succ]
          refine step_call2_to 8 32 38 rfl (by kernel_rfl) rfl (by rfl) (.tmp 28) (.tmp 31) _ rfl _ _ rfl rfl Tryd.enters38 (HKN.out _ _ (v7'.belowW hbU3)) ?_
          rintro e U4 ⟨rfl, hbU4⟩
          have hU4 := thenW hU3 hbU4
          refine ⟨_, rfl, HS.out.belowW hU4, ?_⟩
          simp only [Act.put, List.setIfInBounds_toArray, List.set_cons_zero, List.set_cons_succ]
          refine take_to 9 23 (.tuple #[.bool true, .int .i64 0]) rfl (by kernel_rfl) (by kernel_rfl) (by kernel_rfl) (fun _ _ _ h => h) rfl (by rfl) (fun w hw => by rfl) (HS.out.belowW hU4) ?_
          simp only [Act.put, List.setIfInBounds_toArray, List.set_cons_zero, List.set_cons_succ]
          refine take_to 10 33 (.bool true) rfl (by kernel_rfl) (by kernel_rfl) (by kernel_rfl) (fun _ _ _ h => h) rfl (by rfl) (fun w hw => by rfl) (HS.out.belowW hU4) ?_
          simp only [Act.put, List.setIfInBounds_toArray, List.set_cons_zero, List.set_cons_succ]
          refine take_to 11 34 (.int .i64 0) rfl (by kernel_rfl) (by kernel_rfl) (by kernel_rfl) (fun _ _ _ h => h) rfl (by rfl) (fun w hw => by rfl) (HS.out.belowW hU4) ?_
          simp only [Act.put, List.setIfInBounds_toArray, List.set_cons_zero, List.set_cons_succ]
          refine step_to 12 10 (.bool true) _ rfl (by kernel_rfl) rfl (by rfl) rfl (HS.out.belowW hU4) ?_
          simp only [Act.put, List.setIfInBounds_toArray, List.set_cons_zero, List.set_cons_succ]
          refine step_to 13 11 (.int .i64 0) _ rfl (by kernel_rfl) rfl (by rfl) rfl (HS.out.belowW hU4) ?_
          simp only [Act.put, List.setIfInBounds_toArray, List.set_cons_zero, List.set_cons_succ]
          refine wpAnyH_done (by kernel_rfl) ?_ _
          have HT9 := hide (HT2.out.belowW hU4)
          go_wp2_with (refine wpList_store_val rfl (.tmp 6) (.tmp 44) rfl rfl (q + 2) Vl.zero (bV hb) rfl rfl HT9.out.r ?_)
          refine bodyPost_ret (v := telling (bV hb) 0) (results_ct Tryd.results12 _ _ (q + 2) 23 _ (0, 0) _ rfl (Box.after HT9.out.r (bV hb)) Tryd.underlying23 rfl Tryd.size23) rfl ?_
          rw [HE.out]
          exact ⟨rfl, below_setRow (thenW (thenW HB1.out HB2.out) hU4) (by rw [HQ.out]; omega) _⟩
    · cases ka
      · skip
        have HE : Hid (mp = (Vl.zero, 160)) := HMP.out
        clear HMP
        go_enter Tryd.func12, Tryd.ntmps12
        go_upto_region 1 with fail
        try rw [hW1]
        clear hW1
        generalize hq : w.heap.size = q at HT1 ⊢
        have HQ := hide hq
        clear hq
        obtain ⟨a0, a1, a2, a3⟩ := HT1.out.a.cells
        obtain ⟨b0, b1, b2, b3⟩ := HT1.out.b.cells
        go_upto_region 4 with (first | (go_at_call 37; refine (HCM.out _).mono ?_; rintro e W2 ⟨rfl, hb2⟩; have HB2 := hide hb2; clear hb2; have HT2 := hide (HT1.out.belowW HB2.out)) | (go_at_call 36; refine (HHO.out _).mono ?_; rintro e w' ⟨rfl, hw⟩; have hw := hw.symm; subst hw))
        clear a0 a1 a2 a3 b0 b1 b2 b3 HCM HHO
        have HS := hide (show TwoAB q A B W2 from ⟨HT2.out.a, HT2.out.b⟩)
        have hU0 : Below W2.heap.size W2 W2.drew := below_drewN _ _ 1
        refine wp_region_held_drew (S := TwoAB q A B) (by kernel_rfl) (HS.out.belowW hU0) (fun hH => ?_)
        refine take_to 0 24 (.agg #[.int .i64 A.ty, .int .i64 A.n, .string (strOf A.t), .bool A.b]) rfl (by kernel_rfl) (by kernel_rfl) (by kernel_rfl) (fun _ _ _ h => h) rfl (by rfl) (fun w hw => op_load _ _ 23 (.tmp 4) rfl (.pointer (some ⟨q, 0, none⟩)) _ rfl (load23 hw.a)) hH ?_
        simp only [Act.put, List.setIfInBounds_toArray, List.set_cons_zero, List.set_cons_succ]
        refine take_to 1 25 (.agg #[.int .i64 B.ty, .int .i64 B.n, .string (strOf B.t), .bool B.b]) rfl (by kernel_rfl) (by kernel_rfl) (by kernel_rfl) (fun _ _ _ h => h) rfl (by rfl) (fun w hw => op_load _ _ 23 (.tmp 5) rfl (.pointer (some ⟨q + 1, 0, none⟩)) _ rfl (load23 hw.b)) hH ?_
        simp only [Act.put, List.setIfInBounds_toArray, List.set_cons_zero, List.set_cons_succ]
        refine take_to 5 29 (.agg #[.int .i64 A.ty, .int .i64 A.n, .string (strOf A.t), .bool A.b]) rfl (by kernel_rfl) (by kernel_rfl) (by kernel_rfl) (fun _ _ _ h => h) rfl (by rfl) (fun w hw => op_load _ _ 23 (.tmp 4) rfl (.pointer (some ⟨q, 0, none⟩)) _ rfl (load23 hw.a)) hH ?_
        simp only [Act.put, List.setIfInBounds_toArray, List.set_cons_zero, List.set_cons_succ]
        refine take_to 6 30 (.agg #[.int .i64 B.ty, .int .i64 B.n, .string (strOf B.t), .bool B.b]) rfl (by kernel_rfl) (by kernel_rfl) (by kernel_rfl) (fun _ _ _ h => h) rfl (by rfl) (fun w hw => op_load _ _ 23 (.tmp 5) rfl (.pointer (some ⟨q + 1, 0, none⟩)) _ rfl (load23 hw.b)) hH ?_
        simp only [Act.put, List.setIfInBounds_toArray, List.set_cons_zero, List.set_cons_succ]
        generalize W2.drew = U0 at *
        refine wpAnyH_all (rs := [2, 7]) (by kernel_rfl) (by simp) ?_
        intro n hn
        rcases (by simpa using hn : n = 2 ∨ n = 7) with rfl | rfl
        · skip
          have hU1 := allocW' hU0 (.cells #[.int .i64 A.ty, .int .i64 A.n, .string (strOf A.t), .bool A.b, .int .i64 B.ty, .int .i64 B.n, .string (strOf B.t), .bool B.b] 23)
          refine op_to 26 (.slice (some ⟨U0.heap.size, 0, none⟩) 2 2) (U0.alloc (.cells #[.int .i64 A.ty, .int .i64 A.n, .string (strOf A.t), .bool A.b, .int .i64 B.ty, .int .i64 B.n, .string (strOf B.t), .bool B.b] 23)) rfl rfl (by rfl) (op_build2 _ _ (.tmp 24) (.tmp 25) rfl A B rfl rfl _) ⟨HS.out.belowW hU1, ?_⟩
          simp only [Act.put, List.setIfInBounds_toArray, List.set_cons_zero, List.set_cons_succ]
          have v2 : VsAt (U0.alloc (.cells #[.int .i64 A.ty, .int .i64 A.n, .string (strOf A.t), .bool A.b, .int .i64 B.ty, .int .i64 B.n, .string (strOf B.t), .bool B.b] 23)) (.slice (some ⟨U0.heap.size, 0, none⟩) 2 2) [A, B] := vs2 _ _ _
          generalize hU1e : U0.alloc (.cells #[.int .i64 A.ty, .int .i64 A.n, .string (strOf A.t), .bool A.b, .int .i64 B.ty, .int .i64 B.n, .string (strOf B.t), .bool B.b] 23) = U1 at *
          clear hU1e
          generalize U0.heap.size = g2 at *
          refine wpAnyH_all (rs := [3, 7]) (by kernel_rfl) (by simp) ?_
          intro n hn
          rcases (by simpa using hn : n = 3 ∨ n = 7) with rfl | rfl
          · skip
            refine op_call1_to 27 39 rfl rfl (by rfl) (.tmp 26) _ rfl _ rfl Tryd.enters39 (HFI.out _ _ (v2)) ?_
            rintro e U2 ⟨rfl, hbU2⟩
            have hU2 := thenW hU1 hbU2
            refine ⟨_, rfl, HS.out.belowW hU2, ?_⟩
            simp only [Act.put, List.setIfInBounds_toArray, List.set_cons_zero, List.set_cons_succ]
            refine take_to 4 28 (.int .i64 F.ty) rfl (by kernel_rfl) (by kernel_rfl) (by kernel_rfl) (fun _ _ _ h => h) rfl (by rfl) (fun w hw => by rfl) (HS.out.belowW hU2) ?_
            simp only [Act.put, List.setIfInBounds_toArray, List.set_cons_zero, List.set_cons_succ]
            have hU3 := allocW' hU2 (.cells #[.int .i64 A.ty, .int .i64 A.n, .string (strOf A.t), .bool A.b, .int .i64 B.ty, .int .i64 B.n, .string (strOf B.t), .bool B.b] 23)
            refine step_to 7 31 (.slice (some ⟨U2.heap.size, 0, none⟩) 2 2) (U2.alloc (.cells #[.int .i64 A.ty, .int .i64 A.n, .string (strOf A.t), .bool A.b, .int .i64 B.ty, .int .i64 B.n, .string (strOf B.t), .bool B.b] 23)) rfl (by kernel_rfl) rfl (by rfl) (op_build2 _ _ (.tmp 29) (.tmp 30) rfl A B rfl rfl _) (HS.out.belowW hU3) ?_
            simp only [Act.put, List.setIfInBounds_toArray, List.set_cons_zero, List.set_cons_succ]
            have v7 : VsAt (U2.alloc (.cells #[.int .i64 A.ty, .int .i64 A.n, .string (strOf A.t), .bool A.b, .int .i64 B.ty, .int .i64 B.n, .string (strOf B.t), .bool B.b] 23)) (.slice (some ⟨U2.heap.size, 0, none⟩) 2 2) [A, B] := vs2 _ _ _
            generalize U2.alloc (.cells #[.int .i64 A.ty, .int .i64 A.n, .string (strOf A.t), .bool A.b, .int .i64 B.ty, .int .i64 B.n, .string (strOf B.t), .bool B.b] 23) = U3 at *
            generalize U2.heap.size = g7 at *
            refine step_call2_to 8 32 38 rfl (by kernel_rfl) rfl (by rfl) (.tmp 28) (.tmp 31) _ rfl _ _ rfl rfl Tryd.enters38 (HKN.out _ _ (v7)) ?_
            rintro e U4 ⟨rfl, hbU4⟩
            have hU4 := thenW hU3 hbU4
            refine ⟨_, rfl, HS.out.belowW hU4, ?_⟩
            simp only [Act.put, List.setIfInBounds_toArray, List.set_cons_zero, List.set_cons_succ]
            refine take_to 9 23 (.tuple #[.bool false, .int .i64 160]) rfl (by kernel_rfl) (by kernel_rfl) (by kernel_rfl) (fun _ _ _ h => h) rfl (by rfl) (fun w hw => by rfl) (HS.out.belowW hU4) ?_
            simp only [Act.put, List.setIfInBounds_toArray, List.set_cons_zero, List.set_cons_succ]
            refine take_to 10 33 (.bool false) rfl (by kernel_rfl) (by kernel_rfl) (by kernel_rfl) (fun _ _ _ h => h) rfl (by rfl) (fun w hw => by rfl) (HS.out.belowW hU4) ?_
            simp only [Act.put, List.setIfInBounds_toArray, List.set_cons_zero, List.set_cons_succ]
            refine take_to 11 34 (.int .i64 160) rfl (by kernel_rfl) (by kernel_rfl) (by kernel_rfl) (fun _ _ _ h => h) rfl (by rfl) (fun w hw => by rfl) (HS.out.belowW hU4) ?_
            simp only [Act.put, List.setIfInBounds_toArray, List.set_cons_zero, List.set_cons_succ]
            refine step_to 12 10 (.bool false) _ rfl (by kernel_rfl) rfl (by rfl) rfl (HS.out.belowW hU4) ?_
            simp only [Act.put, List.setIfInBounds_toArray, List.set_cons_zero, List.set_cons_succ]
            refine step_to 13 11 (.int .i64 160) _ rfl (by kernel_rfl) rfl (by rfl) rfl (HS.out.belowW hU4) ?_
            simp only [Act.put, List.setIfInBounds_toArray, List.set_cons_zero, List.set_cons_succ]
            refine wpAnyH_done (by kernel_rfl) ?_ _
            have HT9 := hide (HT2.out.belowW hU4)
            go_wp2_with (refine wpList_store_val rfl (.tmp 6) (.tmp 41) rfl rfl (q + 2) Vl.zero Vl.zero rfl rfl HT9.out.r ?_)
            refine bodyPost_ret (v := telling Vl.zero 160) (results_ct Tryd.results12 _ _ (q + 2) 23 _ (0, 0) _ rfl (Box.after HT9.out.r Vl.zero) Tryd.underlying23 rfl Tryd.size23) rfl ?_
            rw [HE.out]
            exact ⟨rfl, below_setRow (thenW (thenW HB1.out HB2.out) hU4) (by rw [HQ.out]; omega) _⟩
          · skip
            have hU2 := allocW' hU1 (.cells #[.int .i64 A.ty, .int .i64 A.n, .string (strOf A.t), .bool A.b, .int .i64 B.ty, .int .i64 B.n, .string (strOf B.t), .bool B.b] 23)
            refine op_to 31 (.slice (some ⟨U1.heap.size, 0, none⟩) 2 2) (U1.alloc (.cells #[.int .i64 A.ty, .int .i64 A.n, .string (strOf A.t), .bool A.b, .int .i64 B.ty, .int .i64 B.n, .string (strOf B.t), .bool B.b] 23)) rfl rfl (by rfl) (op_build2 _ _ (.tmp 29) (.tmp 30) rfl A B rfl rfl _) ⟨HS.out.belowW hU2, ?_⟩
            simp only [Act.put, List.setIfInBounds_toArray, List.set_cons_zero, List.set_cons_succ]
            have v7 : VsAt (U1.alloc (.cells #[.int .i64 A.ty, .int .i64 A.n, .string (strOf A.t), .bool A.b, .int .i64 B.ty, .int .i64 B.n, .string (strOf B.t), .bool B.b] 23)) (.slice (some ⟨U1.heap.size, 0, none⟩) 2 2) [A, B] := vs2 _ _ _
            have v2' := v2.belowW ((Below.refl _ _).alloc (Nat.le_refl _) (.cells #[.int .i64 A.ty, .int .i64 A.n, .string (strOf A.t), .bool A.b, .int .i64 B.ty, .int .i64 B.n, .string (strOf B.t), .bool B.b] 23))
            generalize U1.alloc (.cells #[.int .i64 A.ty, .int .i64 A.n, .string (strOf A.t), .bool A.b, .int .i64 B.ty, .int .i64 B.n, .string (strOf B.t), .bool B.b] 23) = U2 at *
            generalize U1.heap.size = g7 at *
            refine step_call1_to 3 27 39 rfl (by kernel_rfl) rfl (by rfl) (.tmp 26) _ rfl _ rfl Tryd.enters39 (HFI.out _ _ (v2')) ?_
            rintro e U3 ⟨rfl, hbU3⟩
            have hU3 := thenW hU2 hbU3
            refine ⟨_, rfl, HS.out.belowW hU3, ?_⟩
            simp only [Act.put, List.setIfInBounds_toArray, List.set_cons_zero, List.set_cons_succ]
            refine take_to 4 28 (.int .i64 F.ty) rfl (by kernel_rfl) (by kernel_rfl) (by kernel_rfl) (fun _ _ _ h => h) rfl (by rfl) (fun w hw => by rfl) (HS.out.belowW hU3) ?_
            simp only [Act.put, List.setIfInBounds_toArray, List.set_cons_zero, List.set_cons_succ]
            refine step_call2_to 8 32 38 rfl (by kernel_rfl) rfl (by rfl) (.tmp 28) (.tmp 31) _ rfl _ _ rfl rfl Tryd.enters38 (HKN.out _ _ (v7.belowW hbU3)) ?_
            rintro e U4 ⟨rfl, hbU4⟩
            have hU4 := thenW hU3 hbU4
            refine ⟨_, rfl, HS.out.belowW hU4, ?_⟩
            simp only [Act.put, List.setIfInBounds_toArray, List.set_cons_zero, List.set_cons_succ]
            refine take_to 9 23 (.tuple #[.bool false, .int .i64 160]) rfl (by kernel_rfl) (by kernel_rfl) (by kernel_rfl) (fun _ _ _ h => h) rfl (by rfl) (fun w hw => by rfl) (HS.out.belowW hU4) ?_
            simp only [Act.put, List.setIfInBounds_toArray, List.set_cons_zero, List.set_cons_succ]
            refine take_to 10 33 (.bool false) rfl (by kernel_rfl) (by kernel_rfl) (by kernel_rfl) (fun _ _ _ h => h) rfl (by rfl) (fun w hw => by rfl) (HS.out.belowW hU4) ?_
            simp only [Act.put, List.setIfInBounds_toArray, List.set_cons_zero, List.set_cons_succ]
            refine take_to 11 34 (.int .i64 160) rfl (by kernel_rfl) (by kernel_rfl) (by kernel_rfl) (fun _ _ _ h => h) rfl (by rfl) (fun w hw => by rfl) (HS.out.belowW hU4) ?_
            simp only [Act.put, List.setIfInBounds_toArray, List.set_cons_zero, List.set_cons_succ]
            refine step_to 12 10 (.bool false) _ rfl (by kernel_rfl) rfl (by rfl) rfl (HS.out.belowW hU4) ?_
            simp only [Act.put, List.setIfInBounds_toArray, List.set_cons_zero, List.set_cons_succ]
            refine step_to 13 11 (.int .i64 160) _ rfl (by kernel_rfl) rfl (by rfl) rfl (HS.out.belowW hU4) ?_
            simp only [Act.put, List.setIfInBounds_toArray, List.set_cons_zero, List.set_cons_succ]
            refine wpAnyH_done (by kernel_rfl) ?_ _
            have HT9 := hide (HT2.out.belowW hU4)
            go_wp2_with (refine wpList_store_val rfl (.tmp 6) (.tmp 41) rfl rfl (q + 2) Vl.zero Vl.zero rfl rfl HT9.out.r ?_)
            refine bodyPost_ret (v := telling Vl.zero 160) (results_ct Tryd.results12 _ _ (q + 2) 23 _ (0, 0) _ rfl (Box.after HT9.out.r Vl.zero) Tryd.underlying23 rfl Tryd.size23) rfl ?_
            rw [HE.out]
            exact ⟨rfl, below_setRow (thenW (thenW HB1.out HB2.out) hU4) (by rw [HQ.out]; omega) _⟩
        · skip
          have hU1 := allocW' hU0 (.cells #[.int .i64 A.ty, .int .i64 A.n, .string (strOf A.t), .bool A.b, .int .i64 B.ty, .int .i64 B.n, .string (strOf B.t), .bool B.b] 23)
          refine op_to 31 (.slice (some ⟨U0.heap.size, 0, none⟩) 2 2) (U0.alloc (.cells #[.int .i64 A.ty, .int .i64 A.n, .string (strOf A.t), .bool A.b, .int .i64 B.ty, .int .i64 B.n, .string (strOf B.t), .bool B.b] 23)) rfl rfl (by rfl) (op_build2 _ _ (.tmp 29) (.tmp 30) rfl A B rfl rfl _) ⟨HS.out.belowW hU1, ?_⟩
          simp only [Act.put, List.setIfInBounds_toArray, List.set_cons_zero, List.set_cons_succ]
          have v7 : VsAt (U0.alloc (.cells #[.int .i64 A.ty, .int .i64 A.n, .string (strOf A.t), .bool A.b, .int .i64 B.ty, .int .i64 B.n, .string (strOf B.t), .bool B.b] 23)) (.slice (some ⟨U0.heap.size, 0, none⟩) 2 2) [A, B] := vs2 _ _ _
          generalize U0.alloc (.cells #[.int .i64 A.ty, .int .i64 A.n, .string (strOf A.t), .bool A.b, .int .i64 B.ty, .int .i64 B.n, .string (strOf B.t), .bool B.b] 23) = U1 at *
          generalize U0.heap.size = g7 at *
          have hU2 := allocW' hU1 (.cells #[.int .i64 A.ty, .int .i64 A.n, .string (strOf A.t), .bool A.b, .int .i64 B.ty, .int .i64 B.n, .string (strOf B.t), .bool B.b] 23)
          refine step_to 2 26 (.slice (some ⟨U1.heap.size, 0, none⟩) 2 2) (U1.alloc (.cells #[.int .i64 A.ty, .int .i64 A.n, .string (strOf A.t), .bool A.b, .int .i64 B.ty, .int .i64 B.n, .string (strOf B.t), .bool B.b] 23)) rfl (by kernel_rfl) rfl (by rfl) (op_build2 _ _ (.tmp 24) (.tmp 25) rfl A B rfl rfl _) (HS.out.belowW hU2) ?_
          simp only [Act.put, List.setIfInBounds_toArray, List.set_cons_zero, List.set_cons_succ]
          have v2 : VsAt (U1.alloc (.cells #[.int .i64 A.ty, .int .i64 A.n, .string (strOf A.t), .bool A.b, .int .i64 B.ty, .int .i64 B.n, .string (strOf B.t), .bool B.b] 23)) (.slice (some ⟨U1.heap.size, 0, none⟩) 2 2) [A, B] := vs2 _ _ _
          have v7' := v7.belowW ((Below.refl _ _).alloc (Nat.le_refl _) (.cells #[.int .i64 A.ty, .int .i64 A.n, .string (strOf A.t), .bool A.b, .int .i64 B.ty, .int .i64 B.n, .string (strOf B.t), .bool B.b] 23))
          generalize U1.alloc (.cells #[.int .i64 A.ty, .int .i64 A.n, .string (strOf A.t), .bool A.b, .int .i64 B.ty, .int .i64 B.n, .string (strOf B.t), .bool B.b] 23) = U2 at *
          generalize U1.heap.size = g2 at *
          refine step_call1_to 3 27 39 rfl (by kernel_rfl) rfl (by rfl) (.tmp 26) _ rfl _ rfl Tryd.enters39 (HFI.out _ _ (v2)) ?_
          rintro e U3 ⟨rfl, hbU3⟩
          have hU3 := thenW hU2 hbU3
          refine ⟨_, rfl, HS.out.belowW hU3, ?_⟩
          simp only [Act.put, List.setIfInBounds_toArray, List.set_cons_zero, List.set_cons_succ]
          refine take_to 4 28 (.int .i64 F.ty) rfl (by kernel_rfl) (by kernel_rfl) (by kernel_rfl) (fun _ _ _ h => h) rfl (by rfl) (fun w hw => by rfl) (HS.out.belowW hU3) ?_
          simp only [Act.put, List.setIfInBounds_toArray, List.set_cons_zero, List.set_cons_succ]
          refine step_call2_to 8 32 38 rfl (by kernel_rfl) rfl (by rfl) (.tmp 28) (.tmp 31) _ rfl _ _ rfl rfl Tryd.enters38 (HKN.out _ _ (v7'.belowW hbU3)) ?_
          rintro e U4 ⟨rfl, hbU4⟩
          have hU4 := thenW hU3 hbU4
          refine ⟨_, rfl, HS.out.belowW hU4, ?_⟩
          simp only [Act.put, List.setIfInBounds_toArray, List.set_cons_zero, List.set_cons_succ]
          refine take_to 9 23 (.tuple #[.bool false, .int .i64 160]) rfl (by kernel_rfl) (by kernel_rfl) (by kernel_rfl) (fun _ _ _ h => h) rfl (by rfl) (fun w hw => by rfl) (HS.out.belowW hU4) ?_
          simp only [Act.put, List.setIfInBounds_toArray, List.set_cons_zero, List.set_cons_succ]
          refine take_to 10 33 (.bool false) rfl (by kernel_rfl) (by kernel_rfl) (by kernel_rfl) (fun _ _ _ h => h) rfl (by rfl) (fun w hw => by rfl) (HS.out.belowW hU4) ?_
          simp only [Act.put, List.setIfInBounds_toArray, List.set_cons_zero, List.set_cons_succ]
          refine take_to 11 34 (.int .i64 160) rfl (by kernel_rfl) (by kernel_rfl) (by kernel_rfl) (fun _ _ _ h => h) rfl (by rfl) (fun w hw => by rfl) (HS.out.belowW hU4) ?_
          simp only [Act.put, List.setIfInBounds_toArray, List.set_cons_zero, List.set_cons_succ]
          refine step_to 12 10 (.bool false) _ rfl (by kernel_rfl) rfl (by rfl) rfl (HS.out.belowW hU4) ?_
          simp only [Act.put, List.setIfInBounds_toArray, List.set_cons_zero, List.set_cons_succ]
          refine step_to 13 11 (.int .i64 160) _ rfl (by kernel_rfl) rfl (by rfl) rfl (HS.out.belowW hU4) ?_
          simp only [Act.put, List.setIfInBounds_toArray, List.set_cons_zero, List.set_cons_succ]
          refine wpAnyH_done (by kernel_rfl) ?_ _
          have HT9 := hide (HT2.out.belowW hU4)
          go_wp2_with (refine wpList_store_val rfl (.tmp 6) (.tmp 41) rfl rfl (q + 2) Vl.zero Vl.zero rfl rfl HT9.out.r ?_)
          refine bodyPost_ret (v := telling Vl.zero 160) (results_ct Tryd.results12 _ _ (q + 2) 23 _ (0, 0) _ rfl (Box.after HT9.out.r Vl.zero) Tryd.underlying23 rfl Tryd.size23) rfl ?_
          rw [HE.out]
          exact ⟨rfl, below_setRow (thenW (thenW HB1.out HB2.out) hU4) (by rw [HQ.out]; omega) _⟩
      · skip
        have HE : Hid (mp = (Vl.zero, 160)) := HMP.out
        clear HMP
        go_enter Tryd.func12, Tryd.ntmps12
        go_upto_region 1 with fail
        try rw [hW1]
        clear hW1
        generalize hq : w.heap.size = q at HT1 ⊢
        have HQ := hide hq
        clear hq
        obtain ⟨a0, a1, a2, a3⟩ := HT1.out.a.cells
        obtain ⟨b0, b1, b2, b3⟩ := HT1.out.b.cells
        go_upto_region 4 with (first | (go_at_call 37; refine (HCM.out _).mono ?_; rintro e W2 ⟨rfl, hb2⟩; have HB2 := hide hb2; clear hb2; have HT2 := hide (HT1.out.belowW HB2.out)) | (go_at_call 36; refine (HHO.out _).mono ?_; rintro e w' ⟨rfl, hw⟩; have hw := hw.symm; subst hw))
        clear a0 a1 a2 a3 b0 b1 b2 b3 HCM HHO
        have HS := hide (show TwoAB q A B W2 from ⟨HT2.out.a, HT2.out.b⟩)
        have hU0 : Below W2.heap.size W2 W2.drew := below_drewN _ _ 1
        refine wp_region_held_drew (S := TwoAB q A B) (by kernel_rfl) (HS.out.belowW hU0) (fun hH => ?_)
        refine take_to 0 24 (.agg #[.int .i64 A.ty, .int .i64 A.n, .string (strOf A.t), .bool A.b]) rfl (by kernel_rfl) (by kernel_rfl) (by kernel_rfl) (fun _ _ _ h => h) rfl (by rfl) (fun w hw => op_load _ _ 23 (.tmp 4) rfl (.pointer (some ⟨q, 0, none⟩)) _ rfl (load23 hw.a)) hH ?_
        simp only [Act.put, List.setIfInBounds_toArray, List.set_cons_zero, List.set_cons_succ]
        refine take_to 1 25 (.agg #[.int .i64 B.ty, .int .i64 B.n, .string (strOf B.t), .bool B.b]) rfl (by kernel_rfl) (by kernel_rfl) (by kernel_rfl) (fun _ _ _ h => h) rfl (by rfl) (fun w hw => op_load _ _ 23 (.tmp 5) rfl (.pointer (some ⟨q + 1, 0, none⟩)) _ rfl (load23 hw.b)) hH ?_
        simp only [Act.put, List.setIfInBounds_toArray, List.set_cons_zero, List.set_cons_succ]
        refine take_to 5 29 (.agg #[.int .i64 A.ty, .int .i64 A.n, .string (strOf A.t), .bool A.b]) rfl (by kernel_rfl) (by kernel_rfl) (by kernel_rfl) (fun _ _ _ h => h) rfl (by rfl) (fun w hw => op_load _ _ 23 (.tmp 4) rfl (.pointer (some ⟨q, 0, none⟩)) _ rfl (load23 hw.a)) hH ?_
        simp only [Act.put, List.setIfInBounds_toArray, List.set_cons_zero, List.set_cons_succ]
        refine take_to 6 30 (.agg #[.int .i64 B.ty, .int .i64 B.n, .string (strOf B.t), .bool B.b]) rfl (by kernel_rfl) (by kernel_rfl) (by kernel_rfl) (fun _ _ _ h => h) rfl (by rfl) (fun w hw => op_load _ _ 23 (.tmp 5) rfl (.pointer (some ⟨q + 1, 0, none⟩)) _ rfl (load23 hw.b)) hH ?_
        simp only [Act.put, List.setIfInBounds_toArray, List.set_cons_zero, List.set_cons_succ]
        generalize W2.drew = U0 at *
        refine wpAnyH_all (rs := [2, 7]) (by kernel_rfl) (by simp) ?_
        intro n hn
        rcases (by simpa using hn : n = 2 ∨ n = 7) with rfl | rfl
        · skip
          have hU1 := allocW' hU0 (.cells #[.int .i64 A.ty, .int .i64 A.n, .string (strOf A.t), .bool A.b, .int .i64 B.ty, .int .i64 B.n, .string (strOf B.t), .bool B.b] 23)
          refine op_to 26 (.slice (some ⟨U0.heap.size, 0, none⟩) 2 2) (U0.alloc (.cells #[.int .i64 A.ty, .int .i64 A.n, .string (strOf A.t), .bool A.b, .int .i64 B.ty, .int .i64 B.n, .string (strOf B.t), .bool B.b] 23)) rfl rfl (by rfl) (op_build2 _ _ (.tmp 24) (.tmp 25) rfl A B rfl rfl _) ⟨HS.out.belowW hU1, ?_⟩
          simp only [Act.put, List.setIfInBounds_toArray, List.set_cons_zero, List.set_cons_succ]
          have v2 : VsAt (U0.alloc (.cells #[.int .i64 A.ty, .int .i64 A.n, .string (strOf A.t), .bool A.b, .int .i64 B.ty, .int .i64 B.n, .string (strOf B.t), .bool B.b] 23)) (.slice (some ⟨U0.heap.size, 0, none⟩) 2 2) [A, B] := vs2 _ _ _
          generalize hU1e : U0.alloc (.cells #[.int .i64 A.ty, .int .i64 A.n, .string (strOf A.t), .bool A.b, .int .i64 B.ty, .int .i64 B.n, .string (strOf B.t), .bool B.b] 23) = U1 at *
          clear hU1e
          generalize U0.heap.size = g2 at *
          refine wpAnyH_all (rs := [3, 7]) (by kernel_rfl) (by simp) ?_
          intro n hn
          rcases (by simpa using hn : n = 3 ∨ n = 7) with rfl | rfl
          · skip
            refine op_call1_to 27 39 rfl rfl (by rfl) (.tmp 26) _ rfl _ rfl Tryd.enters39 (HFI.out _ _ (v2)) ?_
            rintro e U2 ⟨rfl, hbU2⟩
            have hU2 := thenW hU1 hbU2
            refine ⟨_, rfl, HS.out.belowW hU2, ?_⟩
            simp only [Act.put, List.setIfInBounds_toArray, List.set_cons_zero, List.set_cons_succ]
            refine take_to 4 28 (.int .i64 F.ty) rfl (by kernel_rfl) (by kernel_rfl) (by kernel_rfl) (fun _ _ _ h => h) rfl (by rfl) (fun w hw => by rfl) (HS.out.belowW hU2) ?_
            simp only [Act.put, List.setIfInBounds_toArray, List.set_cons_zero, List.set_cons_succ]
            have hU3 := allocW' hU2 (.cells #[.int .i64 A.ty, .int .i64 A.n, .string (strOf A.t), .bool A.b, .int .i64 B.ty, .int .i64 B.n, .string (strOf B.t), .bool B.b] 23)
            refine step_to 7 31 (.slice (some ⟨U2.heap.size, 0, none⟩) 2 2) (U2.alloc (.cells #[.int .i64 A.ty, .int .i64 A.n, .string (strOf A.t), .bool A.b, .int .i64 B.ty, .int .i64 B.n, .string (strOf B.t), .bool B.b] 23)) rfl (by kernel_rfl) rfl (by rfl) (op_build2 _ _ (.tmp 29) (.tmp 30) rfl A B rfl rfl _) (HS.out.belowW hU3) ?_
            simp only [Act.put, List.setIfInBounds_toArray, List.set_cons_zero, List.set_cons_succ]
            have v7 : VsAt (U2.alloc (.cells #[.int .i64 A.ty, .int .i64 A.n, .string (strOf A.t), .bool A.b, .int .i64 B.ty, .int .i64 B.n, .string (strOf B.t), .bool B.b] 23)) (.slice (some ⟨U2.heap.size, 0, none⟩) 2 2) [A, B] := vs2 _ _ _
            generalize U2.alloc (.cells #[.int .i64 A.ty, .int .i64 A.n, .string (strOf A.t), .bool A.b, .int .i64 B.ty, .int .i64 B.n, .string (strOf B.t), .bool B.b] 23) = U3 at *
            generalize U2.heap.size = g7 at *
            refine step_call2_to 8 32 38 rfl (by kernel_rfl) rfl (by rfl) (.tmp 28) (.tmp 31) _ rfl _ _ rfl rfl Tryd.enters38 (HKN.out _ _ (v7)) ?_
            rintro e U4 ⟨rfl, hbU4⟩
            have hU4 := thenW hU3 hbU4
            refine ⟨_, rfl, HS.out.belowW hU4, ?_⟩
            simp only [Act.put, List.setIfInBounds_toArray, List.set_cons_zero, List.set_cons_succ]
            refine take_to 9 23 (.tuple #[.bool true, .int .i64 160]) rfl (by kernel_rfl) (by kernel_rfl) (by kernel_rfl) (fun _ _ _ h => h) rfl (by rfl) (fun w hw => by rfl) (HS.out.belowW hU4) ?_
            simp only [Act.put, List.setIfInBounds_toArray, List.set_cons_zero, List.set_cons_succ]
            refine take_to 10 33 (.bool true) rfl (by kernel_rfl) (by kernel_rfl) (by kernel_rfl) (fun _ _ _ h => h) rfl (by rfl) (fun w hw => by rfl) (HS.out.belowW hU4) ?_
            simp only [Act.put, List.setIfInBounds_toArray, List.set_cons_zero, List.set_cons_succ]
            refine take_to 11 34 (.int .i64 160) rfl (by kernel_rfl) (by kernel_rfl) (by kernel_rfl) (fun _ _ _ h => h) rfl (by rfl) (fun w hw => by rfl) (HS.out.belowW hU4) ?_
            simp only [Act.put, List.setIfInBounds_toArray, List.set_cons_zero, List.set_cons_succ]
            refine step_to 12 10 (.bool true) _ rfl (by kernel_rfl) rfl (by rfl) rfl (HS.out.belowW hU4) ?_
            simp only [Act.put, List.setIfInBounds_toArray, List.set_cons_zero, List.set_cons_succ]
            refine step_to 13 11 (.int .i64 160) _ rfl (by kernel_rfl) rfl (by rfl) rfl (HS.out.belowW hU4) ?_
            simp only [Act.put, List.setIfInBounds_toArray, List.set_cons_zero, List.set_cons_succ]
            refine wpAnyH_done (by kernel_rfl) ?_ _
            have HT9 := hide (HT2.out.belowW hU4)
            go_wp2_with (refine wpList_store_val rfl (.tmp 6) (.tmp 41) rfl rfl (q + 2) Vl.zero Vl.zero rfl rfl HT9.out.r ?_)
            refine bodyPost_ret (v := telling Vl.zero 160) (results_ct Tryd.results12 _ _ (q + 2) 23 _ (0, 0) _ rfl (Box.after HT9.out.r Vl.zero) Tryd.underlying23 rfl Tryd.size23) rfl ?_
            rw [HE.out]
            exact ⟨rfl, below_setRow (thenW (thenW HB1.out HB2.out) hU4) (by rw [HQ.out]; omega) _⟩
          · skip
            have hU2 := allocW' hU1 (.cells #[.int .i64 A.ty, .int .i64 A.n, .string (strOf A.t), .bool A.b, .int .i64 B.ty, .int .i64 B.n, .string (strOf B.t), .bool B.b] 23)
            refine op_to 31 (.slice (some ⟨U1.heap.size, 0, none⟩) 2 2) (U1.alloc (.cells #[.int .i64 A.ty, .int .i64 A.n, .string (strOf A.t), .bool A.b, .int .i64 B.ty, .int .i64 B.n, .string (strOf B.t), .bool B.b] 23)) rfl rfl (by rfl) (op_build2 _ _ (.tmp 29) (.tmp 30) rfl A B rfl rfl _) ⟨HS.out.belowW hU2, ?_⟩
            simp only [Act.put, List.setIfInBounds_toArray, List.set_cons_zero, List.set_cons_succ]
            have v7 : VsAt (U1.alloc (.cells #[.int .i64 A.ty, .int .i64 A.n, .string (strOf A.t), .bool A.b, .int .i64 B.ty, .int .i64 B.n, .string (strOf B.t), .bool B.b] 23)) (.slice (some ⟨U1.heap.size, 0, none⟩) 2 2) [A, B] := vs2 _ _ _
            have v2' := v2.belowW ((Below.refl _ _).alloc (Nat.le_refl _) (.cells #[.int .i64 A.ty, .int .i64 A.n, .string (strOf A.t), .bool A.b, .int .i64 B.ty, .int .i64 B.n, .string (strOf B.t), .bool B.b] 23))
            generalize U1.alloc (.cells #[.int .i64 A.ty, .int .i64 A.n, .string (strOf A.t), .bool A.b, .int .i64 B.ty, .int .i64 B.n, .string (strOf B.t), .bool B.b] 23) = U2 at *
            generalize U1.heap.size = g7 at *
            refine step_call1_to 3 27 39 rfl (by kernel_rfl) rfl (by rfl) (.tmp 26) _ rfl _ rfl Tryd.enters39 (HFI.out _ _ (v2')) ?_
            rintro e U3 ⟨rfl, hbU3⟩
            have hU3 := thenW hU2 hbU3
            refine ⟨_, rfl, HS.out.belowW hU3, ?_⟩
            simp only [Act.put, List.setIfInBounds_toArray, List.set_cons_zero, List.set_cons_succ]
            refine take_to 4 28 (.int .i64 F.ty) rfl (by kernel_rfl) (by kernel_rfl) (by kernel_rfl) (fun _ _ _ h => h) rfl (by rfl) (fun w hw => by rfl) (HS.out.belowW hU3) ?_
            simp only [Act.put, List.setIfInBounds_toArray, List.set_cons_zero, List.set_cons_succ]
            refine step_call2_to 8 32 38 rfl (by kernel_rfl) rfl (by rfl) (.tmp 28) (.tmp 31) _ rfl _ _ rfl rfl Tryd.enters38 (HKN.out _ _ (v7.belowW hbU3)) ?_
            rintro e U4 ⟨rfl, hbU4⟩
            have hU4 := thenW hU3 hbU4
            refine ⟨_, rfl, HS.out.belowW hU4, ?_⟩
            simp only [Act.put, List.setIfInBounds_toArray, List.set_cons_zero, List.set_cons_succ]
            refine take_to 9 23 (.tuple #[.bool true, .int .i64 160]) rfl (by kernel_rfl) (by kernel_rfl) (by kernel_rfl) (fun _ _ _ h => h) rfl (by rfl) (fun w hw => by rfl) (HS.out.belowW hU4) ?_
            simp only [Act.put, List.setIfInBounds_toArray, List.set_cons_zero, List.set_cons_succ]
            refine take_to 10 33 (.bool true) rfl (by kernel_rfl) (by kernel_rfl) (by kernel_rfl) (fun _ _ _ h => h) rfl (by rfl) (fun w hw => by rfl) (HS.out.belowW hU4) ?_
            simp only [Act.put, List.setIfInBounds_toArray, List.set_cons_zero, List.set_cons_succ]
            refine take_to 11 34 (.int .i64 160) rfl (by kernel_rfl) (by kernel_rfl) (by kernel_rfl) (fun _ _ _ h => h) rfl (by rfl) (fun w hw => by rfl) (HS.out.belowW hU4) ?_
            simp only [Act.put, List.setIfInBounds_toArray, List.set_cons_zero, List.set_cons_succ]
            refine step_to 12 10 (.bool true) _ rfl (by kernel_rfl) rfl (by rfl) rfl (HS.out.belowW hU4) ?_
            simp only [Act.put, List.setIfInBounds_toArray, List.set_cons_zero, List.set_cons_succ]
            refine step_to 13 11 (.int .i64 160) _ rfl (by kernel_rfl) rfl (by rfl) rfl (HS.out.belowW hU4) ?_
            simp only [Act.put, List.setIfInBounds_toArray, List.set_cons_zero, List.set_cons_succ]
            refine wpAnyH_done (by kernel_rfl) ?_ _
            have HT9 := hide (HT2.out.belowW hU4)
            go_wp2_with (refine wpList_store_val rfl (.tmp 6) (.tmp 41) rfl rfl (q + 2) Vl.zero Vl.zero rfl rfl HT9.out.r ?_)
            refine bodyPost_ret (v := telling Vl.zero 160) (results_ct Tryd.results12 _ _ (q + 2) 23 _ (0, 0) _ rfl (Box.after HT9.out.r Vl.zero) Tryd.underlying23 rfl Tryd.size23) rfl ?_
            rw [HE.out]
            exact ⟨rfl, below_setRow (thenW (thenW HB1.out HB2.out) hU4) (by rw [HQ.out]; omega) _⟩
        · skip
          have hU1 := allocW' hU0 (.cells #[.int .i64 A.ty, .int .i64 A.n, .string (strOf A.t), .bool A.b, .int .i64 B.ty, .int .i64 B.n, .string (strOf B.t), .bool B.b] 23)
          refine op_to 31 (.slice (some ⟨U0.heap.size, 0, none⟩) 2 2) (U0.alloc (.cells #[.int .i64 A.ty, .int .i64 A.n, .string (strOf A.t), .bool A.b, .int .i64 B.ty, .int .i64 B.n, .string (strOf B.t), .bool B.b] 23)) rfl rfl (by rfl) (op_build2 _ _ (.tmp 29) (.tmp 30) rfl A B rfl rfl _) ⟨HS.out.belowW hU1, ?_⟩
          simp only [Act.put, List.setIfInBounds_toArray, List.set_cons_zero, List.set_cons_succ]
          have v7 : VsAt (U0.alloc (.cells #[.int .i64 A.ty, .int .i64 A.n, .string (strOf A.t), .bool A.b, .int .i64 B.ty, .int .i64 B.n, .string (strOf B.t), .bool B.b] 23)) (.slice (some ⟨U0.heap.size, 0, none⟩) 2 2) [A, B] := vs2 _ _ _
          generalize U0.alloc (.cells #[.int .i64 A.ty, .int .i64 A.n, .string (strOf A.t), .bool A.b, .int .i64 B.ty, .int .i64 B.n, .string (strOf B.t), .bool B.b] 23) = U1 at *
          generalize U0.heap.size = g7 at *
          have hU2 := allocW' hU1 (.cells #[.int .i64 A.ty, .int .i64 A.n, .string (strOf A.t), .bool A.b, .int .i64 B.ty, .int .i64 B.n, .string (strOf B.t), .bool B.b] 23)
          refine step_to 2 26 (.slice (some ⟨U1.heap.size, 0, none⟩) 2 2) (U1.alloc (.cells #[.int .i64 A.ty, .int .i64 A.n, .string (strOf A.t), .bool A.b, .int .i64 B.ty, .int .i64 B.n, .string (strOf B.t), .bool B.b] 23)) rfl (by kernel_rfl) rfl (by rfl) (op_build2 _ _ (.tmp 24) (.tmp 25) rfl A B rfl rfl _) (HS.out.belowW hU2) ?_
          simp only [Act.put, List.setIfInBounds_toArray, List.set_cons_zero, List.set_cons_succ]
          have v2 : VsAt (U1.alloc (.cells #[.int .i64 A.ty, .int .i64 A.n, .string (strOf A.t), .bool A.b, .int .i64 B.ty, .int .i64 B.n, .string (strOf B.t), .bool B.b] 23)) (.slice (some ⟨U1.heap.size, 0, none⟩) 2 2) [A, B] := vs2 _ _ _
          have v7' := v7.belowW ((Below.refl _ _).alloc (Nat.le_refl _) (.cells #[.int .i64 A.ty, .int .i64 A.n, .string (strOf A.t), .bool A.b, .int .i64 B.ty, .int .i64 B.n, .string (strOf B.t), .bool B.b] 23))
          generalize U1.alloc (.cells #[.int .i64 A.ty, .int .i64 A.n, .string (strOf A.t), .bool A.b, .int .i64 B.ty, .int .i64 B.n, .string (strOf B.t), .bool B.b] 23) = U2 at *
          generalize U1.heap.size = g2 at *
          refine step_call1_to 3 27 39 rfl (by kernel_rfl) rfl (by rfl) (.tmp 26) _ rfl _ rfl Tryd.enters39 (HFI.out _ _ (v2)) ?_
          rintro e U3 ⟨rfl, hbU3⟩
          have hU3 := thenW hU2 hbU3
          refine ⟨_, rfl, HS.out.belowW hU3, ?_⟩
          simp only [Act.put, List.setIfInBounds_toArray, List.set_cons_zero, List.set_cons_succ]
          refine take_to 4 28 (.int .i64 F.ty) rfl (by kernel_rfl) (by kernel_rfl) (by kernel_rfl) (fun _ _ _ h => h) rfl (by rfl) (fun w hw => by rfl) (HS.out.belowW hU3) ?_
          simp only [Act.put, List.setIfInBounds_toArray, List.set_cons_zero, List.set_cons_succ]
          refine step_call2_to 8 32 38 rfl (by kernel_rfl) rfl (by rfl) (.tmp 28) (.tmp 31) _ rfl _ _ rfl rfl Tryd.enters38 (HKN.out _ _ (v7'.belowW hbU3)) ?_
          rintro e U4 ⟨rfl, hbU4⟩
          have hU4 := thenW hU3 hbU4
          refine ⟨_, rfl, HS.out.belowW hU4, ?_⟩
          simp only [Act.put, List.setIfInBounds_toArray, List.set_cons_zero, List.set_cons_succ]
          refine take_to 9 23 (.tuple #[.bool true, .int .i64 160]) rfl (by kernel_rfl) (by kernel_rfl) (by kernel_rfl) (fun _ _ _ h => h) rfl (by rfl) (fun w hw => by rfl) (HS.out.belowW hU4) ?_
          simp only [Act.put, List.setIfInBounds_toArray, List.set_cons_zero, List.set_cons_succ]
          refine take_to 10 33 (.bool true) rfl (by kernel_rfl) (by kernel_rfl) (by kernel_rfl) (fun _ _ _ h => h) rfl (by rfl) (fun w hw => by rfl) (HS.out.belowW hU4) ?_
          simp only [Act.put, List.setIfInBounds_toArray, List.set_cons_zero, List.set_cons_succ]
          refine take_to 11 34 (.int .i64 160) rfl (by kernel_rfl) (by kernel_rfl) (by kernel_rfl) (fun _ _ _ h => h) rfl (by rfl) (fun w hw => by rfl) (HS.out.belowW hU4) ?_
          simp only [Act.put, List.setIfInBounds_toArray, List.set_cons_zero, List.set_cons_succ]
          refine step_to 12 10 (.bool true) _ rfl (by kernel_rfl) rfl (by rfl) rfl (HS.out.belowW hU4) ?_
          simp only [Act.put, List.setIfInBounds_toArray, List.set_cons_zero, List.set_cons_succ]
          refine step_to 13 11 (.int .i64 160) _ rfl (by kernel_rfl) rfl (by rfl) rfl (HS.out.belowW hU4) ?_
          simp only [Act.put, List.setIfInBounds_toArray, List.set_cons_zero, List.set_cons_succ]
          refine wpAnyH_done (by kernel_rfl) ?_ _
          have HT9 := hide (HT2.out.belowW hU4)
          go_wp2_with (refine wpList_store_val rfl (.tmp 6) (.tmp 41) rfl rfl (q + 2) Vl.zero Vl.zero rfl rfl HT9.out.r ?_)
          refine bodyPost_ret (v := telling Vl.zero 160) (results_ct Tryd.results12 _ _ (q + 2) 23 _ (0, 0) _ rfl (Box.after HT9.out.r Vl.zero) Tryd.underlying23 rfl Tryd.size23) rfl ?_
          rw [HE.out]
          exact ⟨rfl, below_setRow (thenW (thenW HB1.out HB2.out) hU4) (by rw [HQ.out]; omega) _⟩
set_option maxHeartbeats 8000000 in
theorem rless_any (op : Int) (A B : Vl) (w : World) : Calls Tryd.prog 21 #[.int .i64 op, valOf A, valOf B] w fun e w' => e = .returned (telling (lessP op A B).1 (lessP op A B).2) ∧ Below w.heap.size w w' := by
  obtain ⟨W1, hW1⟩ : ∃ W1, ((w.alloc (.cells #[.int .i64 A.ty, .int .i64 A.n, .string (strOf A.t), .bool A.b] 23)).alloc (.cells #[.int .i64 B.ty, .int .i64 B.n, .string (strOf B.t), .bool B.b] 23)).alloc (.cells #[.int .i64 0, .int .i64 0, .string { data := #[] }, .bool false] 23) = W1 := ⟨_, rfl⟩
  have HB1 : Hid (Below w.heap.size w W1) := by rw [← hW1]; exact below3 _ _ _ _
  have HT1 : Hid (Two w.heap.size A B W1) := by rw [← hW1]; exact two_new w A B
  have HNL : Hid (∀ W, Calls Tryd.prog 47 #[] W fun e w' => e = .returned (.agg #[.int .i64 0, .int .i64 0, .string { data := #[] }, .bool false]) ∧ Below W.heap.size W w') := refNull_any
  have HCM : Hid (∀ W, Calls Tryd.prog 52 #[.agg #[.int .i64 A.ty, .int .i64 A.n, .string (strOf A.t), .bool A.b], .agg #[.int .i64 B.ty, .int .i64 B.n, .string (strOf B.t), .bool B.b]] W fun e w' => e = .returned (.int .i64 (cmpV A B)) ∧ Below W.heap.size W w') := rcompare_any A B
  have HTR : Hid (∀ b W, Calls Tryd.prog 53 #[.bool b] W fun e w' => e = .returned (.agg #[.int .i64 3, .int .i64 0, .string { data := #[] }, .bool b]) ∧ Below W.heap.size W w') := refTruth_any
  have HMP : Hid (lessP op A B = if isCmp op = false then (Vl.zero, 1) else if A.ty = 0 ∨ B.ty = 0 then (Vl.zero, 0) else if A.ty ≠ B.ty then (Vl.zero, 160) else (bV (holdsB op (cmpV A B)), 0)) := rfl
  generalize hmp : lessP op A B = mp at *
  clear hmp
  generalize cmpV A B = cc at *
  unfold valOf
  by_cases hlo : op < 9
  · have HE : Hid (mp = (Vl.zero, 1)) := by rw [Hid, HMP.out]; exact if_pos (decide_eq_false (by omega))
    have k1 : decide (op < 9) = true := decide_eq_true hlo
    clear HMP hlo
    go_enter Tryd.func21, Tryd.ntmps21
    go_upto_region 1 with fail
    try rw [hW1]
    clear hW1
    generalize hq : w.heap.size = q at HT1 ⊢
    have HQ := hide hq
    clear hq
    obtain ⟨a0, a1, a2, a3⟩ := HT1.out.a.cells
    obtain ⟨b0, b1, b2, b3⟩ := HT1.out.b.cells
    go_wp2_with (first | (go_at_call 47; refine (HNL.out _).mono ?_; rintro e W2 ⟨rfl, hb2⟩; have HB2 := hide hb2; clear hb2; have HT2 := hide (HT1.out.belowW HB2.out)) | (refine wpList_store_val rfl (.tmp 6) (.tmp 15) rfl rfl (q + 2) Vl.zero Vl.zero rfl rfl HT2.out.r ?_))
    refine bodyPost_ret (v := telling Vl.zero 1) (results_ct Tryd.results21 _ _ (q + 2) 23 _ (0, 0) _ rfl (Box.after HT2.out.r Vl.zero) Tryd.underlying23 rfl Tryd.size23) rfl ?_
    rw [HE.out]
    exact ⟨rfl, below_setRow (thenW (HB1.out) HB2.out) (by rw [HQ.out]; omega) _⟩
  by_cases hhi : 14 < op
  · have HE : Hid (mp = (Vl.zero, 1)) := by rw [Hid, HMP.out]; exact if_pos (decide_eq_false (by omega))
    have k1 : decide (op < 9) = false := decide_eq_false hlo
    have k2 : decide (14 < op) = true := decide_eq_true hhi
    clear HMP hlo hhi
    go_enter Tryd.func21, Tryd.ntmps21
    go_upto_region 1 with fail
    try rw [hW1]
    clear hW1
    generalize hq : w.heap.size = q at HT1 ⊢
    have HQ := hide hq
    clear hq
    obtain ⟨a0, a1, a2, a3⟩ := HT1.out.a.cells
    obtain ⟨b0, b1, b2, b3⟩ := HT1.out.b.cells
    go_wp2_with (first | (go_at_call 47; refine (HNL.out _).mono ?_; rintro e W2 ⟨rfl, hb2⟩; have HB2 := hide hb2; clear hb2; have HT2 := hide (HT1.out.belowW HB2.out)) | (refine wpList_store_val rfl (.tmp 6) (.tmp 15) rfl rfl (q + 2) Vl.zero Vl.zero rfl rfl HT2.out.r ?_))
    refine bodyPost_ret (v := telling Vl.zero 1) (results_ct Tryd.results21 _ _ (q + 2) 23 _ (0, 0) _ rfl (Box.after HT2.out.r Vl.zero) Tryd.underlying23 rfl Tryd.size23) rfl ?_
    rw [HE.out]
    exact ⟨rfl, below_setRow (thenW (HB1.out) HB2.out) (by rw [HQ.out]; omega) _⟩
  have hok : isCmp op = true := decide_eq_true (by omega)
  have HM2 : Hid (mp = if A.ty = 0 ∨ B.ty = 0 then (Vl.zero, 0) else if A.ty ≠ B.ty then (Vl.zero, 160) else (bV (holdsB op cc), 0)) := by rw [Hid, HMP.out, hok]; exact if_neg (by simp)
  have k1 : decide (op < 9) = false := decide_eq_false hlo
  have k2 : decide (14 < op) = false := decide_eq_false hhi
  clear HMP hok
  by_cases hz1 : A.ty = 0
  · have HE : Hid (mp = (Vl.zero, 0)) := by rw [Hid, HM2.out]; exact if_pos (.inl hz1)
    have k3 : (A.ty == 0) = true := beq_iff_eq.2 hz1
    clear HM2 hz1 hlo hhi
    go_enter Tryd.func21, Tryd.ntmps21
    go_upto_region 1 with fail
    try rw [hW1]
    clear hW1
    generalize hq : w.heap.size = q at HT1 ⊢
    have HQ := hide hq
    clear hq
    obtain ⟨a0, a1, a2, a3⟩ := HT1.out.a.cells
    obtain ⟨b0, b1, b2, b3⟩ := HT1.out.b.cells
    go_wp2_with (first | (go_at_call 47; refine (HNL.out _).mono ?_; rintro e W2 ⟨rfl, hb2⟩; have HB2 := hide hb2; clear hb2; have HT2 := hide (HT1.out.belowW HB2.out)) | (refine wpList_store_val rfl (.tmp 6) (.tmp 24) rfl rfl (q + 2) Vl.zero Vl.zero rfl rfl HT2.out.r ?_))
    refine bodyPost_ret (v := telling Vl.zero 0) (results_ct Tryd.results21 _ _ (q + 2) 23 _ (0, 0) _ rfl (Box.after HT2.out.r Vl.zero) Tryd.underlying23 rfl Tryd.size23) rfl ?_
    rw [HE.out]
    exact ⟨rfl, below_setRow (thenW (HB1.out) HB2.out) (by rw [HQ.out]; omega) _⟩
  have k3 : (A.ty == 0) = false := beq_eq_false_iff_ne.2 hz1
  by_cases hz2 : B.ty = 0
  · have HE : Hid (mp = (Vl.zero, 0)) := by rw [Hid, HM2.out]; exact if_pos (.inr hz2)
    have k4 : (B.ty == 0) = true := beq_iff_eq.2 hz2
    clear HM2 hz1 hz2 hlo hhi
    go_enter Tryd.func21, Tryd.ntmps21
    go_upto_region 1 with fail
    try rw [hW1]
    clear hW1
    generalize hq : w.heap.size = q at HT1 ⊢
    have HQ := hide hq
    clear hq
    obtain ⟨a0, a1, a2, a3⟩ := HT1.out.a.cells
    obtain ⟨b0, b1, b2, b3⟩ := HT1.out.b.cells
    go_wp2_with (first | (go_at_call 47; refine (HNL.out _).mono ?_; rintro e W2 ⟨rfl, hb2⟩; have HB2 := hide hb2; clear hb2; have HT2 := hide (HT1.out.belowW HB2.out)) | (refine wpList_store_val rfl (.tmp 6) (.tmp 24) rfl rfl (q + 2) Vl.zero Vl.zero rfl rfl HT2.out.r ?_))
    refine bodyPost_ret (v := telling Vl.zero 0) (results_ct Tryd.results21 _ _ (q + 2) 23 _ (0, 0) _ rfl (Box.after HT2.out.r Vl.zero) Tryd.underlying23 rfl Tryd.size23) rfl ?_
    rw [HE.out]
    exact ⟨rfl, below_setRow (thenW (HB1.out) HB2.out) (by rw [HQ.out]; omega) _⟩
  have k4 : (B.ty == 0) = false := beq_eq_false_iff_ne.2 hz2
  by_cases hd : A.ty = B.ty
  · have HM3 : Hid (mp = (bV (holdsB op cc), 0)) := by rw [Hid, HM2.out, if_neg (by omega)]; exact if_neg (by omega)
    have k5 : (A.ty != B.ty) = false := by simp [hd]
    clear HM2 hz1 hz2 hd
    have hop : op = 9 ∨ op = 10 ∨ op = 11 ∨ op = 12 ∨ op = 13 ∨ op = 14 := by omega
    clear hlo hhi
    rcases hop with rfl | rfl | rfl | rfl | rfl | rfl
    · have HE : Hid (mp = (bV (cc == 0), 0)) := HM3.out
      clear HM3
      go_enter Tryd.func21, Tryd.ntmps21
      go_upto_region 1 with fail
      try rw [hW1]
      clear hW1
      generalize hq : w.heap.size = q at HT1 ⊢
      have HQ := hide hq
      clear hq
      obtain ⟨a0, a1, a2, a3⟩ := HT1.out.a.cells
      obtain ⟨b0, b1, b2, b3⟩ := HT1.out.b.cells
      go_wp2_with (first | (go_at_call 53; refine (HTR.out _ _).mono ?_; rintro e W3 ⟨rfl, hb3⟩; have HB3 := hide hb3; clear hb3; have HT3 := hide (HT2.out.belowW HB3.out)) | (go_at_call 52; refine (HCM.out _).mono ?_; rintro e W2 ⟨rfl, hb2⟩; have HB2 := hide hb2; clear hb2; have HT2 := hide (HT1.out.belowW HB2.out)) | (refine wpList_store_val rfl (.tmp 6) (.tmp 39) rfl rfl (q + 2) Vl.zero (bV (cc == 0)) rfl rfl HT3.out.r ?_))
      refine bodyPost_ret (v := telling (bV (cc == 0)) 0) (results_ct Tryd.results21 _ _ (q + 2) 23 _ (0, 0) _ rfl (Box.after HT3.out.r (bV (cc == 0))) Tryd.underlying23 rfl Tryd.size23) rfl ?_
      rw [HE.out]
      exact ⟨rfl, below_setRow (thenW (thenW (HB1.out) HB2.out) HB3.out) (by rw [HQ.out]; omega) _⟩
    · have HE : Hid (mp = (bV (cc != 0), 0)) := HM3.out
      clear HM3
      go_enter Tryd.func21, Tryd.ntmps21
      go_upto_region 1 with fail
      try rw [hW1]
      clear hW1
      generalize hq : w.heap.size = q at HT1 ⊢
      have HQ := hide hq
      clear hq
      obtain ⟨a0, a1, a2, a3⟩ := HT1.out.a.cells
      obtain ⟨b0, b1, b2, b3⟩ := HT1.out.b.cells
      go_wp2_with (first | (go_at_call 53; refine (HTR.out _ _).mono ?_; rintro e W3 ⟨rfl, hb3⟩; have HB3 := hide hb3; clear hb3; have HT3 := hide (HT2.out.belowW HB3.out)) | (go_at_call 52; refine (HCM.out _).mono ?_; rintro e W2 ⟨rfl, hb2⟩; have HB2 := hide hb2; clear hb2; have HT2 := hide (HT1.out.belowW HB2.out)) | (refine wpList_store_val rfl (.tmp 6) (.tmp 44) rfl rfl (q + 2) Vl.zero (bV (cc != 0)) rfl rfl HT3.out.r ?_))
      refine bodyPost_ret (v := telling (bV (cc != 0)) 0) (results_ct Tryd.results21 _ _ (q + 2) 23 _ (0, 0) _ rfl (Box.after HT3.out.r (bV (cc != 0))) Tryd.underlying23 rfl Tryd.size23) rfl ?_
      rw [HE.out]
      exact ⟨rfl, below_setRow (thenW (thenW (HB1.out) HB2.out) HB3.out) (by rw [HQ.out]; omega) _⟩
    · have HE : Hid (mp = (bV (decide (cc < 0)), 0)) := HM3.out
      clear HM3
      go_enter Tryd.func21, Tryd.ntmps21
      go_upto_region 1 with fail
      try rw [hW1]
      clear hW1
      generalize hq : w.heap.size = q at HT1 ⊢
      have HQ := hide hq
      clear hq
      obtain ⟨a0, a1, a2, a3⟩ := HT1.out.a.cells
      obtain ⟨b0, b1, b2, b3⟩ := HT1.out.b.cells
      go_wp2_with (first | (go_at_call 53; refine (HTR.out _ _).mono ?_; rintro e W3 ⟨rfl, hb3⟩; have HB3 := hide hb3; clear hb3; have HT3 := hide (HT2.out.belowW HB3.out)) | (go_at_call 52; refine (HCM.out _).mono ?_; rintro e W2 ⟨rfl, hb2⟩; have HB2 := hide hb2; clear hb2; have HT2 := hide (HT1.out.belowW HB2.out)) | (refine wpList_store_val rfl (.tmp 6) (.tmp 49) rfl rfl (q + 2) Vl.zero (bV (decide (cc < 0))) rfl rfl HT3.out.r ?_))
      refine bodyPost_ret (v := telling (bV (decide (cc < 0))) 0) (results_ct Tryd.results21 _ _ (q + 2) 23 _ (0, 0) _ rfl (Box.after HT3.out.r (bV (decide (cc < 0)))) Tryd.underlying23 rfl Tryd.size23) rfl ?_
      rw [HE.out]
      exact ⟨rfl, below_setRow (thenW (thenW (HB1.out) HB2.out) HB3.out) (by rw [HQ.out]; omega) _⟩
    · have HE : Hid (mp = (bV (decide (cc ≤ 0)), 0)) := HM3.out
      clear HM3
      go_enter Tryd.func21, Tryd.ntmps21
      go_upto_region 1 with fail
      try rw [hW1]
      clear hW1
      generalize hq : w.heap.size = q at HT1 ⊢
      have HQ := hide hq
      clear hq
      obtain ⟨a0, a1, a2, a3⟩ := HT1.out.a.cells
      obtain ⟨b0, b1, b2, b3⟩ := HT1.out.b.cells
      go_wp2_with (first | (go_at_call 53; refine (HTR.out _ _).mono ?_; rintro e W3 ⟨rfl, hb3⟩; have HB3 := hide hb3; clear hb3; have HT3 := hide (HT2.out.belowW HB3.out)) | (go_at_call 52; refine (HCM.out _).mono ?_; rintro e W2 ⟨rfl, hb2⟩; have HB2 := hide hb2; clear hb2; have HT2 := hide (HT1.out.belowW HB2.out)) | (refine wpList_store_val rfl (.tmp 6) (.tmp 54) rfl rfl (q + 2) Vl.zero (bV (decide (cc ≤ 0))) rfl rfl HT3.out.r ?_))
      refine bodyPost_ret (v := telling (bV (decide (cc ≤ 0))) 0) (results_ct Tryd.results21 _ _ (q + 2) 23 _ (0, 0) _ rfl (Box.after HT3.out.r (bV (decide (cc ≤ 0)))) Tryd.underlying23 rfl Tryd.size23) rfl ?_
      rw [HE.out]
      exact ⟨rfl, below_setRow (thenW (thenW (HB1.out) HB2.out) HB3.out) (by rw [HQ.out]; omega) _⟩
    · have HE : Hid (mp = (bV (decide (0 < cc)), 0)) := HM3.out
      clear HM3
      go_enter Tryd.func21, Tryd.ntmps21
      go_upto_region 1 with fail
      try rw [hW1]
      clear hW1
      generalize hq : w.heap.size = q at HT1 ⊢
      have HQ := hide hq
      clear hq
      obtain ⟨a0, a1, a2, a3⟩ := HT1.out.a.cells
      obtain ⟨b0, b1, b2, b3⟩ := HT1.out.b.cells
      go_wp2_with (first | (go_at_call 53; refine (HTR.out _ _).mono ?_; rintro e W3 ⟨rfl, hb3⟩; have HB3 := hide hb3; clear hb3; have HT3 := hide (HT2.out.belowW HB3.out)) | (go_at_call 52; refine (HCM.out _).mono ?_; rintro e W2 ⟨rfl, hb2⟩; have HB2 := hide hb2; clear hb2; have HT2 := hide (HT1.out.belowW HB2.out)) | (refine wpList_store_val rfl (.tmp 6) (.tmp 59) rfl rfl (q + 2) Vl.zero (bV (decide (0 < cc))) rfl rfl HT3.out.r ?_))
      refine bodyPost_ret (v := telling (bV (decide (0 < cc))) 0) (results_ct Tryd.results21 _ _ (q + 2) 23 _ (0, 0) _ rfl (Box.after HT3.out.r (bV (decide (0 < cc)))) Tryd.underlying23 rfl Tryd.size23) rfl ?_
      rw [HE.out]
      exact ⟨rfl, below_setRow (thenW (thenW (HB1.out) HB2.out) HB3.out) (by rw [HQ.out]; omega) _⟩
    · have HE : Hid (mp = (bV (decide (0 ≤ cc)), 0)) := HM3.out
      clear HM3
      go_enter Tryd.func21, Tryd.ntmps21
      go_upto_region 1 with fail
      try rw [hW1]
      clear hW1
      generalize hq : w.heap.size = q at HT1 ⊢
      have HQ := hide hq
      clear hq
      obtain ⟨a0, a1, a2, a3⟩ := HT1.out.a.cells
      obtain ⟨b0, b1, b2, b3⟩ := HT1.out.b.cells
      go_wp2_with (first | (go_at_call 53; refine (HTR.out _ _).mono ?_; rintro e W3 ⟨rfl, hb3⟩; have HB3 := hide hb3; clear hb3; have HT3 := hide (HT2.out.belowW HB3.out)) | (go_at_call 52; refine (HCM.out _).mono ?_; rintro e W2 ⟨rfl, hb2⟩; have HB2 := hide hb2; clear hb2; have HT2 := hide (HT1.out.belowW HB2.out)) | (refine wpList_store_val rfl (.tmp 6) (.tmp 62) rfl rfl (q + 2) Vl.zero (bV (decide (0 ≤ cc))) rfl rfl HT3.out.r ?_))
      refine bodyPost_ret (v := telling (bV (decide (0 ≤ cc))) 0) (results_ct Tryd.results21 _ _ (q + 2) 23 _ (0, 0) _ rfl (Box.after HT3.out.r (bV (decide (0 ≤ cc)))) Tryd.underlying23 rfl Tryd.size23) rfl ?_
      rw [HE.out]
      exact ⟨rfl, below_setRow (thenW (thenW (HB1.out) HB2.out) HB3.out) (by rw [HQ.out]; omega) _⟩
  · have HE : Hid (mp = (Vl.zero, 160)) := by rw [Hid, HM2.out, if_neg (by omega)]; exact if_pos hd
    have k5 : (A.ty != B.ty) = true := by simp [hd]
    clear HM2 hz1 hz2 hd hlo hhi
    go_enter Tryd.func21, Tryd.ntmps21
    go_upto_region 1 with fail
    try rw [hW1]
    clear hW1
    generalize hq : w.heap.size = q at HT1 ⊢
    have HQ := hide hq
    clear hq
    obtain ⟨a0, a1, a2, a3⟩ := HT1.out.a.cells
    obtain ⟨b0, b1, b2, b3⟩ := HT1.out.b.cells
    go_wp2_with (first | (go_at_call 47; refine (HNL.out _).mono ?_; rintro e W2 ⟨rfl, hb2⟩; have HB2 := hide hb2; clear hb2; have HT2 := hide (HT1.out.belowW HB2.out)) | (refine wpList_store_val rfl (.tmp 6) (.tmp 30) rfl rfl (q + 2) Vl.zero Vl.zero rfl rfl HT2.out.r ?_))
    refine bodyPost_ret (v := telling Vl.zero 160) (results_ct Tryd.results21 _ _ (q + 2) 23 _ (0, 0) _ rfl (Box.after HT2.out.r Vl.zero) Tryd.underlying23 rfl Tryd.size23) rfl ?_
    rw [HE.out]
    exact ⟨rfl, below_setRow (thenW (HB1.out) HB2.out) (by rw [HQ.out]; omega) _⟩
end Go.Proofs.YtigafjdacllohaaDoor
