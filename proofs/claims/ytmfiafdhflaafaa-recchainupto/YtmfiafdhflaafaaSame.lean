/- The document's answer: Same; steps in any order. -/
import Derived.Test.YtmfiafdhflaafaaRefEnc
import Derived.Test.YtmfiafdhflaafaaBack
namespace Go.Proofs.Ytmfiafdhflaafaa
open Go.RowKit
set_option linter.unusedVariables false
set_option linter.unusedSimpArgs false

/-- A call of a Go function of one argument, one of several that may come up. -/
theorem op_call1 {P : Program} {ops : Array Oper} {Q : Exit → Act → World → Prop} {o : Oper} {a : Act} {w : World} {K : Act → World → Prop} {i : Nat} {R : Ending → World → Prop} (dst f : Nat) (hi : ops[i]? = some o)
    (hd : o.dst = some dst) (hw : Region.wanted o (yielded ops a.tmps) = true) (x : Operand) (ts : Array TypeId) (hop : o.op = Op.call { callee := Callee.value (Operand.func f), args := #[x], argTypes := ts })
    (vx : Value) (hx : a.eval x = vx) (hcf : ∀ args w, (callFunc f args).run P w = .ok (.enter f args) w) (hc : Calls P f #[vx] w R)
    (h : ∀ e w', R e w' → ∃ v, e = .returned v ∧ K (a.put (some dst) v) w') : wpOp P ops Q i K a w := by
  refine wpOp_step hi (fun K' hK => ?_)
  rw [if_pos hw]
  have hrun : (execOp a.eval o).run P w = .ok (.enter f #[vx]) w := by
    have hff : a.eval (.func f) = .func (.func f) #[] #[] := rfl
    unfold execOp
    simp [hop, resolve, hff, Deferred.ofValue, invoke, hx]
    exact hcf _ _
  unfold Oper.wp
  rw [hrun, Oper.upon_enter]
  refine hc.mono ?_
  intro e w' hR
  obtain ⟨v, rfl, hW⟩ := h e w' hR
  show K' (a.put o.dst v) w'
  rw [hd]
  exact hK _ _ hW
/-- Several orders that meet again. -/
theorem wpAnyH_via {P : Program} {ops : Array Oper} {Q : Exit → Act → World → Prop} {md : Region.Mode} {S : World → Prop} {fuel : Nat} {listed : Array Bool} {a : Act} {w : World} (fuel' : Nat) (listed' : Array Bool) (R : Act → Act → World → Prop)
    (paths : (∀ a' w', R a a' w' → wpAnyH P md ops Q S fuel' listed' a' w') → wpAnyH P md ops Q S fuel listed a w) (rest : ∀ a' w', R a a' w' → wpAnyH P md ops Q S fuel' listed' a' w') : wpAnyH P md ops Q S fuel listed a w := paths rest
theorem conv_next {W : World} {v : Value} {bs : List UInt8} (h : Sl W v bs) : (do pure (Next.value (← convert 23 9 v)) : Sem Next).run Try.prog W = .ok (.value (.string (strOf bs))) W := by
  obtain ⟨ao, c, rfl, _⟩ := h.len
  rw [Sem.run_bind, run_str h]; rfl
theorem Try.enters14 (args : Array Value) (w : World) : (callFunc 14 args).run Try.prog w = .ok (.enter 14 args) w := by kernel_rfl
theorem load_next28 (W : World) (q : Nat) (C : Array Value) (hC : C.size = 11) (h : W.heap[q]? = some (.cells C 28 (0, 0))) : (do pure (Next.value (← Instr.loadAt 28 (.pointer (some ⟨q, 0, none⟩)))) : Sem Next).run Try.prog W = .ok (.value (.agg C)) W := by
  rw [Sem.run_bind, run_load28 W q C hC h]; rfl
theorem RecVal.cells {w : World} {V : Value} {R : Rc} (h : RecVal w V R) : ∃ C, V = .agg C ∧ C.size = 11 ∧ C.all (·.oneCell') = true := by
  obtain ⟨vb, va, vt, vd, rfl, h1, h2, h3, h4⟩ := h
  obtain ⟨ab, cb, rfl, _⟩ := h1.len
  obtain ⟨aa, ca, rfl, _⟩ := h2.len
  obtain ⟨at', ct, rfl, _⟩ := h3.len
  obtain ⟨ad, cd, rfl, _⟩ := h4.len
  exact ⟨_, rfl, rfl, by simp [recCells, Value.oneCell']⟩

theorem op_eqs (ρ : Operand → Value) (o : Oper) (x y : Operand) (ho : o.op = .binOp .eql 9 x y 9) (s t : ByteArray) (hx : ρ x = .string s) (hy : ρ y = .string t) (w : World) : (execOp ρ o).run Try.prog w = .ok (.value (.bool (s.toList == t.toList))) w := by
  have hu := Try.underlying9
  unfold execOp
  simp only [ho, hx, hy]
  simp [go_sem, hu]

set_option maxHeartbeats 4000000 in
set_option maxRecDepth 100000 in
theorem same_any {w : World} {V1 V2 : Value} {A B : Rc} (h1 : RecVal w V1 A) (h2 : RecVal w V2 B) (s1 : A.size ≤ 100000000000) (s2 : B.size ≤ 100000000000) (f1 : A.wf) (f2 : B.wf) :
    Calls Try.prog 12 #[V1, V2] w fun e w' => e = .returned (.bool ((strOf A.enc).toList == (strOf B.enc).toList)) ∧ Below w.heap.size w w' := by
  have HE1 : Hid (∀ W, RecVal W V1 A → Calls Try.prog 14 #[V1] W fun e w' => ∃ v, e = .returned v ∧ w'.ownsRow W.heap.size 5 1 v A.enc.length (secCells A.enc) ∧ Below W.heap.size W w') := fun W h => refEncode_any h s1 f1
  have HE2 : Hid (∀ W, RecVal W V2 B → Calls Try.prog 14 #[V2] W fun e w' => ∃ v, e = .returned v ∧ w'.ownsRow W.heap.size 5 1 v B.enc.length (secCells B.enc) ∧ Below W.heap.size W w') := fun W h => refEncode_any h s2 f2
  obtain ⟨C1, e1, z1, _⟩ := h1.cells
  obtain ⟨C2, e2, z2, _⟩ := h2.cells
  subst e1 e2
  obtain ⟨wb, hwb⟩ : ∃ wb, (w.alloc (.cells C1 28)).alloc (.cells C2 28) = wb := ⟨_, rfl⟩
  have hB : Below w.heap.size w wb := by rw [← hwb]; exact ((Below.refl _ w).alloc (Nat.le_refl _) _).alloc (by simp) _
  have hq1 : wb.heap[w.heap.size]? = some (.cells C1 28 (0, 0)) := by rw [← hwb, Below.heap_alloc _ _ _ (by simp)]; exact heap_alloc_new _ _
  have hq2 : wb.heap[w.heap.size + 1]? = some (.cells C2 28 (0, 0)) := by
    have := heap_alloc_new (w.alloc (.cells C1 28)) (.cells C2 28)
    rw [show (w.alloc (.cells C1 28)).heap.size = w.heap.size + 1 by simp, hwb] at this
    exact this
  have HV1 : Hid (∀ W, Below wb.heap.size wb W → RecVal W (.agg C1) A) := fun W hW => (h1.below hB (Nat.le_refl _)).below hW (Nat.le_refl _)
  have HV2 : Hid (∀ W, Below wb.heap.size wb W → RecVal W (.agg C2) B) := fun W hW => (h2.below hB (Nat.le_refl _)).below hW (Nat.le_refl _)
  have HB := hide hB
  have HQ1 := hide hq1
  have HQ2 := hide hq2
  have HWB := hide hwb
  clear h1 h2 s1 s2 f1 f2 hB hq1 hq2 hwb
  go_enter Try.func12, Try.ntmps12
  go_wp2
  rw [HWB.out]
  refine wp_region_held_drew (S := fun w' => Below wb.heap.size wb w') (by kernel_rfl) ((Below.refl _ wb).drew) (fun hSwb => ?_)
  refine take_to 0 5 (.agg C1) rfl (by kernel_rfl) (by kernel_rfl) (by kernel_rfl) (fun _ _ _ h => h) rfl (by rfl) (fun W hW => by exact load_next28 W _ C1 z1 ((hW.block _ (lt_of_heap HQ1.out)).trans HQ1.out)) hSwb ?_
  simp only [Act.put, List.setIfInBounds_toArray, List.set_cons_zero, List.set_cons_succ]
  refine take_to 3 8 (.agg C2) rfl (by kernel_rfl) (by kernel_rfl) (by kernel_rfl) (fun _ _ _ h => h) rfl (by rfl) (fun W hW => by exact load_next28 W _ C2 z2 ((hW.block _ (lt_of_heap HQ2.out)).trans HQ2.out)) hSwb ?_
  simp only [Act.put, List.setIfInBounds_toArray, List.set_cons_zero, List.set_cons_succ]
  refine wpAnyH_via 2 #[true, true, true, true, true, true, false, false] (fun a a' w' => ∃ v1 v2, a' = ((((a.put (some 6) v1).put (some 7) (.string (strOf A.enc))).put (some 9) v2).put (some 10) (.string (strOf B.enc))) ∧ Below wb.heap.size wb w') (fun rest => ?_) (fun a' w' h => ?_)
  · have hSwb0 := hSwb
    refine step_call1_to 1 6 14 rfl (by kernel_rfl) rfl (by rfl) (.tmp 5) _ rfl (.agg C1) rfl Try.enters14 (HE1.out _ (HV1.out _ hSwb0)) (fun e w1_0 h => ?_)
    obtain ⟨v0, rfl, ho0, hb0w1_0⟩ := h
    have hSw1_0 : Below wb.heap.size wb w1_0 := hSwb0.trans (hb0w1_0.mono hSwb0.size)
    have sl0w1_0 := owns_sl ho0
    refine ⟨v0, rfl, hSw1_0, ?_⟩
    simp only [Act.put, List.setIfInBounds_toArray, List.set_cons_zero, List.set_cons_succ]
    refine wpAnyH_all (rs := [2, 4]) (by kernel_rfl) (by simp) ?_
    intro m hm
    rcases (by simpa using hm : m = 2 ∨ m = 4) with rfl | rfl
    ·
      refine op_to 7 (.string (strOf A.enc)) _ rfl rfl (by rfl) (by exact conv_next sl0w1_0) ⟨hSw1_0, ?_⟩
      simp only [Act.put, List.setIfInBounds_toArray, List.set_cons_zero, List.set_cons_succ]
      refine step_call1_to 4 9 14 rfl (by kernel_rfl) rfl (by rfl) (.tmp 8) _ rfl (.agg C2) rfl Try.enters14 (HE2.out _ (HV2.out _ hSw1_0)) (fun e w4_1 h => ?_)
      obtain ⟨v1, rfl, ho1, hb1w4_1⟩ := h
      have hSw4_1 : Below wb.heap.size wb w4_1 := hSw1_0.trans (hb1w4_1.mono hSw1_0.size)
      have sl0w4_1 := sl0w1_0.below hb1w4_1 (Nat.le_refl _)
      have sl1w4_1 := owns_sl ho1
      refine ⟨v1, rfl, hSw4_1, ?_⟩
      simp only [Act.put, List.setIfInBounds_toArray, List.set_cons_zero, List.set_cons_succ]
      refine step_to 5 10 (.string (strOf B.enc)) _ rfl (by kernel_rfl) rfl (by rfl) (by exact conv_next sl1w4_1) hSw4_1 ?_
      simp only [Act.put, List.setIfInBounds_toArray, List.set_cons_zero, List.set_cons_succ]
      exact rest _ _ ⟨v0, v1, rfl, hSw4_1⟩
    ·
      refine op_call1 9 14 rfl rfl (by rfl) (.tmp 8) _ rfl (.agg C2) rfl Try.enters14 (HE2.out _ (HV2.out _ hSw1_0)) (fun e w4_2 h => ?_)
      obtain ⟨v1, rfl, ho1, hb1w4_2⟩ := h
      have hSw4_2 : Below wb.heap.size wb w4_2 := hSw1_0.trans (hb1w4_2.mono hSw1_0.size)
      have sl0w4_2 := sl0w1_0.below hb1w4_2 (Nat.le_refl _)
      have sl1w4_2 := owns_sl ho1
      refine ⟨v1, rfl, hSw4_2, ?_⟩
      simp only [Act.put, List.setIfInBounds_toArray, List.set_cons_zero, List.set_cons_succ]
      refine wpAnyH_all (rs := [2, 5]) (by kernel_rfl) (by simp) ?_
      intro m hm
      rcases (by simpa using hm : m = 2 ∨ m = 5) with rfl | rfl
      ·
        refine op_to 7 (.string (strOf A.enc)) _ rfl rfl (by rfl) (by exact conv_next sl0w4_2) ⟨hSw4_2, ?_⟩
        simp only [Act.put, List.setIfInBounds_toArray, List.set_cons_zero, List.set_cons_succ]
        refine step_to 5 10 (.string (strOf B.enc)) _ rfl (by kernel_rfl) rfl (by rfl) (by exact conv_next sl1w4_2) hSw4_2 ?_
        simp only [Act.put, List.setIfInBounds_toArray, List.set_cons_zero, List.set_cons_succ]
        exact rest _ _ ⟨v0, v1, rfl, hSw4_2⟩
      ·
        refine op_to 10 (.string (strOf B.enc)) _ rfl rfl (by rfl) (by exact conv_next sl1w4_2) ⟨hSw4_2, ?_⟩
        simp only [Act.put, List.setIfInBounds_toArray, List.set_cons_zero, List.set_cons_succ]
        refine step_to 2 7 (.string (strOf A.enc)) _ rfl (by kernel_rfl) rfl (by rfl) (by exact conv_next sl0w4_2) hSw4_2 ?_
        simp only [Act.put, List.setIfInBounds_toArray, List.set_cons_zero, List.set_cons_succ]
        exact rest _ _ ⟨v0, v1, rfl, hSw4_2⟩
  · obtain ⟨v1, v2, rfl, hS⟩ := h
    simp only [Act.put, List.setIfInBounds_toArray, List.set_cons_zero, List.set_cons_succ]
    refine step_to 6 11 (.bool ((strOf A.enc).toList == (strOf B.enc).toList)) _ rfl (by kernel_rfl) rfl (by rfl) (op_eqs _ _ (.tmp 7) (.tmp 10) rfl _ _ rfl rfl _) hS ?_
    simp only [Act.put, List.setIfInBounds_toArray, List.set_cons_zero, List.set_cons_succ]
    refine step_to 7 4 (.bool ((strOf A.enc).toList == (strOf B.enc).toList)) _ rfl (by kernel_rfl) rfl (by rfl) rfl hS ?_
    simp only [Act.put, List.setIfInBounds_toArray, List.set_cons_zero, List.set_cons_succ]
    refine wpAnyH_done (by kernel_rfl) ?_ _
    have HS := hide hS
    clear hS hSwb
    go_wp2
    go_ret
    exact ⟨rfl, HB.out.trans (HS.out.mono HB.out.size)⟩
end Go.Proofs.Ytmfiafdhflaafaa
