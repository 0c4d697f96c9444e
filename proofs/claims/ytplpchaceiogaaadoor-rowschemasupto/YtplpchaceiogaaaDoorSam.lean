/- SameTable. -/
import Derived.Test.YtplpchaceiogaaaDoorRtb
namespace Go.Proofs.YtplpchaceiogaaaDoor
open Go.RowKit
set_option linter.unusedVariables false
set_option linter.unusedSimpArgs false
set_option maxRecDepth 100000
theorem op_call1 {P : Program} {ops : Array Oper} {Q : Exit → Act → World → Prop} {oi : Oper} {a : Act} {w : World} {K : Act → World → Prop} {i : Nat} {R : Ending → World → Prop} (dst f : Nat) (hi : ops[i]? = some oi)
    (hd : oi.dst = some dst) (hw : Region.wanted oi (yielded ops a.tmps) = true) (x : Operand) (ts : Array TypeId) (hop : oi.op = Op.call { callee := Callee.value (Operand.func f), args := #[x], argTypes := ts })
    (vx : Value) (hx : a.eval x = vx) (hcf : ∀ args w, (callFunc f args).run P w = .ok (.enter f args) w) (hc : Calls P f #[vx] w R)
    (hK : ∀ e w', R e w' → ∃ v, e = .returned v ∧ K (a.put (some dst) v) w') : wpOp P ops Q i K a w := by
  refine wpOp_step hi (fun K' hK' => ?_)
  rw [if_pos hw]
  have hrun : (execOp a.eval oi).run P w = .ok (.enter f #[vx]) w := by
    have hff : a.eval (.func f) = .func (.func f) #[] #[] := rfl
    unfold execOp
    simp [hop, resolve, hff, Deferred.ofValue, invoke, hx]
    exact hcf _ _
  unfold Oper.wp
  rw [hrun, Oper.upon_enter]
  refine hc.mono ?_
  intro e w' hR
  obtain ⟨v, rfl, hW⟩ := hK e w' hR
  show K' (a.put oi.dst v) w'
  rw [hd]
  exact hK' _ _ hW
theorem Tryd.enters30t (args : Array Value) (w : World) : (callFunc 30 args).run Tryd.prog w = .ok (.enter 30 args) w := by kernel_rfl
theorem Tryd.enters28t (args : Array Value) (w : World) : (callFunc 28 args).run Tryd.prog w = .ok (.enter 28 args) w := by kernel_rfl
structure SmS (q r : Nat) (T : Tb) (p p' : Pl) (W : World) : Prop where
  a : TBox W q T p
  b : TBox W r T p'
  ta : TbAt W T p
  tb : TbAt W T p'
theorem SmS.belowW {q r : Nat} {T : Tb} {p p' : Pl} {w w' : World} (h : SmS q r T p p' w) (hb : Below w.heap.size w w') : SmS q r T p p' w' := ⟨h.a.belowW hb, h.b.belowW hb, h.ta.belowW hb, h.tb.belowW hb⟩
set_option maxHeartbeats 4000000 in
theorem same30 {w : World} {T : Tb} {p p' : Pl} (h : TbAt w T p) (h' : TbAt w T p') (hf : T.Few) (hw : T.wf) (hl : tbulk T ≤ 400000000) :
    Calls Tryd.prog 30 #[.agg #[.string (strOf T.nm), .slice p.ca T.cols.length p.cc, .slice p.ia T.idx.length p.ic, .int .i64 T.head, .slice p.ra T.roots.length p.rc], .agg #[.string (strOf T.nm), .slice p'.ca T.cols.length p'.cc, .slice p'.ia T.idx.length p'.ic, .int .i64 T.head, .slice p'.ra T.roots.length p'.rc]] w fun e w' => e = .returned (.bool true) ∧ Below w.heap.size w w' := by
  obtain ⟨W0, hW0⟩ : ∃ W0, (w.alloc (.cells #[.string (strOf T.nm), .slice p.ca T.cols.length p.cc, .slice p.ia T.idx.length p.ic, .int .i64 T.head, .slice p.ra T.roots.length p.rc] 29)).alloc (.cells #[.string (strOf T.nm), .slice p'.ca T.cols.length p'.cc, .slice p'.ia T.idx.length p'.ic, .int .i64 T.head, .slice p'.ra T.roots.length p'.rc] 29) = W0 := ⟨_, rfl⟩
  have hb0 : Below w.heap.size w W0 := by rw [← hW0]; exact ((Below.refl _ _).alloc (Nat.le_refl _) _).alloc (by simp) _
  have hx0 : TBox W0 w.heap.size T p := by rw [← hW0]; exact (Below.heap_alloc _ _ _ (by simp)).trans (heap_alloc_new w _)
  have hx1 : TBox W0 (w.heap.size + 1) T p' := by
    have := heap_alloc_new (w.alloc (.cells #[.string (strOf T.nm), .slice p.ca T.cols.length p.cc, .slice p.ia T.idx.length p.ic, .int .i64 T.head, .slice p.ra T.roots.length p.rc] 29)) (.cells #[.string (strOf T.nm), .slice p'.ca T.cols.length p'.cc, .slice p'.ia T.idx.length p'.ic, .int .i64 T.head, .slice p'.ra T.roots.length p'.rc] 29)
    rw [hW0] at this
    unfold TBox
    simpa using this
  have HB0 := hide hb0
  have HS : Hid (SmS w.heap.size (w.heap.size + 1) T p p' W0) := ⟨hx0, hx1, h.belowW hb0, h'.belowW hb0⟩
  have HCA : Hid (∀ W, TbAt W T p → Calls Tryd.prog 29 #[.agg #[.string (strOf T.nm), .slice p.ca T.cols.length p.cc, .slice p.ia T.idx.length p.ic, .int .i64 T.head, .slice p.ra T.roots.length p.rc]] W fun e w' => ∃ u, e = .returned u ∧ Bts W w' u (joinL (schL T))) := fun W h => rschema29 (T := T) (p := p) h hf hw hl
  have HCB : Hid (∀ W, TbAt W T p' → Calls Tryd.prog 29 #[.agg #[.string (strOf T.nm), .slice p'.ca T.cols.length p'.cc, .slice p'.ia T.idx.length p'.ic, .int .i64 T.head, .slice p'.ra T.roots.length p'.rc]] W fun e w' => ∃ u, e = .returned u ∧ Bts W w' u (joinL (schL T))) := fun W h => rschema29 (T := T) (p := p') h hf hw hl
  clear h h' hw hl hf hx0 hx1 hb0
  go_enter Tryd.func30, Tryd.ntmps30
  go_upto_region 1 with fail
  try rw [hW0]
  clear hW0
  generalize hr : w.heap.size + 1 = r at *
  generalize hq : w.heap.size = q at *
  have HQ := hide hq
  clear hq hr
  refine wp_region_held_drew (S := SmS q r T p p') (by kernel_rfl) (HS.out.belowW (below_drewN _ _ 1)) (fun hH => ?_)
  refine take_to 0 5 (.agg #[.string (strOf T.nm), .slice p.ca T.cols.length p.cc, .slice p.ia T.idx.length p.ic, .int .i64 T.head, .slice p.ra T.roots.length p.rc]) rfl (by kernel_rfl) (by kernel_rfl) (by kernel_rfl) (fun _ _ _ h => h) rfl (by rfl) (fun w hw => op_load _ _ 29 (.tmp 2) rfl (.pointer (some ⟨q, 0, none⟩)) _ rfl (load29 hw.a)) hH ?_
  simp only [Act.put, List.setIfInBounds_toArray, List.set_cons_zero, List.set_cons_succ]
  refine take_to 3 8 (.agg #[.string (strOf T.nm), .slice p'.ca T.cols.length p'.cc, .slice p'.ia T.idx.length p'.ic, .int .i64 T.head, .slice p'.ra T.roots.length p'.rc]) rfl (by kernel_rfl) (by kernel_rfl) (by kernel_rfl) (fun _ _ _ h => h) rfl (by rfl) (fun w hw => op_load _ _ 29 (.tmp 3) rfl (.pointer (some ⟨r, 0, none⟩)) _ rfl (load29 hw.b)) hH ?_
  simp only [Act.put, List.setIfInBounds_toArray, List.set_cons_zero, List.set_cons_succ]
  refine step_call1_to 1 6 29 rfl (by kernel_rfl) rfl (by rfl) (.tmp 5) _ rfl _ rfl Tryd.enters29t (HCA.out _ hH.ta) ?_
  rintro e u1 ⟨v1, rfl, hB1⟩
  obtain ⟨a1, c1, rfl, hx1, hx2⟩ := hB1.sl.len
  have hH1 := hH.belowW hB1.below
  refine ⟨_, rfl, hH1, ?_⟩
  simp only [Act.put, List.setIfInBounds_toArray, List.set_cons_zero, List.set_cons_succ]
  refine wpAnyH_all (rs := [2, 4]) (by kernel_rfl) (by simp) ?_
  intro i hi
  simp only [List.mem_cons, List.not_mem_nil, or_false] at hi
  rcases hi with rfl | rfl
  · refine op_to 7 (.string (strOf (joinL (schL T)))) u1 rfl rfl (by rfl) (op_conv _ _ 30 9 (.tmp 6) rfl _ _ rfl (run_str hB1.sl)) ⟨hH1, ?_⟩
    simp only [Act.put, List.setIfInBounds_toArray, List.set_cons_zero, List.set_cons_succ]
    refine step_call1_to 4 9 29 rfl (by kernel_rfl) rfl (by rfl) (.tmp 8) _ rfl _ rfl Tryd.enters29t (HCB.out _ hH1.tb) ?_
    rintro e u2 ⟨v2, rfl, hB2⟩
    obtain ⟨a2, c2, rfl, hx3, hx4⟩ := hB2.sl.len
    have hH2 := hH1.belowW hB2.below
    refine ⟨_, rfl, hH2, ?_⟩
    simp only [Act.put, List.setIfInBounds_toArray, List.set_cons_zero, List.set_cons_succ]
    refine step_to 5 10 (.string (strOf (joinL (schL T)))) u2 rfl (by kernel_rfl) rfl (by rfl) (op_conv _ _ 30 9 (.tmp 9) rfl _ _ rfl (run_str hB2.sl)) hH2 ?_
    simp only [Act.put, List.setIfInBounds_toArray, List.set_cons_zero, List.set_cons_succ]
    refine step_to 6 11 (.bool true) u2 rfl (by kernel_rfl) rfl (by rfl) (op_eqlS _ _ (.tmp 7) (.tmp 10) _ rfl _ rfl rfl) hH2 ?_
    simp only [Act.put, List.setIfInBounds_toArray, List.set_cons_zero, List.set_cons_succ]
    refine step_to 7 4 (.bool true) u2 rfl (by kernel_rfl) rfl (by rfl) (by rfl) hH2 ?_
    simp only [Act.put, List.setIfInBounds_toArray, List.set_cons_zero, List.set_cons_succ]
    refine wpAnyH_done (by kernel_rfl) ?_ _
    have HB2 := hide (thenW (thenW (below_drewN W0.heap.size W0 1) hB1.below) hB2.below)
    have HZ : Hid (q ≤ W0.heap.size) := Nat.le_of_lt (lt_of_heap HS.out.a)
    clear hH hH1 hH2 hB1 hB2 hx1 hx2 hx3 hx4
    go_wp2
    go_ret
    refine ⟨rfl, ?_⟩
    first
      | exact HB0.out.trans (HB2.out.mono HZ.out)
      | (rw [HQ.out]; exact HB0.out.trans (HB2.out.mono HZ.out))
  · refine op_call1 9 29 rfl rfl (by rfl) (.tmp 8) _ rfl _ rfl Tryd.enters29t (HCB.out _ hH1.tb) ?_
    rintro e u2 ⟨v2, rfl, hB2⟩
    obtain ⟨a2, c2, rfl, hx3, hx4⟩ := hB2.sl.len
    have hH2 := hH1.belowW hB2.below
    refine ⟨_, rfl, hH2, ?_⟩
    simp only [Act.put, List.setIfInBounds_toArray, List.set_cons_zero, List.set_cons_succ]
    refine wpAnyH_all (rs := [2, 5]) (by kernel_rfl) (by simp) ?_
    intro i hi
    simp only [List.mem_cons, List.not_mem_nil, or_false] at hi
    rcases hi with rfl | rfl
    · refine op_to 7 (.string (strOf (joinL (schL T)))) u2 rfl rfl (by rfl) (op_conv _ _ 30 9 (.tmp 6) rfl _ _ rfl (run_str (hB1.sl.belowW hB2.below))) ⟨hH2, ?_⟩
      simp only [Act.put, List.setIfInBounds_toArray, List.set_cons_zero, List.set_cons_succ]
      refine step_to 5 10 (.string (strOf (joinL (schL T)))) u2 rfl (by kernel_rfl) rfl (by rfl) (op_conv _ _ 30 9 (.tmp 9) rfl _ _ rfl (run_str hB2.sl)) hH2 ?_
      simp only [Act.put, List.setIfInBounds_toArray, List.set_cons_zero, List.set_cons_succ]
      refine step_to 6 11 (.bool true) u2 rfl (by kernel_rfl) rfl (by rfl) (op_eqlS _ _ (.tmp 7) (.tmp 10) _ rfl _ rfl rfl) hH2 ?_
      simp only [Act.put, List.setIfInBounds_toArray, List.set_cons_zero, List.set_cons_succ]
      refine step_to 7 4 (.bool true) u2 rfl (by kernel_rfl) rfl (by rfl) (by rfl) hH2 ?_
      simp only [Act.put, List.setIfInBounds_toArray, List.set_cons_zero, List.set_cons_succ]
      refine wpAnyH_done (by kernel_rfl) ?_ _
      have HB2 := hide (thenW (thenW (below_drewN W0.heap.size W0 1) hB1.below) hB2.below)
      have HZ : Hid (q ≤ W0.heap.size) := Nat.le_of_lt (lt_of_heap HS.out.a)
      clear hH hH1 hH2 hB1 hB2 hx1 hx2 hx3 hx4
      go_wp2
      go_ret
      refine ⟨rfl, ?_⟩
      first
        | exact HB0.out.trans (HB2.out.mono HZ.out)
        | (rw [HQ.out]; exact HB0.out.trans (HB2.out.mono HZ.out))
    · refine op_to 10 (.string (strOf (joinL (schL T)))) u2 rfl rfl (by rfl) (op_conv _ _ 30 9 (.tmp 9) rfl _ _ rfl (run_str hB2.sl)) ⟨hH2, ?_⟩
      simp only [Act.put, List.setIfInBounds_toArray, List.set_cons_zero, List.set_cons_succ]
      refine step_to 2 7 (.string (strOf (joinL (schL T)))) u2 rfl (by kernel_rfl) rfl (by rfl) (op_conv _ _ 30 9 (.tmp 6) rfl _ _ rfl (run_str (hB1.sl.belowW hB2.below))) hH2 ?_
      simp only [Act.put, List.setIfInBounds_toArray, List.set_cons_zero, List.set_cons_succ]
      refine step_to 6 11 (.bool true) u2 rfl (by kernel_rfl) rfl (by rfl) (op_eqlS _ _ (.tmp 7) (.tmp 10) _ rfl _ rfl rfl) hH2 ?_
      simp only [Act.put, List.setIfInBounds_toArray, List.set_cons_zero, List.set_cons_succ]
      refine step_to 7 4 (.bool true) u2 rfl (by kernel_rfl) rfl (by rfl) (by rfl) hH2 ?_
      simp only [Act.put, List.setIfInBounds_toArray, List.set_cons_zero, List.set_cons_succ]
      refine wpAnyH_done (by kernel_rfl) ?_ _
      have HB2 := hide (thenW (thenW (below_drewN W0.heap.size W0 1) hB1.below) hB2.below)
      have HZ : Hid (q ≤ W0.heap.size) := Nat.le_of_lt (lt_of_heap HS.out.a)
      clear hH hH1 hH2 hB1 hB2 hx1 hx2 hx3 hx4
      go_wp2
      go_ret
      refine ⟨rfl, ?_⟩
      first
        | exact HB0.out.trans (HB2.out.mono HZ.out)
        | (rw [HQ.out]; exact HB0.out.trans (HB2.out.mono HZ.out))
end Go.Proofs.YtplpchaceiogaaaDoor
