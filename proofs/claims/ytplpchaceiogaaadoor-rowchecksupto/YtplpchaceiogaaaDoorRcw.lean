/- The walk of RowChecks. -/
import Derived.Test.YtplpchaceiogaaaDoorAwk
import Derived.Test.YtplpchaceiogaaaDoorRck
namespace Go.Proofs.YtplpchaceiogaaaDoor
open Go.RowKit
set_option linter.unusedVariables false
set_option linter.unusedSimpArgs false
set_option maxRecDepth 100000

theorem op_eqlX (ρ : Operand → Value) (o : Oper) (x y : Operand) (tt : TypeId) (ho : o.op = .binOp .eql 3 x y tt) (n : Int) (hx : ρ x = .int .i64 n) (hy : ρ y = .int .i64 n) {w : World} : (execOp ρ o).run Tryd.prog w = .ok (.value (.bool true)) w := by
  have hu := Tryd.underlying3
  unfold execOp
  simp only [ho, hx, hy]
  simp [go_sem, hu]
structure RcS (q : Nat) (T : Tb) (p : Pl) (l : List Vl) (ao : Option Addr) (c : Nat) (m : Int) (W : World) : Prop where
  tb : TBox W q T p
  tbl : TbAt W T p
  vl : VsAt W (.slice ao l.length c) l
  z : W.cell? ⟨0, 0, none⟩ = some (.int .i64 m)
theorem RcS.belowW {q : Nat} {T : Tb} {p : Pl} {l : List Vl} {ao : Option Addr} {c : Nat} {m : Int} {w w' : World} (h : RcS q T p l ao c m w) (hb : Below w.heap.size w w') : RcS q T p l ao c m w' := ⟨h.tb.belowW hb, h.tbl.belowW hb, h.vl.belowW hb, cell_belowW h.z hb⟩
set_option maxHeartbeats 4000000 in
theorem checks_walk (m : Int) {w : World} {v : Value} {T : Tb} {p : Pl} {l : List Vl} (h : TbAt w T p) (hf : T.Few) (hv : VsAt w v l) (hw : ∀ V ∈ l, V.wf) (hl : bulk l ≤ 400000000) (hm : w.cell? ⟨0, 0, none⟩ = some (.int .i64 m)) :
    Calls Tryd.prog 5 #[.agg #[.string (strOf T.nm), .slice p.ca T.cols.length p.cc, .slice p.ia T.idx.length p.ic, .int .i64 T.head, .slice p.ra T.roots.length p.rc], v] w fun e w' => e = .returned (.bool true) ∧ Below w.heap.size w w' := by
  obtain ⟨ao, c, rfl, hc1, hc2⟩ := hv.len
  simp only [maxLen] at hc2
  obtain ⟨W0, hW0⟩ : ∃ W0, w.alloc (.cells #[.string (strOf T.nm), .slice p.ca T.cols.length p.cc, .slice p.ia T.idx.length p.ic, .int .i64 T.head, .slice p.ra T.roots.length p.rc] 29) = W0 := ⟨_, rfl⟩
  have hb0 : Below w.heap.size w W0 := by rw [← hW0]; exact (Below.refl _ _).alloc (Nat.le_refl _) _
  have hx0 : TBox W0 w.heap.size T p := by rw [← hW0]; exact heap_alloc_new _ _
  have HB0 := hide hb0
  have HS : Hid (RcS w.heap.size T p l ao c m W0) := ⟨hx0, h.belowW hb0, hv.belowW hb0, cell_belowW hm hb0⟩
  have HWF := hide hw
  have HBK := hide hl
  have HFW := hide hf
  clear h hv hw hl hf hx0 hb0 hm
  go_enter Tryd.func5, Tryd.ntmps5
  go_upto_region 1 with fail
  try rw [hW0]
  clear hW0
  generalize hq : w.heap.size = q at *
  have HQ := hide hq
  clear hq
  refine wp_region_held_drew (S := RcS q T p l ao c m) (by kernel_rfl) (HS.out.belowW (below_drewN _ _ 1)) (fun hH => ?_)
  refine take_to 0 5 (.agg #[.string (strOf T.nm), .slice p.ca T.cols.length p.cc, .slice p.ia T.idx.length p.ic, .int .i64 T.head, .slice p.ra T.roots.length p.rc]) rfl (by kernel_rfl) (by kernel_rfl) (by kernel_rfl) (fun _ _ _ h => h) rfl (by rfl) (fun w hw => op_load _ _ 29 (.tmp 2) rfl (.pointer (some ⟨q, 0, none⟩)) _ rfl (load29 hw.tb)) hH ?_
  simp only [Act.put, List.setIfInBounds_toArray, List.set_cons_zero, List.set_cons_succ]
  refine take_to 1 6 (.slice ao l.length c) rfl (by kernel_rfl) (by kernel_rfl) (by kernel_rfl) (fun _ _ _ h => h) rfl (by rfl) (fun w hw => by rfl) hH ?_
  simp only [Act.put, List.setIfInBounds_toArray, List.set_cons_zero, List.set_cons_succ]
  refine take_to 3 8 (.agg #[.string (strOf T.nm), .slice p.ca T.cols.length p.cc, .slice p.ia T.idx.length p.ic, .int .i64 T.head, .slice p.ra T.roots.length p.rc]) rfl (by kernel_rfl) (by kernel_rfl) (by kernel_rfl) (fun _ _ _ h => h) rfl (by rfl) (fun w hw => op_load _ _ 29 (.tmp 2) rfl (.pointer (some ⟨q, 0, none⟩)) _ rfl (load29 hw.tb)) hH ?_
  simp only [Act.put, List.setIfInBounds_toArray, List.set_cons_zero, List.set_cons_succ]
  refine take_to 4 9 (.slice ao l.length c) rfl (by kernel_rfl) (by kernel_rfl) (by kernel_rfl) (fun _ _ _ h => h) rfl (by rfl) (fun w hw => by rfl) hH ?_
  simp only [Act.put, List.setIfInBounds_toArray, List.set_cons_zero, List.set_cons_succ]
  refine step_call2_to 2 7 12 rfl (by kernel_rfl) rfl (by rfl) (.tmp 5) (.tmp 6) _ rfl _ _ rfl rfl Tryd.enters12 (chk12 hH.tbl HFW.out hH.vl HWF.out HBK.out) ?_
  rintro e u1 ⟨x, rfl, hx, hb1⟩
  have hH1 := hH.belowW hb1
  refine ⟨_, rfl, hH1, ?_⟩
  simp only [Act.put, List.setIfInBounds_toArray, List.set_cons_zero, List.set_cons_succ]
  refine step_call2_to 5 10 25 rfl (by kernel_rfl) rfl (by rfl) (.tmp 8) (.tmp 9) _ rfl _ _ rfl rfl Tryd.enters25 (rchk25 hH1.tbl HFW.out hH1.vl HWF.out HBK.out) ?_
  rintro e u2 ⟨y, rfl, hy, hb2⟩
  obtain rfl := hx.det hy
  have hH2 := hH1.belowW hb2
  refine ⟨_, rfl, hH2, ?_⟩
  simp only [Act.put, List.setIfInBounds_toArray, List.set_cons_zero, List.set_cons_succ]
  refine step_to 6 11 (.bool true) _ rfl (by kernel_rfl) rfl (by rfl) (op_eqlX _ _ (.tmp 7) (.tmp 10) _ rfl x rfl rfl) hH2 ?_
  simp only [Act.put, List.setIfInBounds_toArray, List.set_cons_zero, List.set_cons_succ]
  refine step_to 7 12 (.bool true) _ rfl (by kernel_rfl) rfl (by rfl) (rfl) hH2 ?_
  simp only [Act.put, List.setIfInBounds_toArray, List.set_cons_zero, List.set_cons_succ]
  refine step_call0_to 8 13 9 rfl (by kernel_rfl) rfl (by rfl) _ rfl Tryd.enters9 (awake_any m _ hH2.z) ?_
  rintro e u3 ⟨rfl, hb3⟩
  have hH3 := hH2.belowW hb3
  refine ⟨_, rfl, hH3, ?_⟩
  simp only [Act.put, List.setIfInBounds_toArray, List.set_cons_zero, List.set_cons_succ]
  refine step_to 9 14 (.bool true) _ rfl (by kernel_rfl) rfl (by rfl) (rfl) hH3 ?_
  simp only [Act.put, List.setIfInBounds_toArray, List.set_cons_zero, List.set_cons_succ]
  refine step_to 10 4 (.bool true) _ rfl (by kernel_rfl) rfl (by rfl) (rfl) hH3 ?_
  simp only [Act.put, List.setIfInBounds_toArray, List.set_cons_zero, List.set_cons_succ]
  refine wpAnyH_done (by kernel_rfl) ?_ _
  go_wp2
  go_ret
  refine ⟨rfl, ?_⟩
  have hqs : q ≤ W0.heap.size := Nat.le_of_lt (lt_of_heap HS.out.tb)
  have h3 := thenW (thenW (thenW (below_drewN W0.heap.size W0 1) hb1) hb2) hb3
  first
    | exact HB0.out.trans (h3.mono hqs)
    | (rw [HQ.out]; exact HB0.out.trans (h3.mono hqs))
end Go.Proofs.YtplpchaceiogaaaDoor
