/- The document's Check. -/
import Derived.Test.YtplpchaceiogaaaDoorRix
namespace Go.Proofs.YtplpchaceiogaaaDoor
open Go.RowKit
set_option linter.unusedVariables false
set_option linter.unusedSimpArgs false
set_option maxRecDepth 100000

/-- What lies in memory as a column is looked at. -/
structure RckS (q gv ov gb ob k : Nat) (T : Tb) (p : Pl) (C : Cl) (V : Vl) (w : World) : Prop where
  tb : TBox w q T p
  cl : ClAt w gb (ob + k * 4) C
  vl : CellsAt w gv (ov + k * 4) V
theorem CellsAt.belowW {w w' : World} {g o : Nat} {V : Vl} (h : CellsAt w g o V) (hb : Below w.heap.size w w') : CellsAt w' g o V :=
  ⟨cell_belowW h.c0 hb, cell_belowW h.c1 hb, cell_belowW h.c2 hb, cell_belowW h.c3 hb⟩
theorem RckS.belowW {q gv ov gb ob k : Nat} {T : Tb} {p : Pl} {C : Cl} {V : Vl} {w w' : World} (h : RckS q gv ov gb ob k T p C V w) (hb : Below w.heap.size w w') : RckS q gv ov gb ob k T p C V w' :=
  ⟨h.tb.belowW hb, h.cl.belowW hb, h.vl.belowW hb⟩
set_option maxHeartbeats 16000000 in
theorem rchk25 {w : World} {v : Value} {T : Tb} {p : Pl} {l : List Vl} (h : TbAt w T p) (hf : T.Few) (hv : VsAt w v l) (hw : ∀ V ∈ l, V.wf) (hl : bulk l ≤ 400000000) :
    Calls Tryd.prog 25 #[.agg #[.string (strOf T.nm), .slice p.ca T.cols.length p.cc, .slice p.ia T.idx.length p.ic, .int .i64 T.head, .slice p.ra T.roots.length p.rc], v] w fun e w' => ∃ x, e = .returned (.int .i64 x) ∧ CheckIs T l x ∧ Below w.heap.size w w' := by
  obtain ⟨ao, c, rfl, hc1, hc2⟩ := hv.len
  simp only [maxLen] at hc2
  have hN := hf.cols
  obtain ⟨W0, hW0⟩ : ∃ W0, w.alloc (.cells #[.string (strOf T.nm), .slice p.ca T.cols.length p.cc, .slice p.ia T.idx.length p.ic, .int .i64 T.head, .slice p.ra T.roots.length p.rc] 29) = W0 := ⟨_, rfl⟩
  have hb0 : Below w.heap.size w W0 := by rw [← hW0]; exact (Below.refl _ _).alloc (Nat.le_refl _) _
  have hx0 : TBox W0 w.heap.size T p := by rw [← hW0]; exact heap_alloc_new _ _
  have HX0 := hide hx0
  have HB0 := hide hb0
  have HI : Hid (∀ W, Below w.heap.size w W → ∀ c : Nat, c < T.cols.length → Calls Tryd.prog 45 #[.agg #[.string (strOf T.nm), .slice p.ca T.cols.length p.cc, .slice p.ia T.idx.length p.ic, .int .i64 T.head, .slice p.ra T.roots.length p.rc], .int .i64 (c : Int)] W fun e w' => e = .returned (.bool (hasAt T c)) ∧ Below W.heap.size W w') := fun W hW c hc => rindex45 (h.belowW hW) hf c hc
  have HV : Hid (∀ W, Below w.heap.size w W → VsAt W (.slice ao l.length c) l) := fun W hW => hv.belowW hW
  have HCT : Hid (∀ W, Below w.heap.size w W → ClsAt W (.slice p.ca T.cols.length p.cc) T.cols) := fun W hW => Row.belowW h.cols hW
  have HCD : Hid (∀ W, Below w.heap.size w W → Calls Tryd.prog 14 #[.slice ao l.length c] W (CodEnd W l)) := fun W hW => cod14 (hv.belowW hW) hw hl
  have a1 : W0.cell? ⟨w.heap.size, 1, none⟩ = some (.slice p.ca T.cols.length p.cc) := hx0.c1
  have hgl := lt_of_heap hx0
  by_cases hn : l.length = T.cols.length
  · have HNE := hide hn
    have HCK1 : Hid (∀ k x, k < l.length → (∀ j, j < k → fitAt T l j = 0) → fitAt T l k = x → x ≠ 0 → CheckIs T l x) := fun k x h1 h2 h3 h4 => .inr ⟨hn, .inl ⟨k, h1, h2, h3, h4⟩⟩
    have HCK2 : Hid ((∀ j, j < l.length → fitAt T l j = 0) → CheckIs T l (codE l)) := fun h => .inr ⟨hn, .inr ⟨h, rfl⟩⟩
    rw [hn] at HV HCD HCK1 HCK2 hc1 ⊢
    clear h hv hw hl hf hx0 hb0 hn
    go_enter Tryd.func25, Tryd.ntmps25
    go_upto_region 1 with fail
    try rw [hW0]
    clear hW0
    generalize hq : w.heap.size = q at *
    have HQ := hide hq
    clear hq
    have hnn : ((T.cols.length : Int) != (T.cols.length : Int)) = false := by simp
    go_wp2
    clear a1 hgl hnn
    go_loopw [5] (fun i wr => ∃ k : Nat, k ≤ T.cols.length ∧ i = .int .i64 (k : Int) ∧ (∀ j, j < k → fitAt T l j = 0) ∧ Below q w wr ∧ TBox wr q T p) (fun i _ => T.cols.length - (intOf i).toNat)
    case atStart => exact ⟨0, by omega, rfl, fun j hj => by omega, HB0.out, HX0.out⟩
    case round =>
      clear HB0 HX0
      obtain ⟨k, hk, rfl, hz, hB, hX⟩ := hrel
      have HZ := hide hz
      have HB := hide hB
      have hqs : q ≤ wr.heap.size := Nat.le_of_lt (lt_of_heap hX)
      have HX := hide hX
      clear hz hB hX
      by_cases hlt : k < T.cols.length
      · obtain ⟨gv, ov, hao, hC⟩ := (HV.out wr HB.out).get k (by rw [HNE.out]; exact hlt)
        obtain ⟨gb, ob, hca, hCl⟩ := (HCT.out wr HB.out).get k hlt
        subst hao
        have HCA := hide hca
        clear hca
        have HK := hide (HCK1.out k)
        have HF : Hid (fitAt T l k = fitE (T.cols.getD k Cl.zero) (hasAt T k) (l.getD k Vl.zero)) := rfl
        have HIk : Hid (∀ W, Below q w W → Calls Tryd.prog 45 #[.agg #[.string (strOf T.nm), .slice p.ca T.cols.length p.cc, .slice p.ia T.idx.length p.ic, .int .i64 T.head, .slice p.ra T.roots.length p.rc], .int .i64 (k : Int)] W fun e w' => e = .returned (.bool (hasAt T k)) ∧ Below W.heap.size W w') := fun W hW => HI.out W hW k hlt
        have HS : Hid (RckS q gv ov gb ob k T p (T.cols.getD k Cl.zero) (l.getD k Vl.zero) wr) := ⟨HX.out, hCl, hC⟩
        obtain ⟨x, hxx⟩ : ∃ x, fitAt T l k = x := ⟨_, rfl⟩
        have HFX := hide hxx
        have HZ2 : Hid (x = 0 → ∀ j, j < k + 1 → fitAt T l j = 0) := fun hx j hj => by
          by_cases e : j < k
          · exact HZ.out j e
          · have e : j = k := by omega
            rw [e, hxx, hx]
        have HCK : Hid (x ≠ 0 → CheckIs T l x) := fun hx => HK.out x hlt HZ.out hxx hx
        rw [hxx] at HF
        clear hxx hC hCl HX
        generalize hasAt T k = ix at *
        generalize T.cols.getD k Cl.zero = C at *
        generalize l.getD k Vl.zero = V at *
        have HSZ : Hid ((strOf V.t).size = V.t.length) := by simp [Hid, strOf, ByteArray.size]
        go_upto_region 6 with fail
        by_cases h0 : V.ty = 0
        · have n0 : (V.ty != 0) = false := by simpa using h0
          refine wp_region_held_drew (S := RckS q gv ov gb ob k T p C V) (by kernel_rfl) (HS.out.belowW (below_drewN _ _ 1)) (fun hH => ?_)
          refine take_to 0 21 (.slice (some ⟨gv, ov, none⟩) T.cols.length c) rfl (by kernel_rfl) (by kernel_rfl) (by kernel_rfl) (fun _ _ _ h => h) rfl (by rfl) (fun w hw => by rfl) hH ?_
          simp only [Act.put, List.setIfInBounds_toArray, List.set_cons_zero, List.set_cons_succ]
          refine take_to 1 22 (.int .i64 (k : Int)) rfl (by kernel_rfl) (by kernel_rfl) (by kernel_rfl) (fun _ _ _ h => h) rfl (by rfl) (fun w hw => by rfl) hH ?_
          simp only [Act.put, List.setIfInBounds_toArray, List.set_cons_zero, List.set_cons_succ]
          refine take_to 2 23 (.pointer (some ⟨gv, ov + k * 4, none⟩)) rfl (by kernel_rfl) (by kernel_rfl) (by kernel_rfl) (fun _ _ _ h => h) rfl (by rfl) (fun w hw => op_index _ _ 35 (.tmp 21) (.tmp 22) rfl (.slice (some ⟨gv, ov, none⟩) T.cols.length c) (.int .i64 (k : Int)) _ rfl rfl (run_index35 w gv ov _ _ k hlt)) hH ?_
          simp only [Act.put, List.setIfInBounds_toArray, List.set_cons_zero, List.set_cons_succ]
          refine take_to 3 24 (.pointer (some ⟨gv, ov + k * 4 + 0, none⟩)) rfl (by kernel_rfl) (by kernel_rfl) (by kernel_rfl) (fun _ _ _ h => h) rfl (by rfl) (fun w hw => by rfl) hH ?_
          simp only [Act.put, List.setIfInBounds_toArray, List.set_cons_zero, List.set_cons_succ]
          refine take_to 4 25 (.int .i64 V.ty) rfl (by kernel_rfl) (by kernel_rfl) (by kernel_rfl) (fun _ _ _ h => h) rfl (by rfl) (fun w hw => op_load _ _ 3 (.tmp 24) rfl (.pointer (some ⟨gv, ov + k * 4, none⟩)) _ rfl (run_loadAny w (gv) (ov + k * 4) 3 _ Tryd.isAgg3 hw.vl.c0)) hH ?_
          simp only [Act.put, List.setIfInBounds_toArray, List.set_cons_zero, List.set_cons_succ]
          refine take_to 5 26 (.bool false) rfl (by kernel_rfl) (by kernel_rfl) (by kernel_rfl) (fun _ _ _ h => h) rfl (by rfl) (fun w hw => op_neq3 _ _ (.tmp 25) (.const (.int .i64 0)) _ rfl V.ty 0 rfl rfl false n0) hH ?_
          simp only [Act.put, List.setIfInBounds_toArray, List.set_cons_zero, List.set_cons_succ]
          refine take_to 6 27 (.bool false) rfl (by kernel_rfl) (by kernel_rfl) (by kernel_rfl) (fun _ _ _ h => h) rfl (by rfl) (fun w hw => by rfl) hH ?_
          simp only [Act.put, List.setIfInBounds_toArray, List.set_cons_zero, List.set_cons_succ]
          refine skip_to 7 28 rfl (by kernel_rfl) (by kernel_rfl) (by kernel_rfl) (fun _ _ _ h => h) rfl (by rfl) hH ?_
          simp only [Act.put, List.setIfInBounds_toArray, List.set_cons_zero, List.set_cons_succ]
          refine skip_to 8 29 rfl (by kernel_rfl) (by kernel_rfl) (by kernel_rfl) (fun _ _ _ h => h) rfl (by rfl) hH ?_
          simp only [Act.put, List.setIfInBounds_toArray, List.set_cons_zero, List.set_cons_succ]
          refine skip_to 9 30 rfl (by kernel_rfl) (by kernel_rfl) (by kernel_rfl) (fun _ _ _ h => h) rfl (by rfl) hH ?_
          simp only [Act.put, List.setIfInBounds_toArray, List.set_cons_zero, List.set_cons_succ]
          refine skip_to 10 31 rfl (by kernel_rfl) (by kernel_rfl) (by kernel_rfl) (fun _ _ _ h => h) rfl (by rfl) hH ?_
          simp only [Act.put, List.setIfInBounds_toArray, List.set_cons_zero, List.set_cons_succ]
          refine skip_to 11 32 rfl (by kernel_rfl) (by kernel_rfl) (by kernel_rfl) (fun _ _ _ h => h) rfl (by rfl) hH ?_
          simp only [Act.put, List.setIfInBounds_toArray, List.set_cons_zero, List.set_cons_succ]
          refine skip_to 12 33 rfl (by kernel_rfl) (by kernel_rfl) (by kernel_rfl) (fun _ _ _ h => h) rfl (by rfl) hH ?_
          simp only [Act.put, List.setIfInBounds_toArray, List.set_cons_zero, List.set_cons_succ]
          refine skip_to 13 34 rfl (by kernel_rfl) (by kernel_rfl) (by kernel_rfl) (fun _ _ _ h => h) rfl (by rfl) hH ?_
          simp only [Act.put, List.setIfInBounds_toArray, List.set_cons_zero, List.set_cons_succ]
          refine skip_to 14 35 rfl (by kernel_rfl) (by kernel_rfl) (by kernel_rfl) (fun _ _ _ h => h) rfl (by rfl) hH ?_
          simp only [Act.put, List.setIfInBounds_toArray, List.set_cons_zero, List.set_cons_succ]
          refine skip_to 15 36 rfl (by kernel_rfl) (by kernel_rfl) (by kernel_rfl) (fun _ _ _ h => h) rfl (by rfl) hH ?_
          simp only [Act.put, List.setIfInBounds_toArray, List.set_cons_zero, List.set_cons_succ]
          refine skip_to 16 37 rfl (by kernel_rfl) (by kernel_rfl) (by kernel_rfl) (fun _ _ _ h => h) rfl (by rfl) hH ?_
          simp only [Act.put, List.setIfInBounds_toArray, List.set_cons_zero, List.set_cons_succ]
          refine skip_to 17 38 rfl (by kernel_rfl) (by kernel_rfl) (by kernel_rfl) (fun _ _ _ h => h) rfl (by rfl) hH ?_
          simp only [Act.put, List.setIfInBounds_toArray, List.set_cons_zero, List.set_cons_succ]
          refine skip_to 18 39 rfl (by kernel_rfl) (by kernel_rfl) (by kernel_rfl) (fun _ _ _ h => h) rfl (by rfl) hH ?_
          simp only [Act.put, List.setIfInBounds_toArray, List.set_cons_zero, List.set_cons_succ]
          refine take_to 19 40 (.bool false) rfl (by kernel_rfl) (by kernel_rfl) (by kernel_rfl) (fun _ _ _ h => h) rfl (by rfl) (fun w hw => by rfl) hH ?_
          simp only [Act.put, List.setIfInBounds_toArray, List.set_cons_zero, List.set_cons_succ]
          refine step_to 20 20 (.bool false) _ rfl (by kernel_rfl) rfl (by rfl) (rfl) hH ?_
          simp only [Act.put, List.setIfInBounds_toArray, List.set_cons_zero, List.set_cons_succ]
          refine wpAnyH_done (by kernel_rfl) ?_ _
          clear hH
          have HS2 : Hid (RckS q gv ov gb ob k T p C V wr.drew) := HS.out.belowW (below_drewN _ _ 1)
          have HB2 : Hid (Below q w wr.drew) := HB.out.trans (below_drewN q wr 1)
          generalize wr.drew = W2 at *
          have c0 := HS2.out.vl.c0
          have d2 := HS2.out.cl.c2
          have t1 := HS2.out.tb.c1
          rw [HCA.out] at t1
          rw [h0] at c0
          have hgl := World.block_lt_of_cell? W2 _ c0
          have hgl2 := World.block_lt_of_cell? W2 _ d2
          cases hnn : C.nn
          · have HXV : Hid (x = 0) := by rw [Hid, HF.out]; simp [fitE, h0, hnn]
            rw [hnn] at d2
            have HW2 := hide (World.block_lt_of_cell? W2 _ d2)
            clear h0 n0 hnn
            go_wp2
            go_roundw
            case rel => exact ⟨k + 1, by omega, by go_num, HZ2.out HXV.out, HB2.out, HS2.out.tb⟩
            case measure => simp [intOf]; omega
          · have HXV : Hid (x = 163) := by rw [Hid, HF.out]; simp [fitE, h0, hnn]
            rw [hnn] at d2
            clear h0 n0 hnn
            go_wp2
            go_ret
            exact ⟨x, by rw [HXV.out]; rfl, HCK.out (by rw [HXV.out]; decide), by rw [HQ.out]; exact HB2.out⟩
        · have n0 : (V.ty != 0) = true := by simpa using h0
          have n0' : (V.ty == 0) = false := by simpa using h0
          by_cases h1 : V.ty = C.ty
          · have n1 : (V.ty != C.ty) = false := by simpa using h1
            refine wp_region_held_drew (S := RckS q gv ov gb ob k T p C V) (by kernel_rfl) (HS.out.belowW (below_drewN _ _ 1)) (fun hH => ?_)
            refine take_to 0 21 (.slice (some ⟨gv, ov, none⟩) T.cols.length c) rfl (by kernel_rfl) (by kernel_rfl) (by kernel_rfl) (fun _ _ _ h => h) rfl (by rfl) (fun w hw => by rfl) hH ?_
            simp only [Act.put, List.setIfInBounds_toArray, List.set_cons_zero, List.set_cons_succ]
            refine take_to 1 22 (.int .i64 (k : Int)) rfl (by kernel_rfl) (by kernel_rfl) (by kernel_rfl) (fun _ _ _ h => h) rfl (by rfl) (fun w hw => by rfl) hH ?_
            simp only [Act.put, List.setIfInBounds_toArray, List.set_cons_zero, List.set_cons_succ]
            refine take_to 2 23 (.pointer (some ⟨gv, ov + k * 4, none⟩)) rfl (by kernel_rfl) (by kernel_rfl) (by kernel_rfl) (fun _ _ _ h => h) rfl (by rfl) (fun w hw => op_index _ _ 35 (.tmp 21) (.tmp 22) rfl (.slice (some ⟨gv, ov, none⟩) T.cols.length c) (.int .i64 (k : Int)) _ rfl rfl (run_index35 w gv ov _ _ k hlt)) hH ?_
            simp only [Act.put, List.setIfInBounds_toArray, List.set_cons_zero, List.set_cons_succ]
            refine take_to 3 24 (.pointer (some ⟨gv, ov + k * 4 + 0, none⟩)) rfl (by kernel_rfl) (by kernel_rfl) (by kernel_rfl) (fun _ _ _ h => h) rfl (by rfl) (fun w hw => by rfl) hH ?_
            simp only [Act.put, List.setIfInBounds_toArray, List.set_cons_zero, List.set_cons_succ]
            refine take_to 4 25 (.int .i64 V.ty) rfl (by kernel_rfl) (by kernel_rfl) (by kernel_rfl) (fun _ _ _ h => h) rfl (by rfl) (fun w hw => op_load _ _ 3 (.tmp 24) rfl (.pointer (some ⟨gv, ov + k * 4, none⟩)) _ rfl (run_loadAny w (gv) (ov + k * 4) 3 _ Tryd.isAgg3 hw.vl.c0)) hH ?_
            simp only [Act.put, List.setIfInBounds_toArray, List.set_cons_zero, List.set_cons_succ]
            refine take_to 5 26 (.bool true) rfl (by kernel_rfl) (by kernel_rfl) (by kernel_rfl) (fun _ _ _ h => h) rfl (by rfl) (fun w hw => op_neq3 _ _ (.tmp 25) (.const (.int .i64 0)) _ rfl V.ty 0 rfl rfl true n0) hH ?_
            simp only [Act.put, List.setIfInBounds_toArray, List.set_cons_zero, List.set_cons_succ]
            refine take_to 6 27 (.bool true) rfl (by kernel_rfl) (by kernel_rfl) (by kernel_rfl) (fun _ _ _ h => h) rfl (by rfl) (fun w hw => by rfl) hH ?_
            simp only [Act.put, List.setIfInBounds_toArray, List.set_cons_zero, List.set_cons_succ]
            refine take_to 7 28 (.slice (some ⟨gv, ov, none⟩) T.cols.length c) rfl (by kernel_rfl) (by kernel_rfl) (by kernel_rfl) (fun _ _ _ h => h) rfl (by rfl) (fun w hw => by rfl) hH ?_
            simp only [Act.put, List.setIfInBounds_toArray, List.set_cons_zero, List.set_cons_succ]
            refine take_to 8 29 (.int .i64 (k : Int)) rfl (by kernel_rfl) (by kernel_rfl) (by kernel_rfl) (fun _ _ _ h => h) rfl (by rfl) (fun w hw => by rfl) hH ?_
            simp only [Act.put, List.setIfInBounds_toArray, List.set_cons_zero, List.set_cons_succ]
            refine take_to 9 30 (.pointer (some ⟨gv, ov + k * 4, none⟩)) rfl (by kernel_rfl) (by kernel_rfl) (by kernel_rfl) (fun _ _ _ h => h) rfl (by rfl) (fun w hw => op_index _ _ 35 (.tmp 28) (.tmp 29) rfl (.slice (some ⟨gv, ov, none⟩) T.cols.length c) (.int .i64 (k : Int)) _ rfl rfl (run_index35 w gv ov _ _ k hlt)) hH ?_
            simp only [Act.put, List.setIfInBounds_toArray, List.set_cons_zero, List.set_cons_succ]
            refine take_to 10 31 (.pointer (some ⟨gv, ov + k * 4 + 0, none⟩)) rfl (by kernel_rfl) (by kernel_rfl) (by kernel_rfl) (fun _ _ _ h => h) rfl (by rfl) (fun w hw => by rfl) hH ?_
            simp only [Act.put, List.setIfInBounds_toArray, List.set_cons_zero, List.set_cons_succ]
            refine take_to 11 32 (.int .i64 V.ty) rfl (by kernel_rfl) (by kernel_rfl) (by kernel_rfl) (fun _ _ _ h => h) rfl (by rfl) (fun w hw => op_load _ _ 3 (.tmp 31) rfl (.pointer (some ⟨gv, ov + k * 4, none⟩)) _ rfl (run_loadAny w (gv) (ov + k * 4) 3 _ Tryd.isAgg3 hw.vl.c0)) hH ?_
            simp only [Act.put, List.setIfInBounds_toArray, List.set_cons_zero, List.set_cons_succ]
            refine take_to 12 33 (.pointer (some ⟨q, 1, none⟩)) rfl (by kernel_rfl) (by kernel_rfl) (by kernel_rfl) (fun _ _ _ h => h) rfl (by rfl) (fun w hw => by rfl) hH ?_
            simp only [Act.put, List.setIfInBounds_toArray, List.set_cons_zero, List.set_cons_succ]
            refine take_to 13 34 (.slice p.ca T.cols.length p.cc) rfl (by kernel_rfl) (by kernel_rfl) (by kernel_rfl) (fun _ _ _ h => h) rfl (by rfl) (fun w hw => op_load _ _ 25 (.tmp 33) rfl (.pointer (some ⟨q, 1, none⟩)) _ rfl (run_loadAny w (q) (1) 25 _ Tryd.isAgg25 hw.tb.c1)) hH ?_
            simp only [Act.put, List.setIfInBounds_toArray, List.set_cons_zero, List.set_cons_succ]
            refine take_to 14 35 (.int .i64 (k : Int)) rfl (by kernel_rfl) (by kernel_rfl) (by kernel_rfl) (fun _ _ _ h => h) rfl (by rfl) (fun w hw => by rfl) hH ?_
            simp only [Act.put, List.setIfInBounds_toArray, List.set_cons_zero, List.set_cons_succ]
            refine take_to 15 36 (.pointer (some ⟨gb, ob + k * 4, none⟩)) rfl (by kernel_rfl) (by kernel_rfl) (by kernel_rfl) (fun _ _ _ h => h) rfl (by rfl) (fun w hw => op_index _ _ 25 (.tmp 34) (.tmp 35) rfl (.slice p.ca T.cols.length p.cc) (.int .i64 (k : Int)) _ rfl rfl (by rw [HCA.out]; exact run_index25 w gb ob _ _ k hlt)) hH ?_
            simp only [Act.put, List.setIfInBounds_toArray, List.set_cons_zero, List.set_cons_succ]
            refine take_to 16 37 (.pointer (some ⟨gb, ob + k * 4 + 1, none⟩)) rfl (by kernel_rfl) (by kernel_rfl) (by kernel_rfl) (fun _ _ _ h => h) rfl (by rfl) (fun w hw => by rfl) hH ?_
            simp only [Act.put, List.setIfInBounds_toArray, List.set_cons_zero, List.set_cons_succ]
            refine take_to 17 38 (.int .i64 C.ty) rfl (by kernel_rfl) (by kernel_rfl) (by kernel_rfl) (fun _ _ _ h => h) rfl (by rfl) (fun w hw => op_load _ _ 3 (.tmp 37) rfl (.pointer (some ⟨gb, ob + k * 4 + 1, none⟩)) _ rfl (run_loadAny w (gb) (ob + k * 4 + 1) 3 _ Tryd.isAgg3 hw.cl.c1)) hH ?_
            simp only [Act.put, List.setIfInBounds_toArray, List.set_cons_zero, List.set_cons_succ]
            refine take_to 18 39 (.bool false) rfl (by kernel_rfl) (by kernel_rfl) (by kernel_rfl) (fun _ _ _ h => h) rfl (by rfl) (fun w hw => op_neq3 _ _ (.tmp 32) (.tmp 38) _ rfl V.ty C.ty rfl rfl false n1) hH ?_
            simp only [Act.put, List.setIfInBounds_toArray, List.set_cons_zero, List.set_cons_succ]
            refine take_to 19 40 (.bool false) rfl (by kernel_rfl) (by kernel_rfl) (by kernel_rfl) (fun _ _ _ h => h) rfl (by rfl) (fun w hw => by rfl) hH ?_
            simp only [Act.put, List.setIfInBounds_toArray, List.set_cons_zero, List.set_cons_succ]
            refine step_to 20 20 (.bool false) _ rfl (by kernel_rfl) rfl (by rfl) (rfl) hH ?_
            simp only [Act.put, List.setIfInBounds_toArray, List.set_cons_zero, List.set_cons_succ]
            refine wpAnyH_done (by kernel_rfl) ?_ _
            clear hH
            have HS2 : Hid (RckS q gv ov gb ob k T p C V wr.drew) := HS.out.belowW (below_drewN _ _ 1)
            have HB2 : Hid (Below q w wr.drew) := HB.out.trans (below_drewN q wr 1)
            generalize wr.drew = W2 at *
            have c0 := HS2.out.vl.c0
            have c2 := HS2.out.vl.c2
            have hgl := World.block_lt_of_cell? W2 _ c0
            by_cases h2 : V.ty = 2
            · rw [h2] at c0 n0'
              by_cases hl : 40 < V.t.length
              · have n3 : (40 : Int) < ((strOf V.t).size : Int) := by rw [HSZ.out]; omega
                have HCI := hide (HIk.out W2 HB2.out)
                have hW2q : q ≤ W2.heap.size := Nat.le_of_lt (lt_of_heap HS2.out.tb)
                have a0 : W2.cell? ⟨q, 0, none⟩ = some (.string (strOf T.nm)) := by rw [cell_row HS2.out.tb]; rfl
                have a1 := HS2.out.tb.c1
                have a2 := HS2.out.tb.c2
                have a3 : W2.cell? ⟨q, 3, none⟩ = some (.int .i64 T.head) := by rw [cell_row HS2.out.tb]; rfl
                have a4 := HS2.out.tb.c4
                cases ix
                · have HXV : Hid (x = 0) := by rw [Hid, HF.out]; simp [fitE, h0, h1.symm, h2]
                  clear h0 n0 h1 n1 h2 hl
                  go_wp2_with (go_at_call 45; refine HCI.out.mono ?_; rintro e W3 ⟨rfl, hb3⟩; have HB3 := hide hb3; clear hb3)
                  go_roundw
                  case rel => exact ⟨k + 1, by omega, by go_num, HZ2.out HXV.out, HB2.out.trans (HB3.out.mono hW2q), HS2.out.tb.belowW HB3.out⟩
                  case measure => simp [intOf]; omega
                · have HXV : Hid (x = 170) := by rw [Hid, HF.out]; simp [fitE, h0, h1.symm, h2, hl]
                  clear h0 n0 h1 n1 h2 hl
                  go_wp2_with (go_at_call 45; refine HCI.out.mono ?_; rintro e W3 ⟨rfl, hb3⟩; have HB3 := hide hb3; clear hb3)
                  go_ret
                  exact ⟨x, by rw [HXV.out]; rfl, HCK.out (by rw [HXV.out]; decide), by rw [HQ.out]; exact HB2.out.trans (HB3.out.mono hW2q)⟩
              · have n3 : ¬ (40 : Int) < ((strOf V.t).size : Int) := by rw [HSZ.out]; omega
                have HXV : Hid (x = 0) := by rw [Hid, HF.out]; simp [fitE, h0, h1.symm, h2, hl]
                clear h0 n0 h1 n1 h2 hl
                go_wp2
                go_roundw
                case rel => exact ⟨k + 1, by omega, by go_num, HZ2.out HXV.out, HB2.out, HS2.out.tb⟩
                case measure => simp [intOf]; omega
            · have n2 : (V.ty == 2) = false := by simpa using h2
              have HXV : Hid (x = 0) := by rw [Hid, HF.out]; simp [fitE, h0, h1.symm, h2]
              clear h0 n0 h1 n1 h2
              generalize V.ty = y at *
              go_wp2
              go_roundw
              case rel => exact ⟨k + 1, by omega, by go_num, HZ2.out HXV.out, HB2.out, HS2.out.tb⟩
              case measure => simp [intOf]; omega
          · have n1 : (V.ty != C.ty) = true := by simpa using h1
            refine wp_region_held_drew (S := RckS q gv ov gb ob k T p C V) (by kernel_rfl) (HS.out.belowW (below_drewN _ _ 1)) (fun hH => ?_)
            refine take_to 0 21 (.slice (some ⟨gv, ov, none⟩) T.cols.length c) rfl (by kernel_rfl) (by kernel_rfl) (by kernel_rfl) (fun _ _ _ h => h) rfl (by rfl) (fun w hw => by rfl) hH ?_
            simp only [Act.put, List.setIfInBounds_toArray, List.set_cons_zero, List.set_cons_succ]
            refine take_to 1 22 (.int .i64 (k : Int)) rfl (by kernel_rfl) (by kernel_rfl) (by kernel_rfl) (fun _ _ _ h => h) rfl (by rfl) (fun w hw => by rfl) hH ?_
            simp only [Act.put, List.setIfInBounds_toArray, List.set_cons_zero, List.set_cons_succ]
            refine take_to 2 23 (.pointer (some ⟨gv, ov + k * 4, none⟩)) rfl (by kernel_rfl) (by kernel_rfl) (by kernel_rfl) (fun _ _ _ h => h) rfl (by rfl) (fun w hw => op_index _ _ 35 (.tmp 21) (.tmp 22) rfl (.slice (some ⟨gv, ov, none⟩) T.cols.length c) (.int .i64 (k : Int)) _ rfl rfl (run_index35 w gv ov _ _ k hlt)) hH ?_
            simp only [Act.put, List.setIfInBounds_toArray, List.set_cons_zero, List.set_cons_succ]
            refine take_to 3 24 (.pointer (some ⟨gv, ov + k * 4 + 0, none⟩)) rfl (by kernel_rfl) (by kernel_rfl) (by kernel_rfl) (fun _ _ _ h => h) rfl (by rfl) (fun w hw => by rfl) hH ?_
            simp only [Act.put, List.setIfInBounds_toArray, List.set_cons_zero, List.set_cons_succ]
            refine take_to 4 25 (.int .i64 V.ty) rfl (by kernel_rfl) (by kernel_rfl) (by kernel_rfl) (fun _ _ _ h => h) rfl (by rfl) (fun w hw => op_load _ _ 3 (.tmp 24) rfl (.pointer (some ⟨gv, ov + k * 4, none⟩)) _ rfl (run_loadAny w (gv) (ov + k * 4) 3 _ Tryd.isAgg3 hw.vl.c0)) hH ?_
            simp only [Act.put, List.setIfInBounds_toArray, List.set_cons_zero, List.set_cons_succ]
            refine take_to 5 26 (.bool true) rfl (by kernel_rfl) (by kernel_rfl) (by kernel_rfl) (fun _ _ _ h => h) rfl (by rfl) (fun w hw => op_neq3 _ _ (.tmp 25) (.const (.int .i64 0)) _ rfl V.ty 0 rfl rfl true n0) hH ?_
            simp only [Act.put, List.setIfInBounds_toArray, List.set_cons_zero, List.set_cons_succ]
            refine take_to 6 27 (.bool true) rfl (by kernel_rfl) (by kernel_rfl) (by kernel_rfl) (fun _ _ _ h => h) rfl (by rfl) (fun w hw => by rfl) hH ?_
            simp only [Act.put, List.setIfInBounds_toArray, List.set_cons_zero, List.set_cons_succ]
            refine take_to 7 28 (.slice (some ⟨gv, ov, none⟩) T.cols.length c) rfl (by kernel_rfl) (by kernel_rfl) (by kernel_rfl) (fun _ _ _ h => h) rfl (by rfl) (fun w hw => by rfl) hH ?_
            simp only [Act.put, List.setIfInBounds_toArray, List.set_cons_zero, List.set_cons_succ]
            refine take_to 8 29 (.int .i64 (k : Int)) rfl (by kernel_rfl) (by kernel_rfl) (by kernel_rfl) (fun _ _ _ h => h) rfl (by rfl) (fun w hw => by rfl) hH ?_
            simp only [Act.put, List.setIfInBounds_toArray, List.set_cons_zero, List.set_cons_succ]
            refine take_to 9 30 (.pointer (some ⟨gv, ov + k * 4, none⟩)) rfl (by kernel_rfl) (by kernel_rfl) (by kernel_rfl) (fun _ _ _ h => h) rfl (by rfl) (fun w hw => op_index _ _ 35 (.tmp 28) (.tmp 29) rfl (.slice (some ⟨gv, ov, none⟩) T.cols.length c) (.int .i64 (k : Int)) _ rfl rfl (run_index35 w gv ov _ _ k hlt)) hH ?_
            simp only [Act.put, List.setIfInBounds_toArray, List.set_cons_zero, List.set_cons_succ]
            refine take_to 10 31 (.pointer (some ⟨gv, ov + k * 4 + 0, none⟩)) rfl (by kernel_rfl) (by kernel_rfl) (by kernel_rfl) (fun _ _ _ h => h) rfl (by rfl) (fun w hw => by rfl) hH ?_
            simp only [Act.put, List.setIfInBounds_toArray, List.set_cons_zero, List.set_cons_succ]
            refine take_to 11 32 (.int .i64 V.ty) rfl (by kernel_rfl) (by kernel_rfl) (by kernel_rfl) (fun _ _ _ h => h) rfl (by rfl) (fun w hw => op_load _ _ 3 (.tmp 31) rfl (.pointer (some ⟨gv, ov + k * 4, none⟩)) _ rfl (run_loadAny w (gv) (ov + k * 4) 3 _ Tryd.isAgg3 hw.vl.c0)) hH ?_
            simp only [Act.put, List.setIfInBounds_toArray, List.set_cons_zero, List.set_cons_succ]
            refine take_to 12 33 (.pointer (some ⟨q, 1, none⟩)) rfl (by kernel_rfl) (by kernel_rfl) (by kernel_rfl) (fun _ _ _ h => h) rfl (by rfl) (fun w hw => by rfl) hH ?_
            simp only [Act.put, List.setIfInBounds_toArray, List.set_cons_zero, List.set_cons_succ]
            refine take_to 13 34 (.slice p.ca T.cols.length p.cc) rfl (by kernel_rfl) (by kernel_rfl) (by kernel_rfl) (fun _ _ _ h => h) rfl (by rfl) (fun w hw => op_load _ _ 25 (.tmp 33) rfl (.pointer (some ⟨q, 1, none⟩)) _ rfl (run_loadAny w (q) (1) 25 _ Tryd.isAgg25 hw.tb.c1)) hH ?_
            simp only [Act.put, List.setIfInBounds_toArray, List.set_cons_zero, List.set_cons_succ]
            refine take_to 14 35 (.int .i64 (k : Int)) rfl (by kernel_rfl) (by kernel_rfl) (by kernel_rfl) (fun _ _ _ h => h) rfl (by rfl) (fun w hw => by rfl) hH ?_
            simp only [Act.put, List.setIfInBounds_toArray, List.set_cons_zero, List.set_cons_succ]
            refine take_to 15 36 (.pointer (some ⟨gb, ob + k * 4, none⟩)) rfl (by kernel_rfl) (by kernel_rfl) (by kernel_rfl) (fun _ _ _ h => h) rfl (by rfl) (fun w hw => op_index _ _ 25 (.tmp 34) (.tmp 35) rfl (.slice p.ca T.cols.length p.cc) (.int .i64 (k : Int)) _ rfl rfl (by rw [HCA.out]; exact run_index25 w gb ob _ _ k hlt)) hH ?_
            simp only [Act.put, List.setIfInBounds_toArray, List.set_cons_zero, List.set_cons_succ]
            refine take_to 16 37 (.pointer (some ⟨gb, ob + k * 4 + 1, none⟩)) rfl (by kernel_rfl) (by kernel_rfl) (by kernel_rfl) (fun _ _ _ h => h) rfl (by rfl) (fun w hw => by rfl) hH ?_
            simp only [Act.put, List.setIfInBounds_toArray, List.set_cons_zero, List.set_cons_succ]
            refine take_to 17 38 (.int .i64 C.ty) rfl (by kernel_rfl) (by kernel_rfl) (by kernel_rfl) (fun _ _ _ h => h) rfl (by rfl) (fun w hw => op_load _ _ 3 (.tmp 37) rfl (.pointer (some ⟨gb, ob + k * 4 + 1, none⟩)) _ rfl (run_loadAny w (gb) (ob + k * 4 + 1) 3 _ Tryd.isAgg3 hw.cl.c1)) hH ?_
            simp only [Act.put, List.setIfInBounds_toArray, List.set_cons_zero, List.set_cons_succ]
            refine take_to 18 39 (.bool true) rfl (by kernel_rfl) (by kernel_rfl) (by kernel_rfl) (fun _ _ _ h => h) rfl (by rfl) (fun w hw => op_neq3 _ _ (.tmp 32) (.tmp 38) _ rfl V.ty C.ty rfl rfl true n1) hH ?_
            simp only [Act.put, List.setIfInBounds_toArray, List.set_cons_zero, List.set_cons_succ]
            refine take_to 19 40 (.bool true) rfl (by kernel_rfl) (by kernel_rfl) (by kernel_rfl) (fun _ _ _ h => h) rfl (by rfl) (fun w hw => by rfl) hH ?_
            simp only [Act.put, List.setIfInBounds_toArray, List.set_cons_zero, List.set_cons_succ]
            refine step_to 20 20 (.bool true) _ rfl (by kernel_rfl) rfl (by rfl) (rfl) hH ?_
            simp only [Act.put, List.setIfInBounds_toArray, List.set_cons_zero, List.set_cons_succ]
            refine wpAnyH_done (by kernel_rfl) ?_ _
            clear hH
            have HXV : Hid (x = 160) := by rw [Hid, HF.out]; simp [fitE, h0, h1]
            clear h0 h1 n0 n0' n1
            go_wp2
            go_ret
            exact ⟨x, by rw [HXV.out]; rfl, HCK.out (by rw [HXV.out]; decide), by rw [HQ.out]; exact HB.out.trans (below_drewN q wr 1)⟩
      · have hkL : k = T.cols.length := by omega
        subst hkL
        have HCK := hide (HCK2.out HZ.out)
        have HC := hide (HCD.out wr HB.out)
        clear HV HCT HCD HX HZ
        go_wp2_with (go_at_call 14; refine HC.out.mono ?_; rintro e W9 hE; obtain ⟨u, rfl⟩ := hE.err; have HE := hide hE.below; clear hE)
        go_ret
        exact ⟨codE l, rfl, HCK.out, by rw [HQ.out]; exact HB.out.trans (HE.out.mono hqs)⟩
  · have HCK : Hid (CheckIs T l 160) := .inl ⟨hn, rfl⟩
    have hnn : ((l.length : Int) != (T.cols.length : Int)) = true := by simp; omega
    clear h hv hw hl hf hb0 hx0
    go_enter Tryd.func25, Tryd.ntmps25
    go_upto_region 1 with fail
    try rw [hW0]
    clear hW0
    generalize hq : w.heap.size = q at *
    have HQ := hide hq
    clear hq
    go_wp2
    go_ret
    exact ⟨160, rfl, HCK.out, by rw [HQ.out]; exact HB0.out⟩
end Go.Proofs.YtplpchaceiogaaaDoor
