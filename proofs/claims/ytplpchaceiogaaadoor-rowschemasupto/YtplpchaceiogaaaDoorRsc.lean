/- The document's Schema. -/
import Derived.Test.YtplpchaceiogaaaDoorScp
namespace Go.Proofs.YtplpchaceiogaaaDoor
open Go.RowKit
set_option linter.unusedVariables false
set_option linter.unusedSimpArgs false
set_option maxRecDepth 100000

set_option maxHeartbeats 16000000 in
theorem rschema29 {w : World} {T : Tb} {p : Pl} (h : TbAt w T p) (hf : T.Few) (hw : T.wf) (hl : tbulk T ≤ 400000000) :
    Calls Tryd.prog 29 #[.agg #[.string (strOf T.nm), .slice p.ca T.cols.length p.cc, .slice p.ia T.idx.length p.ic, .int .i64 T.head, .slice p.ra T.roots.length p.rc]] w fun e w' => ∃ u, e = .returned u ∧ Bts w w' u (joinL (schL T)) := by
  obtain ⟨ca, cc, ia, ic, ra, rc⟩ := p
  have hN := hf.cols
  have hM := hf.idx
  have hR := hf.roots
  have HJ : Hid (∀ W u, Below w.heap.size w W → VsAt W u (schR T T.roots.length) → Calls Tryd.prog 34 #[u] W fun e w' => ∃ u', e = .returned u' ∧ Bts W w' u' (joinL (schL T))) := fun W u hW hv => by
    rw [schR_all] at hv
    exact rjoin_any hv (schL_wf hw hf) (by rw [bulk_sch]; exact hl)
  have HCN : Hid (∀ k, k < T.cols.length → schC T k ++ [tV (T.cols.getD k Cl.zero).nm, nV (T.cols.getD k Cl.zero).ty, bV (T.cols.getD k Cl.zero).nn, bV (T.cols.getD k Cl.zero).un] = schC T (k + 1)) := fun k hk => (schC_next hk).symm
  have HIN : Hid (∀ k, k < T.idx.length → schI T k ++ [tV (T.idx.getD k Ix.zero).nm, nV (T.idx.getD k Ix.zero).col, bV (T.idx.getD k Ix.zero).un] = schI T (k + 1)) := fun k hk => (schI_next hk).symm
  have HRN : Hid (∀ k, k < T.roots.length → schR T k ++ [nV (T.roots.getD k 0)] = schR T (k + 1)) := fun k hk => (schR_next hk).symm
  have HC0 : Hid (([tV T.nm, nV (T.cols.length : Int)] : List Vl) = schC T 0) := by simp [Hid, schC]
  have HI0 : Hid (schC T T.cols.length ++ [nV (T.idx.length : Int)] = schI T 0) := by simp [Hid, schI]
  have HR0 : Hid (schI T T.idx.length ++ [nV T.head, nV (T.roots.length : Int)] = schR T 0) := by simp [Hid, schR]
  have HCL : Hid (∀ k, (schC T k).length + 4 ≤ 1000000000) := fun k => Nat.le_trans (schC_len hf k) (by omega)
  have HIL : Hid (∀ k, (schI T k).length + 4 ≤ 1000000000) := fun k => Nat.le_trans (schI_len hf k) (by omega)
  have HRL : Hid (∀ k, (schR T k).length + 4 ≤ 1000000000) := fun k => Nat.le_trans (schR_len hf k) (by omega)
  have HCG : Hid (∀ W, Below w.heap.size w W → ∀ i, i < T.cols.length → ∃ g o, ca = some ⟨g, o, none⟩ ∧ ClAt W g (o + i * 4) (T.cols.getD i Cl.zero)) := fun W hW i hi => (show ClsAt W _ _ from Row.belowW h.cols hW).get i hi
  have HIG : Hid (∀ W, Below w.heap.size w W → ∀ i, i < T.idx.length → ∃ g o, ia = some ⟨g, o, none⟩ ∧ IxAt W g (o + i * 3) (T.idx.getD i Ix.zero)) := fun W hW i hi => (show IxsAt W _ _ from Row.belowW h.idx hW).get i hi
  have HRG : Hid (∀ W, Below w.heap.size w W → ∀ i, i < T.roots.length → ∃ g o, ra = some ⟨g, o, none⟩ ∧ W.cell? ⟨g, o + i, none⟩ = some (.int .i64 (T.roots.getD i 0))) := fun W hW i hi => (show IntsAt W _ _ from Row.belowW h.roots hW).get i hi
  have H52 : Hid (∀ n W, Calls Tryd.prog 55 #[.int .i64 n] W fun e w' => e = .returned (.agg #[.int .i64 1, .int .i64 n, .string { data := #[] }, .bool false]) ∧ Below W.heap.size W w') := num55
  clear h hf hw hl
  obtain ⟨W0, hW0⟩ : ∃ W0, w.alloc (.cells #[.string (strOf T.nm), .slice ca T.cols.length cc, .slice ia T.idx.length ic, .int .i64 T.head, .slice ra T.roots.length rc] 29) = W0 := ⟨_, rfl⟩
  have hb0 : Below w.heap.size w W0 := by rw [← hW0]; exact (Below.refl _ _).alloc (Nat.le_refl _) _
  have hx0 : TBox W0 w.heap.size T ⟨ca, cc, ia, ic, ra, rc⟩ := by rw [← hW0]; exact heap_alloc_new _ _
  have HX0 := hide hx0
  have HB0 := hide hb0
  clear hx0 hb0
  go_enter Tryd.func29, Tryd.ntmps29
  go_upto_region 1 with fail
  try rw [hW0]
  clear hW0
  generalize hq : w.heap.size = q at *
  have HQ := hide hq
  clear hq
  refine wp_region_held_drew (S := fun W => TBox W q T ⟨ca, cc, ia, ic, ra, rc⟩) (by kernel_rfl) (HX0.out.belowW (below_drewN _ _ 1)) (fun hH => ?_)
  refine take_to 0 9 (.pointer (some ⟨q, 0, none⟩)) rfl (by kernel_rfl) (by kernel_rfl) (by kernel_rfl) (fun _ _ _ h => h) rfl (by rfl) (fun w hw => by rfl) hH ?_
  simp only [Act.put, List.setIfInBounds_toArray, List.set_cons_zero, List.set_cons_succ]
  refine take_to 1 10 (.string (strOf T.nm)) rfl (by kernel_rfl) (by kernel_rfl) (by kernel_rfl) (fun _ _ _ h => h) rfl (by rfl) (fun w hw => op_load _ _ 9 (.tmp 9) rfl (.pointer (some ⟨q, 0, none⟩)) _ rfl (run_loadAny w (q) (0) 9 _ Tryd.isAgg9 hw.c0)) hH ?_
  simp only [Act.put, List.setIfInBounds_toArray, List.set_cons_zero, List.set_cons_succ]
  refine take_to 3 12 (.pointer (some ⟨q, 1, none⟩)) rfl (by kernel_rfl) (by kernel_rfl) (by kernel_rfl) (fun _ _ _ h => h) rfl (by rfl) (fun w hw => by rfl) hH ?_
  simp only [Act.put, List.setIfInBounds_toArray, List.set_cons_zero, List.set_cons_succ]
  refine take_to 4 13 (.slice ca T.cols.length cc) rfl (by kernel_rfl) (by kernel_rfl) (by kernel_rfl) (fun _ _ _ h => h) rfl (by rfl) (fun w hw => op_load _ _ 25 (.tmp 12) rfl (.pointer (some ⟨q, 1, none⟩)) _ rfl (run_loadAny w (q) (1) 25 _ Tryd.isAgg25 hw.d1)) hH ?_
  simp only [Act.put, List.setIfInBounds_toArray, List.set_cons_zero, List.set_cons_succ]
  refine take_to 5 14 (.int .i64 (T.cols.length : Int)) rfl (by kernel_rfl) (by kernel_rfl) (by kernel_rfl) (fun _ _ _ h => h) rfl (by rfl) (fun w hw => op_len25 _ _ (.tmp 13) rfl ca _ cc rfl) hH ?_
  simp only [Act.put, List.setIfInBounds_toArray, List.set_cons_zero, List.set_cons_succ]
  refine step_call1_to 2 11 54 rfl (by kernel_rfl) rfl (by rfl) (.tmp 10) _ rfl _ rfl Tryd.enters54 (text54 T.nm _) ?_
  rintro e u1 ⟨rfl, hb1⟩
  have hH1 := hH.belowW hb1
  refine ⟨_, rfl, hH1, ?_⟩
  simp only [Act.put, List.setIfInBounds_toArray, List.set_cons_zero, List.set_cons_succ]
  refine step_call1_to 6 15 55 rfl (by kernel_rfl) rfl (by rfl) (.tmp 14) _ rfl _ rfl Tryd.enters55 (num55 (T.cols.length : Int) _) ?_
  rintro e u2 ⟨rfl, hb2⟩
  have hH2 := hH1.belowW hb2
  refine ⟨_, rfl, hH2, ?_⟩
  simp only [Act.put, List.setIfInBounds_toArray, List.set_cons_zero, List.set_cons_succ]
  have hV1 : Vals w (u2.alloc (.cells (vsCells [tV T.nm, nV (T.cols.length : Int)]).toArray 32)) (.slice (some ⟨u2.heap.size, 0, none⟩) 2 2) (schC T 0) := by rw [← HC0.out]; exact vals_new (L := [tV T.nm, nV (T.cols.length : Int)]) (by rw [HQ.out]; exact HB0.out.trans ((thenW (thenW (below_drewN W0.heap.size W0 1) hb1) hb2).mono (Nat.le_of_lt (lt_of_heap HX0.out)))) (by simp)
  have hX1 : TBox (u2.alloc (.cells (vsCells [tV T.nm, nV (T.cols.length : Int)]).toArray 32)) q T ⟨ca, cc, ia, ic, ra, rc⟩ := hH2.belowW ((Below.refl _ _).alloc (Nat.le_refl _) _)
  refine step_to 7 16 (.slice (some ⟨u2.heap.size, 0, none⟩) 2 2) (u2.alloc (.cells (vsCells [tV T.nm, nV (T.cols.length : Int)]).toArray 32)) rfl (by kernel_rfl) rfl (by rfl) (op_build2 _ _ (.tmp 11) (.tmp 15) rfl (tV T.nm) (nV (T.cols.length : Int)) rfl rfl u2) hX1 ?_
  simp only [Act.put, List.setIfInBounds_toArray, List.set_cons_zero, List.set_cons_succ]
  refine step_to 8 3 (.slice (some ⟨u2.heap.size, 0, none⟩) 2 2) _ rfl (by kernel_rfl) rfl (by rfl) (rfl) hX1 ?_
  simp only [Act.put, List.setIfInBounds_toArray, List.set_cons_zero, List.set_cons_succ]
  refine wpAnyH_done (by kernel_rfl) ?_ _
  have HV1 := hide hV1
  have HX1 := hide hX1
  clear hV1 hX1 hH hH1 hH2 hb1 hb2 HX0 HB0 HC0
  generalize u2.alloc (.cells (vsCells [tV T.nm, nV (T.cols.length : Int)]).toArray 32) = W1 at *
  generalize Value.slice (some ⟨u2.heap.size, 0, none⟩) 2 2 = v1 at *
  have c1 := HX1.out.d1
  go_wp2
  clear c1
  go_loopw [4, 3] (fun i u wr => ∃ k : Nat, k ≤ T.cols.length ∧ i = .int .i64 (k : Int) ∧ Vals w wr u (schC T k) ∧ TBox wr q T ⟨ca, cc, ia, ic, ra, rc⟩) (fun i _ _ => T.cols.length - (intOf i).toNat)
  case atStart => exact ⟨0, by omega, rfl, HV1.out, HX1.out⟩
  case round =>
    clear HV1 HX1
    obtain ⟨k, hk, rfl, hV, hX⟩ := hrel
    have HV := hide hV
    have HX := hide hX
    have c1 := hX.d1
    have hqs := lt_of_heap hX
    clear hV hX
    by_cases hlt : k < T.cols.length
    · obtain ⟨gb, ob, hca, hC⟩ := HCG.out wr (by rw [← HQ.out]; exact HV.out.below) k hlt
      subst hca
      obtain ⟨k0, k1, k2, k3⟩ := hC
      have hgl := World.block_lt_of_cell? wr _ k0
      have HN := hide (HCN.out k hlt)
      generalize T.cols.getD k Cl.zero = C at *
      go_upto_region 6 with fail
      have hb1 : Below wr.heap.size wr (wr.alloc (.cells #[.string (strOf C.nm), .int .i64 C.ty, .bool C.nn, .bool C.un] 24)) := (Below.refl _ _).alloc (Nat.le_refl _) _
      have hS0 : CBox (wr.alloc (.cells #[.string (strOf C.nm), .int .i64 C.ty, .bool C.nn, .bool C.un] 24)) wr.heap.size C := heap_alloc_new _ _
      have HVa := hide (HV.out.belowW hb1)
      have HXa := hide (HX.out.belowW hb1)
      have HS := hide hS0
      clear hb1 hS0 k0 k1 k2 k3 hgl HV HX c1 hqs
      generalize wr.alloc (.cells #[.string (strOf C.nm), .int .i64 C.ty, .bool C.nn, .bool C.un] 24) = W2 at *
      generalize wr.heap.size = b at *
      refine wp_region_held_drew (S := fun W => CBox W b C) (by kernel_rfl) (HS.out.belowW (below_drewN _ _ 1)) (fun hH => ?_)
      -- the slice, the fields
      refine take_to 0 29 _ rfl (by kernel_rfl) (by kernel_rfl) (by kernel_rfl) (fun _ _ _ h => h) rfl (by rfl) (fun w hw => by rfl) hH ?_
      simp only [Act.put, List.setIfInBounds_toArray, List.set_cons_zero, List.set_cons_succ]
      refine take_to 1 30 (.pointer (some ⟨b, 0, none⟩)) rfl (by kernel_rfl) (by kernel_rfl) (by kernel_rfl) (fun _ _ _ h => h) rfl (by rfl) (fun w hw => by rfl) hH ?_
      simp only [Act.put, List.setIfInBounds_toArray, List.set_cons_zero, List.set_cons_succ]
      refine take_to 2 31 (.string (strOf C.nm)) rfl (by kernel_rfl) (by kernel_rfl) (by kernel_rfl) (fun _ _ _ h => h) rfl (by rfl) (fun w hw => op_load _ _ 9 (.tmp 30) rfl (.pointer (some ⟨b, 0, none⟩)) _ rfl (run_loadAny w (b) (0) 9 _ Tryd.isAgg9 hw.cl.c0)) hH ?_
      simp only [Act.put, List.setIfInBounds_toArray, List.set_cons_zero, List.set_cons_succ]
      refine take_to 4 33 (.pointer (some ⟨b, 1, none⟩)) rfl (by kernel_rfl) (by kernel_rfl) (by kernel_rfl) (fun _ _ _ h => h) rfl (by rfl) (fun w hw => by rfl) hH ?_
      simp only [Act.put, List.setIfInBounds_toArray, List.set_cons_zero, List.set_cons_succ]
      refine take_to 5 34 (.int .i64 C.ty) rfl (by kernel_rfl) (by kernel_rfl) (by kernel_rfl) (fun _ _ _ h => h) rfl (by rfl) (fun w hw => op_load _ _ 3 (.tmp 33) rfl (.pointer (some ⟨b, 1, none⟩)) _ rfl (run_loadAny w (b) (1) 3 _ Tryd.isAgg3 hw.cl.c1)) hH ?_
      simp only [Act.put, List.setIfInBounds_toArray, List.set_cons_zero, List.set_cons_succ]
      refine take_to 7 36 (.pointer (some ⟨b, 2, none⟩)) rfl (by kernel_rfl) (by kernel_rfl) (by kernel_rfl) (fun _ _ _ h => h) rfl (by rfl) (fun w hw => by rfl) hH ?_
      simp only [Act.put, List.setIfInBounds_toArray, List.set_cons_zero, List.set_cons_succ]
      refine take_to 8 37 (.bool C.nn) rfl (by kernel_rfl) (by kernel_rfl) (by kernel_rfl) (fun _ _ _ h => h) rfl (by rfl) (fun w hw => op_load _ _ 4 (.tmp 36) rfl (.pointer (some ⟨b, 2, none⟩)) _ rfl (run_loadAny w (b) (2) 4 _ Tryd.isAgg4 hw.cl.c2)) hH ?_
      simp only [Act.put, List.setIfInBounds_toArray, List.set_cons_zero, List.set_cons_succ]
      refine take_to 10 39 (.pointer (some ⟨b, 3, none⟩)) rfl (by kernel_rfl) (by kernel_rfl) (by kernel_rfl) (fun _ _ _ h => h) rfl (by rfl) (fun w hw => by rfl) hH ?_
      simp only [Act.put, List.setIfInBounds_toArray, List.set_cons_zero, List.set_cons_succ]
      refine take_to 11 40 (.bool C.un) rfl (by kernel_rfl) (by kernel_rfl) (by kernel_rfl) (fun _ _ _ h => h) rfl (by rfl) (fun w hw => op_load _ _ 4 (.tmp 39) rfl (.pointer (some ⟨b, 3, none⟩)) _ rfl (run_loadAny w (b) (3) 4 _ Tryd.isAgg4 hw.cl.c3)) hH ?_
      simp only [Act.put, List.setIfInBounds_toArray, List.set_cons_zero, List.set_cons_succ]
      refine step_call1_to 3 32 54 rfl (by kernel_rfl) rfl (by rfl) (.tmp 31) _ rfl _ rfl Tryd.enters54 (text54 C.nm _) ?_
      rintro e u1 ⟨rfl, hb1⟩
      have hH1 := hH.belowW hb1
      refine ⟨_, rfl, hH1, ?_⟩
      simp only [Act.put, List.setIfInBounds_toArray, List.set_cons_zero, List.set_cons_succ]
      refine step_call1_to 6 35 55 rfl (by kernel_rfl) rfl (by rfl) (.tmp 34) _ rfl _ rfl Tryd.enters55 (num55 C.ty _) ?_
      rintro e u2 ⟨rfl, hb2⟩
      have hH2 := hH1.belowW hb2
      refine ⟨_, rfl, hH2, ?_⟩
      simp only [Act.put, List.setIfInBounds_toArray, List.set_cons_zero, List.set_cons_succ]
      refine step_call1_to 9 38 56 rfl (by kernel_rfl) rfl (by rfl) (.tmp 37) _ rfl _ rfl Tryd.enters56 (truth56 C.nn _) ?_
      rintro e u3 ⟨rfl, hb3⟩
      have hH3 := hH2.belowW hb3
      refine ⟨_, rfl, hH3, ?_⟩
      simp only [Act.put, List.setIfInBounds_toArray, List.set_cons_zero, List.set_cons_succ]
      refine step_call1_to 12 41 56 rfl (by kernel_rfl) rfl (by rfl) (.tmp 40) _ rfl _ rfl Tryd.enters56 (truth56 C.un _) ?_
      rintro e u4 ⟨rfl, hb4⟩
      have hH4 := hH3.belowW hb4
      refine ⟨_, rfl, hH4, ?_⟩
      simp only [Act.put, List.setIfInBounds_toArray, List.set_cons_zero, List.set_cons_succ]
      have hal : Below u4.heap.size u4 (u4.alloc (.cells (vsCells [tV C.nm, nV C.ty, bV C.nn, bV C.un]).toArray 32)) := (Below.refl _ _).alloc (Nat.le_refl _) _
      have hVb := (HVa.out.belowW (thenW (thenW (thenW (thenW (below_drewN W2.heap.size W2 1) hb1) hb2) hb3) hb4)).belowW hal
      have hXb := (HXa.out.belowW (thenW (thenW (thenW (thenW (below_drewN W2.heap.size W2 1) hb1) hb2) hb3) hb4)).belowW hal
      have hnew : VsAt (u4.alloc (.cells (vsCells [tV C.nm, nV C.ty, bV C.nn, bV C.un]).toArray 32)) (.slice (some ⟨u4.heap.size, 0, none⟩) 4 4) [tV C.nm, nV C.ty, bV C.nn, bV C.un] := (vals_new (Below.refl u4.heap.size u4) [tV C.nm, nV C.ty, bV C.nn, bV C.un] (by simp)).at
      refine step_to 13 42 (.slice (some ⟨u4.heap.size, 0, none⟩) 4 4) (u4.alloc (.cells (vsCells [tV C.nm, nV C.ty, bV C.nn, bV C.un]).toArray 32)) rfl (by kernel_rfl) rfl (by rfl) (op_build4 _ _ (.tmp 32) (.tmp 35) (.tmp 38) (.tmp 41) rfl (tV C.nm) (nV C.ty) (bV C.nn) (bV C.un) rfl rfl rfl rfl u4) (hH4.belowW hal) ?_
      simp only [Act.put, List.setIfInBounds_toArray, List.set_cons_zero, List.set_cons_succ]
      refine step_append_vals 14 43 rfl (by kernel_rfl) rfl rfl (.tmp 29) (.tmp 42) rfl w _ _ _ _ rfl rfl hVb hnew (by have := HCL.out k; simp; omega) (fun u7 W7 hV7 hg7 => ?_)
      have hS7 : CBox W7 b C := grown_rec hVb.own hg7 (hH4.belowW hal) (by decide)
      have hX7 : TBox W7 q T ⟨some ⟨gb, ob, none⟩, cc, ia, ic, ra, rc⟩ := grown_rec hVb.own hg7 hXb (by decide)
      rw [HN.out] at hV7
      refine ⟨hS7, ?_⟩
      simp only [Act.put, List.setIfInBounds_toArray, List.set_cons_zero, List.set_cons_succ]
      refine step_to 15 3 u7 _ rfl (by kernel_rfl) rfl (by rfl) (rfl) hS7 ?_
      simp only [Act.put, List.setIfInBounds_toArray, List.set_cons_zero, List.set_cons_succ]
      refine wpAnyH_done (by kernel_rfl) ?_ _
      have HV7 := hide hV7
      have HX7 := hide hX7
      clear hV7 hX7 hS7 hg7 hVb hXb hnew hal hH hH1 hH2 hH3 hH4 hb1 hb2 hb3 hb4 HS HVa HXa
      go_wp2
      go_roundw
      case rel => exact ⟨k + 1, by omega, by go_num, HV7.out, HX7.out⟩
      case measure => simp [intOf]; omega
    · have hkN : k = T.cols.length := by omega
      subst hkN
      have c2 := HX.out.d2
      have HVI : Hid (∀ W, Below wr.heap.size wr W → Vals w W u3 (schC T T.cols.length)) := fun W hW => HV.out.belowW hW
      have HXI : Hid (∀ W, Below wr.heap.size wr W → TBox W q T ⟨ca, cc, ia, ic, ra, rc⟩) := fun W hW => HX.out.belowW hW
      clear HV
      have HLI := hide (HCL.out T.cols.length)
      have hbv : ∀ W : World, (Instr.buildSlice 35 1 #[(0, .agg #[.int .i64 1, .int .i64 (T.idx.length : Int), .string { data := #[] }, .bool false])]).run Tryd.prog W = .ok (.slice (some ⟨W.heap.size, 0, none⟩) 1 1) (W.alloc (.cells #[.int .i64 1, .int .i64 (T.idx.length : Int), .string { data := #[] }, .bool false] 32)) := buildV (nV (T.idx.length : Int))
      have hbn : ∀ W : World, VsAt (W.alloc (.cells #[.int .i64 1, .int .i64 (T.idx.length : Int), .string { data := #[] }, .bool false] 32)) (.slice (some ⟨W.heap.size, 0, none⟩) 1 1) [nV (T.idx.length : Int)] := fun W => vsAt1 W (nV (T.idx.length : Int))
      have HBN := hide hbn
      clear hbn
      go_upto_region 8 with (first
        | (go_at_call 55; refine (H52.out _ _).mono ?_; rintro e w5 ⟨rfl, hb5⟩; have HB5 := hide hb5; clear hb5)
        | (refine wpList_append_vals rfl (.tmp 44) (.tmp 49) rfl w _ _ _ _ rfl rfl ((HVI.out _ HB5.out).belowW ((Below.refl _ _).alloc (Nat.le_refl _) _)) (HBN.out _) (by have := HLI.out; simp; omega) ?_; intro u6 W6 hV6 hg6; have HX6 : Hid (TBox W6 q T ⟨ca, cc, ia, ic, ra, rc⟩) := grown_rec ((HVI.out _ HB5.out).belowW ((Below.refl _ _).alloc (Nat.le_refl _) _)).own hg6 ((HXI.out _ HB5.out).belowW ((Below.refl _ _).alloc (Nat.le_refl _) _)) (by decide); rw [HI0.out] at hV6; have HV6 := hide hV6; clear hV6 hg6))
      have c2' := HX6.out.d2
      clear c2 HVI HXI HX HB5 hbv HBN HLI HCG HCN HCL c1
      go_wp2
      clear c2'
      go_loopw [6, 3] (fun i u wr => ∃ j : Nat, j ≤ T.idx.length ∧ i = .int .i64 (j : Int) ∧ Vals w wr u (schI T j) ∧ TBox wr q T ⟨ca, cc, ia, ic, ra, rc⟩) (fun i _ _ => T.idx.length - (intOf i).toNat)
      case atStart => exact ⟨0, by omega, rfl, HV6.out, HX6.out⟩
      case round =>
        clear HV6 HX6
        obtain ⟨j, hj, rfl, hV, hX⟩ := hrel
        have HV := hide hV
        have HX := hide hX
        have c2 := hX.d2
        have hqs := lt_of_heap hX
        clear hV hX
        by_cases hlt : j < T.idx.length
        · obtain ⟨gb, ob, hia, hC⟩ := HIG.out wr (by rw [← HQ.out]; exact HV.out.below) j hlt
          subst hia
          obtain ⟨k0, k1, k2⟩ := hC
          have hgl := World.block_lt_of_cell? wr _ k0
          have HN := hide (HIN.out j hlt)
          generalize T.idx.getD j Ix.zero = X at *
          go_upto_region 12 with fail
          have hb1 : Below wr.heap.size wr (wr.alloc (.cells #[.string (strOf X.nm), .int .i64 X.col, .bool X.un] 85)) := (Below.refl _ _).alloc (Nat.le_refl _) _
          have hS0 : XBox (wr.alloc (.cells #[.string (strOf X.nm), .int .i64 X.col, .bool X.un] 85)) wr.heap.size X := heap_alloc_new _ _
          have HVa := hide (HV.out.belowW hb1)
          have HXa := hide (HX.out.belowW hb1)
          have HS := hide hS0
          clear hb1 hS0 k0 k1 k2 hgl HV HX c2 hqs
          generalize wr.alloc (.cells #[.string (strOf X.nm), .int .i64 X.col, .bool X.un] 85) = W2 at *
          generalize wr.heap.size = b at *
          refine wp_region_held_drew (S := fun W => XBox W b X) (by kernel_rfl) (HS.out.belowW (below_drewN _ _ 1)) (fun hH => ?_)
          refine take_to 0 63 _ rfl (by kernel_rfl) (by kernel_rfl) (by kernel_rfl) (fun _ _ _ h => h) rfl (by rfl) (fun w hw => by rfl) hH ?_
          simp only [Act.put, List.setIfInBounds_toArray, List.set_cons_zero, List.set_cons_succ]
          refine take_to 1 64 (.pointer (some ⟨b, 0, none⟩)) rfl (by kernel_rfl) (by kernel_rfl) (by kernel_rfl) (fun _ _ _ h => h) rfl (by rfl) (fun w hw => by rfl) hH ?_
          simp only [Act.put, List.setIfInBounds_toArray, List.set_cons_zero, List.set_cons_succ]
          refine take_to 2 65 (.string (strOf X.nm)) rfl (by kernel_rfl) (by kernel_rfl) (by kernel_rfl) (fun _ _ _ h => h) rfl (by rfl) (fun w hw => op_load _ _ 9 (.tmp 64) rfl (.pointer (some ⟨b, 0, none⟩)) _ rfl (run_loadAny w (b) (0) 9 _ Tryd.isAgg9 hw.ix.c0)) hH ?_
          simp only [Act.put, List.setIfInBounds_toArray, List.set_cons_zero, List.set_cons_succ]
          refine take_to 4 67 (.pointer (some ⟨b, 1, none⟩)) rfl (by kernel_rfl) (by kernel_rfl) (by kernel_rfl) (fun _ _ _ h => h) rfl (by rfl) (fun w hw => by rfl) hH ?_
          simp only [Act.put, List.setIfInBounds_toArray, List.set_cons_zero, List.set_cons_succ]
          refine take_to 5 68 (.int .i64 X.col) rfl (by kernel_rfl) (by kernel_rfl) (by kernel_rfl) (fun _ _ _ h => h) rfl (by rfl) (fun w hw => op_load _ _ 3 (.tmp 67) rfl (.pointer (some ⟨b, 1, none⟩)) _ rfl (run_loadAny w (b) (1) 3 _ Tryd.isAgg3 hw.ix.c1)) hH ?_
          simp only [Act.put, List.setIfInBounds_toArray, List.set_cons_zero, List.set_cons_succ]
          refine take_to 7 70 (.pointer (some ⟨b, 2, none⟩)) rfl (by kernel_rfl) (by kernel_rfl) (by kernel_rfl) (fun _ _ _ h => h) rfl (by rfl) (fun w hw => by rfl) hH ?_
          simp only [Act.put, List.setIfInBounds_toArray, List.set_cons_zero, List.set_cons_succ]
          refine take_to 8 71 (.bool X.un) rfl (by kernel_rfl) (by kernel_rfl) (by kernel_rfl) (fun _ _ _ h => h) rfl (by rfl) (fun w hw => op_load _ _ 4 (.tmp 70) rfl (.pointer (some ⟨b, 2, none⟩)) _ rfl (run_loadAny w (b) (2) 4 _ Tryd.isAgg4 hw.ix.c2)) hH ?_
          simp only [Act.put, List.setIfInBounds_toArray, List.set_cons_zero, List.set_cons_succ]
          refine step_call1_to 3 66 54 rfl (by kernel_rfl) rfl (by rfl) (.tmp 65) _ rfl _ rfl Tryd.enters54 (text54 X.nm _) ?_
          rintro e u1 ⟨rfl, hb1⟩
          have hH1 := hH.belowW hb1
          refine ⟨_, rfl, hH1, ?_⟩
          simp only [Act.put, List.setIfInBounds_toArray, List.set_cons_zero, List.set_cons_succ]
          refine step_call1_to 6 69 55 rfl (by kernel_rfl) rfl (by rfl) (.tmp 68) _ rfl _ rfl Tryd.enters55 (num55 X.col _) ?_
          rintro e u2 ⟨rfl, hb2⟩
          have hH2 := hH1.belowW hb2
          refine ⟨_, rfl, hH2, ?_⟩
          simp only [Act.put, List.setIfInBounds_toArray, List.set_cons_zero, List.set_cons_succ]
          refine step_call1_to 9 72 56 rfl (by kernel_rfl) rfl (by rfl) (.tmp 71) _ rfl _ rfl Tryd.enters56 (truth56 X.un _) ?_
          rintro e u3 ⟨rfl, hb3⟩
          have hH3 := hH2.belowW hb3
          refine ⟨_, rfl, hH3, ?_⟩
          simp only [Act.put, List.setIfInBounds_toArray, List.set_cons_zero, List.set_cons_succ]
          have hal : Below u3.heap.size u3 (u3.alloc (.cells (vsCells [tV X.nm, nV X.col, bV X.un]).toArray 32)) := (Below.refl _ _).alloc (Nat.le_refl _) _
          have hVb := (HVa.out.belowW (thenW (thenW (thenW (below_drewN W2.heap.size W2 1) hb1) hb2) hb3)).belowW hal
          have hXb := (HXa.out.belowW (thenW (thenW (thenW (below_drewN W2.heap.size W2 1) hb1) hb2) hb3)).belowW hal
          have hnew : VsAt (u3.alloc (.cells (vsCells [tV X.nm, nV X.col, bV X.un]).toArray 32)) (.slice (some ⟨u3.heap.size, 0, none⟩) 3 3) [tV X.nm, nV X.col, bV X.un] := (vals_new (Below.refl u3.heap.size u3) [tV X.nm, nV X.col, bV X.un] (by simp)).at
          refine step_to 10 73 (.slice (some ⟨u3.heap.size, 0, none⟩) 3 3) (u3.alloc (.cells (vsCells [tV X.nm, nV X.col, bV X.un]).toArray 32)) rfl (by kernel_rfl) rfl (by rfl) (op_build3 _ _ (.tmp 66) (.tmp 69) (.tmp 72) rfl (tV X.nm) (nV X.col) (bV X.un) rfl rfl rfl u3) (hH3.belowW hal) ?_
          simp only [Act.put, List.setIfInBounds_toArray, List.set_cons_zero, List.set_cons_succ]
          refine step_append_vals 11 74 rfl (by kernel_rfl) rfl rfl (.tmp 63) (.tmp 73) rfl w _ _ _ _ rfl rfl hVb hnew (by have := HIL.out j; simp; omega) (fun u7 W7 hV7 hg7 => ?_)
          have hS7 : XBox W7 b X := grown_rec hVb.own hg7 (hH3.belowW hal) (by decide)
          have hX7 : TBox W7 q T ⟨ca, cc, some ⟨gb, ob, none⟩, ic, ra, rc⟩ := grown_rec hVb.own hg7 hXb (by decide)
          rw [HN.out] at hV7
          refine ⟨hS7, ?_⟩
          simp only [Act.put, List.setIfInBounds_toArray, List.set_cons_zero, List.set_cons_succ]
          refine step_to 12 3 u7 _ rfl (by kernel_rfl) rfl (by rfl) (rfl) hS7 ?_
          simp only [Act.put, List.setIfInBounds_toArray, List.set_cons_zero, List.set_cons_succ]
          refine wpAnyH_done (by kernel_rfl) ?_ _
          have HV7 := hide hV7
          have HX7 := hide hX7
          clear hV7 hX7 hS7 hg7 hVb hXb hnew hal hH hH1 hH2 hH3 hb1 hb2 hb3 HS HVa HXa
          go_wp2
          go_roundw
          case rel => exact ⟨j + 1, by omega, by go_num, HV7.out, HX7.out⟩
          case measure => simp [intOf]; omega
        · have hjN : j = T.idx.length := by omega
          subst hjN
          go_upto_region 13 with fail
          have HVa := HV
          have HXa := HX
          clear HV HX c2 hqs
          generalize wr = W2 at *
          refine wp_region_held_drew (S := fun W => TBox W q T ⟨ca, cc, ia, ic, ra, rc⟩) (by kernel_rfl) (HXa.out.belowW (below_drewN _ _ 1)) (fun hH => ?_)
          refine take_to 0 75 _ rfl (by kernel_rfl) (by kernel_rfl) (by kernel_rfl) (fun _ _ _ h => h) rfl (by rfl) (fun w hw => by rfl) hH ?_
          simp only [Act.put, List.setIfInBounds_toArray, List.set_cons_zero, List.set_cons_succ]
          refine take_to 1 76 (.pointer (some ⟨q, 3, none⟩)) rfl (by kernel_rfl) (by kernel_rfl) (by kernel_rfl) (fun _ _ _ h => h) rfl (by rfl) (fun w hw => by rfl) hH ?_
          simp only [Act.put, List.setIfInBounds_toArray, List.set_cons_zero, List.set_cons_succ]
          refine take_to 2 77 (.int .i64 T.head) rfl (by kernel_rfl) (by kernel_rfl) (by kernel_rfl) (fun _ _ _ h => h) rfl (by rfl) (fun w hw => op_load _ _ 3 (.tmp 76) rfl (.pointer (some ⟨q, 3, none⟩)) _ rfl (run_loadAny w (q) (3) 3 _ Tryd.isAgg3 hw.c3)) hH ?_
          simp only [Act.put, List.setIfInBounds_toArray, List.set_cons_zero, List.set_cons_succ]
          refine take_to 4 79 (.pointer (some ⟨q, 4, none⟩)) rfl (by kernel_rfl) (by kernel_rfl) (by kernel_rfl) (fun _ _ _ h => h) rfl (by rfl) (fun w hw => by rfl) hH ?_
          simp only [Act.put, List.setIfInBounds_toArray, List.set_cons_zero, List.set_cons_succ]
          refine take_to 5 80 (.slice ra T.roots.length rc) rfl (by kernel_rfl) (by kernel_rfl) (by kernel_rfl) (fun _ _ _ h => h) rfl (by rfl) (fun w hw => op_load _ _ 27 (.tmp 79) rfl (.pointer (some ⟨q, 4, none⟩)) _ rfl (run_loadAny w (q) (4) 27 _ Tryd.isAgg27 hw.d4)) hH ?_
          simp only [Act.put, List.setIfInBounds_toArray, List.set_cons_zero, List.set_cons_succ]
          refine take_to 6 81 (.int .i64 (T.roots.length : Int)) rfl (by kernel_rfl) (by kernel_rfl) (by kernel_rfl) (fun _ _ _ h => h) rfl (by rfl) (fun w hw => op_len27 _ _ (.tmp 80) rfl ra _ rc rfl) hH ?_
          simp only [Act.put, List.setIfInBounds_toArray, List.set_cons_zero, List.set_cons_succ]
          refine step_call1_to 3 78 55 rfl (by kernel_rfl) rfl (by rfl) (.tmp 77) _ rfl _ rfl Tryd.enters55 (num55 T.head _) ?_
          rintro e u1 ⟨rfl, hb1⟩
          have hH1 := hH.belowW hb1
          refine ⟨_, rfl, hH1, ?_⟩
          simp only [Act.put, List.setIfInBounds_toArray, List.set_cons_zero, List.set_cons_succ]
          refine step_call1_to 7 82 55 rfl (by kernel_rfl) rfl (by rfl) (.tmp 81) _ rfl _ rfl Tryd.enters55 (num55 (T.roots.length : Int) _) ?_
          rintro e u2 ⟨rfl, hb2⟩
          have hH2 := hH1.belowW hb2
          refine ⟨_, rfl, hH2, ?_⟩
          simp only [Act.put, List.setIfInBounds_toArray, List.set_cons_zero, List.set_cons_succ]
          have hal : Below u2.heap.size u2 (u2.alloc (.cells (vsCells [nV T.head, nV (T.roots.length : Int)]).toArray 32)) := (Below.refl _ _).alloc (Nat.le_refl _) _
          have hVb := (HVa.out.belowW (thenW (thenW (below_drewN W2.heap.size W2 1) hb1) hb2)).belowW hal
          have hXb := (HXa.out.belowW (thenW (thenW (below_drewN W2.heap.size W2 1) hb1) hb2)).belowW hal
          have hnew : VsAt (u2.alloc (.cells (vsCells [nV T.head, nV (T.roots.length : Int)]).toArray 32)) (.slice (some ⟨u2.heap.size, 0, none⟩) 2 2) [nV T.head, nV (T.roots.length : Int)] := (vals_new (Below.refl u2.heap.size u2) [nV T.head, nV (T.roots.length : Int)] (by simp)).at
          refine step_to 8 83 (.slice (some ⟨u2.heap.size, 0, none⟩) 2 2) (u2.alloc (.cells (vsCells [nV T.head, nV (T.roots.length : Int)]).toArray 32)) rfl (by kernel_rfl) rfl (by rfl) (op_build2 _ _ (.tmp 78) (.tmp 82) rfl (nV T.head) (nV (T.roots.length : Int)) rfl rfl u2) (hH2.belowW hal) ?_
          simp only [Act.put, List.setIfInBounds_toArray, List.set_cons_zero, List.set_cons_succ]
          refine step_append_vals 9 84 rfl (by kernel_rfl) rfl rfl (.tmp 75) (.tmp 83) rfl w _ _ _ _ rfl rfl hVb hnew (by have := HIL.out T.idx.length; simp; omega) (fun u7 W7 hV7 hg7 => ?_)
          have hX7 : TBox W7 q T ⟨ca, cc, ia, ic, ra, rc⟩ := grown_rec hVb.own hg7 hXb (by decide)
          rw [HR0.out] at hV7
          refine ⟨hX7, ?_⟩
          simp only [Act.put, List.setIfInBounds_toArray, List.set_cons_zero, List.set_cons_succ]
          refine step_to 10 3 u7 _ rfl (by kernel_rfl) rfl (by rfl) (rfl) hX7 ?_
          simp only [Act.put, List.setIfInBounds_toArray, List.set_cons_zero, List.set_cons_succ]
          refine wpAnyH_done (by kernel_rfl) ?_ _
          have HV7 := hide hV7
          have HX7 := hide hX7
          have c4 := hX7.d4
          clear hV7 hX7 hg7 hVb hXb hnew hal hH hH1 hH2 hb1 hb2 HVa HXa HIG HIN HIL
          go_wp2
          clear c4
          go_loopw [8, 3] (fun i u wr => ∃ n : Nat, n ≤ T.roots.length ∧ i = .int .i64 (n : Int) ∧ Vals w wr u (schR T n) ∧ TBox wr q T ⟨ca, cc, ia, ic, ra, rc⟩) (fun i _ _ => T.roots.length - (intOf i).toNat)
          case atStart => exact ⟨0, by omega, rfl, HV7.out, HX7.out⟩
          case round =>
            clear HV7 HX7
            obtain ⟨n, hn, rfl, hV, hX⟩ := hrel
            have HV := hide hV
            have HX := hide hX
            have c4 := hX.d4
            have hqs := lt_of_heap hX
            clear hV hX
            by_cases hlt : n < T.roots.length
            · obtain ⟨gb, ob, hra, k0⟩ := HRG.out wr (by rw [← HQ.out]; exact HV.out.below) n hlt
              subst hra
              have hgl := World.block_lt_of_cell? wr _ k0
              have HN := hide (HRN.out n hlt)
              have HLk := hide (HRL.out n)
              generalize T.roots.getD n 0 = x at *
              have HVI : Hid (∀ W, Below wr.heap.size wr W → Vals w W u3 (schR T n)) := fun W hW => HV.out.belowW hW
              have HXI : Hid (∀ W, Below wr.heap.size wr W → TBox W q T ⟨ca, cc, ia, ic, some ⟨gb, ob, none⟩, rc⟩) := fun W hW => HX.out.belowW hW
              have hbv : ∀ W : World, (Instr.buildSlice 35 1 #[(0, .agg #[.int .i64 1, .int .i64 x, .string { data := #[] }, .bool false])]).run Tryd.prog W = .ok (.slice (some ⟨W.heap.size, 0, none⟩) 1 1) (W.alloc (.cells #[.int .i64 1, .int .i64 x, .string { data := #[] }, .bool false] 32)) := buildV (nV x)
              have HBN : Hid (∀ W : World, VsAt (W.alloc (.cells #[.int .i64 1, .int .i64 x, .string { data := #[] }, .bool false] 32)) (.slice (some ⟨W.heap.size, 0, none⟩) 1 1) [nV x]) := fun W => vsAt1 W (nV x)
              clear HV HX
              go_wp2_with (first
                | (go_at_call 55; refine (H52.out _ _).mono ?_; rintro e w5 ⟨rfl, hb5⟩; have HB5 := hide hb5; clear hb5)
                | (refine wpList_append_vals rfl (.tmp 92) (.tmp 99) rfl w _ _ _ _ rfl rfl ((HVI.out _ HB5.out).belowW ((Below.refl _ _).alloc (Nat.le_refl _) _)) (HBN.out _) (by have := HLk.out; simp; omega) ?_; intro u6 W6 hV6 hg6; have HX6 : Hid (TBox W6 q T ⟨ca, cc, ia, ic, some ⟨gb, ob, none⟩, rc⟩) := grown_rec ((HVI.out _ HB5.out).belowW ((Below.refl _ _).alloc (Nat.le_refl _) _)).own hg6 ((HXI.out _ HB5.out).belowW ((Below.refl _ _).alloc (Nat.le_refl _) _)) (by decide); rw [HN.out] at hV6; have HV6 := hide hV6; clear hV6 hg6))
              go_roundw
              case rel => exact ⟨n + 1, by omega, by go_num, HV6.out, HX6.out⟩
              case measure => simp [intOf]; omega
            · have hnN : n = T.roots.length := by omega
              subst hnN
              have HC := hide (HJ.out wr u3 (by rw [← HQ.out]; exact HV.out.below) HV.out.at)
              go_wp2_with (go_at_call 34; refine HC.out.mono ?_; rintro e W9 ⟨u9, rfl, hB9⟩; have HB9 := hide hB9; clear hB9)
              go_ret
              exact ⟨u9, rfl, HV.out.below.trans (HB9.out.below.mono HV.out.below.size), owns_mono HB9.out.own HV.out.below.size⟩
end Go.Proofs.YtplpchaceiogaaaDoor
