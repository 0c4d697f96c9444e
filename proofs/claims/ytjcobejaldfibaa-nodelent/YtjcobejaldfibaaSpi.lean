/- Split: an inner node. -/
import Derived.Test.YtjcobejaldfibaaSpl
namespace Go.Proofs.Ytjcobejaldfibaa
open Go.RowKit
set_option linter.unusedVariables false
set_option linter.unusedSimpArgs false

theorem wrap_id (x : Int) (h : 0 ≤ x) (h2 : x ≤ 9223372036854775807) : wrap64 x = x := by unfold wrap64; omega
theorem wrap_id2 (x : Int) (h : 0 ≤ x) (h2 : x ≤ 9223372036854775807) : IntKind.i64.wrap x = x := by rw [IntKind.wrap_i64]; omega
theorem half_b {N : Nd} (h : Fits N) : (N.half : Int) ≤ 9223372036854775807 ∧ 0 ≤ (N.half : Int) + 1 ∧ (N.half : Int) + 1 ≤ 9223372036854775807 := by
  have h1 := h.keys
  have h2 : N.half ≤ N.keys.length := Nat.div_le_self _ _
  omega
set_option maxHeartbeats 1000000 in
theorem split_inner {w : World} {N : Nd} {vk vv vi : Value} (h : NdAt w N vk vv vi) (hf : Fits N) (hh : N.half ≠ 0) (hm : N.matched = true) (hl : N.leaf = false) :
    Calls Try.prog 13 #[.agg #[.bool false, vk, vv, vi, .int .i64 N.next]] w (SplitEnd w N.left N.key N.right) := by
  have HM : Hid (∀ W, Below w.heap.size w W → Calls Try.prog 27 #[.agg #[.bool false, vk, vv, vi, .int .i64 N.next]] W fun e w' => e = .returned (.bool true) ∧ Below W.heap.size W w') := fun W hW => by
    have := matched_any (h.belowW hW) hf
    rw [hm, hl] at this
    exact this
  obtain ⟨ak, ck, rfl, hk1, hk2⟩ := h.keys.len
  obtain ⟨av, cv, rfl, hv1, hv2⟩ := h.vals.len
  obtain ⟨ai, ci, rfl, hi1, hi2⟩ := h.kids.len
  have H := hide h
  have HF := hide hf
  have hhl : N.half ≤ N.keys.length := Nat.div_le_self _ _
  have hvl : N.kids.length = N.keys.length + 1 := by simp [Nd.matched, hl] at hm; exact hm.2
  have hhd : ((N.keys.length : Int)).tdiv 2 = (N.half : Int) := by rw [Int.tdiv_eq_ediv_of_nonneg (by omega)]; unfold Nd.half; omega
  have ecast : ((N.half + 1 : Nat) : Int) = (N.half : Int) + 1 := by simp
  have HVL := hide hvl
  have hh0 : ¬ ((N.half : Int) = 0) := by omega
  have hck : ∀ W, (Instr.sliceAt 22 (.slice ak N.keys.length ck) none (some (.int .i64 (N.half : Int))) none).run Try.prog W = .ok (.slice ak N.half ck) W := fun W => cutT_to W _ _ _ _ (by omega)
  have hcv : ∀ W, (Instr.sliceAt 24 (.slice ai N.kids.length ci) none (some (.int .i64 ((N.half : Int) + 1))) none).run Try.prog W = .ok (.slice ai (N.half + 1) ci) W := fun W => by have := cutI_to W ai N.kids.length ci (N.half + 1) (by omega); rw [ecast] at this; exact this
  have hck2 : ∀ W, (Instr.sliceAt 22 (.slice ak N.keys.length ck) (some (.int .i64 ((N.half : Int) + 1))) none none).run Try.prog W = .ok (.slice (cutAt ak ck (N.half + 1)) (N.keys.length - (N.half + 1)) (ck - (N.half + 1))) W := fun W => by have := cutT_from W ak N.keys.length ck (N.half + 1) (by unfold Nd.half at hh ⊢; omega); rw [ecast] at this; exact this
  have hcv2 : ∀ W, (Instr.sliceAt 24 (.slice ai N.kids.length ci) (some (.int .i64 ((N.half : Int) + 1))) none none).run Try.prog W = .ok (.slice (cutAt ai ci (N.half + 1)) (N.kids.length - (N.half + 1)) (ci - (N.half + 1))) W := fun W => by have := cutI_from W ai N.kids.length ci (N.half + 1) (by omega); rw [ecast] at this; exact this
  have H3 := hide (three w (.bool false) (.slice ak N.keys.length ck) (.slice av N.vals.length cv) (.slice ai N.kids.length ci) (.int .i64 N.next))
  have HLF := hide hl
  have HKD := hide (h.keys.from (N.half + 1) (by unfold Nd.half at hh ⊢; omega))
  have HVD := hide (h.kids.from (N.half + 1) (by omega))
  have hlt : N.half < N.keys.length := by unfold Nd.half at hh ⊢; omega
  have hwr : wrap64 (N.half : Int) = (N.half : Int) := wrap_id _ (Int.natCast_nonneg _) (half_b hf).1
  have hwr1 : wrap64 ((N.half : Int) + 1) = (N.half : Int) + 1 := wrap_id _ (half_b hf).2.1 (half_b hf).2.2
  have hwr2 : IntKind.i64.wrap ((N.half : Int) + 1) = (N.half : Int) + 1 := wrap_id2 _ (half_b hf).2.1 (half_b hf).2.2
  clear ecast h hf hm hk2 hv2 hi2 hi1 hvl
  generalize hnk : N.keys.length = nk at *
  generalize hnv : N.vals.length = nv at *
  generalize hni : N.kids.length = ni at *
  generalize hhf : N.half = hf at *
  generalize hx : N.next = x at *
  have HNK := hide hnk
  have HHF := hide hhf
  have HNV := hide hni
  have HX := hide hx
  clear hnk hnv hni hhf hx hl
  generalize cutAt ak ck (hf + 1) = bk at *
  generalize cutAt ai ci (hf + 1) = bi at *
  go_enter Try.func13, Try.ntmps13
  go_upto_region 1 with fail
  generalize (((w.alloc (.cells #[.bool false, .slice ak nk ck, .slice av nv cv, .slice ai ni ci, .int .i64 x] 26)).alloc (.cells #[.bool false, .slice none 0 0, .slice none 0 0, .slice none 0 0, .int .i64 0] 26)).alloc (.cells #[.bool false, .slice none 0 0, .slice none 0 0, .slice none 0 0, .int .i64 0] 26)) = W0 at *
  obtain ⟨k0, k1, k2, k3, k4, f0, f1, f2, f3, f4⟩ := H3.out.x.cells
  go_wp2_with fail
  refine (HM.out W0 H3.out.below).mono ?_
  rintro e W1 ⟨rfl, hb1⟩
  clear k0 k1 k2 k3 k4 f0 f1 f2 f3 f4
  obtain ⟨k0, k1, k2, k3, k4, f0, f1, f2, f3, f4⟩ := (H3.out.x.belowW hb1).cells
  obtain ⟨j0, j1, j2, j3, j4, g0, g1, g2, g3, g4⟩ := (H3.out.y.belowW hb1).cells
  have l0 := (H3.out.x.belowW hb1).lt
  have l1 := (H3.out.y.belowW hb1).lt
  have l2 := (H3.out.z.belowW hb1).lt
  have HX1 := hide (H3.out.x.belowW hb1)
  have HY1 := hide (H3.out.y.belowW hb1)
  have HZ1 := hide (H3.out.z.belowW hb1)
  have HB1 := hide (H3.out.below.trans (hb1.mono H3.out.below.size))
  clear hb1
  go_upto_region 7 with fail
  go_region
  have HX2 := hide ((HX1.out.setOther (.bool false) (.slice ak hf ck) (.slice none 0 0) (.slice ai (hf + 1) ci) (.int .i64 0) (show w.heap.size ≠ w.heap.size + 1 by omega)).drew)
  have HY2 := hide ((HY1.out.setAll (.bool false) (.slice ak hf ck) (.slice none 0 0) (.slice ai (hf + 1) ci) (.int .i64 0)).drew)
  have HZ2 := hide ((HZ1.out.setOther (.bool false) (.slice ak hf ck) (.slice none 0 0) (.slice ai (hf + 1) ci) (.int .i64 0) (show w.heap.size + 1 + 1 ≠ w.heap.size + 1 by omega)).drew)
  have HB2 := hide (below_drew (below_setAll HB1.out (w.heap.size + 1) (.bool false) (.slice ak hf ck) (.slice none 0 0) (.slice ai (hf + 1) ci) (.int .i64 0) (by omega) HB1.out.size))
  clear k0 k1 k2 k3 k4 f0 f1 f2 f3 f4 j0 j1 j2 j3 j4 g0 g1 g2 g3 g4 l0 l1 l2
  go_upto_region 8 with fail
  generalize hW : (((((W1.setCell ⟨w.heap.size + 1, 0, none⟩ (.bool false)).setCell ⟨w.heap.size + 1, 1, none⟩ (.slice ak hf ck)).setCell ⟨w.heap.size + 1, 2, none⟩ (.slice none 0 0)).setCell ⟨w.heap.size + 1, 3, none⟩ (.slice ai (hf + 1) ci)).setCell ⟨w.heap.size + 1, 4, none⟩ (.int .i64 0)).drew = W2 at *
  clear hW
  obtain ⟨k0, k1, k2, k3, k4, f0, f1, f2, f3, f4⟩ := HX2.out.cells
  obtain ⟨j0, j1, j2, j3, j4, g0, g1, g2, g3, g4⟩ := HZ2.out.cells
  have l0 := HX2.out.lt
  have l1 := HY2.out.lt
  have l2 := HZ2.out.lt
  go_region
  have HX3 := hide ((HX2.out.setOther (.bool false) (.slice bk (nk - (hf + 1)) (ck - (hf + 1))) (.slice none 0 0) (.slice bi (ni - (hf + 1)) (ci - (hf + 1))) (.int .i64 x) (show w.heap.size ≠ w.heap.size + 1 + 1 by omega)).drew)
  have HZ3 := hide ((HZ2.out.setAll (.bool false) (.slice bk (nk - (hf + 1)) (ck - (hf + 1))) (.slice none 0 0) (.slice bi (ni - (hf + 1)) (ci - (hf + 1))) (.int .i64 x)).drew)
  have HY3 := hide ((HY2.out.setOther (.bool false) (.slice bk (nk - (hf + 1)) (ck - (hf + 1))) (.slice none 0 0) (.slice bi (ni - (hf + 1)) (ci - (hf + 1))) (.int .i64 x) (show w.heap.size + 1 ≠ w.heap.size + 1 + 1 by omega)).drew)
  have HB3 := hide (below_drew (below_setAll HB2.out (w.heap.size + 1 + 1) (.bool false) (.slice bk (nk - (hf + 1)) (ck - (hf + 1))) (.slice none 0 0) (.slice bi (ni - (hf + 1)) (ci - (hf + 1))) (.int .i64 x) (by omega) HB2.out.size))
  clear k0 k1 k2 k3 k4 f0 f1 f2 f3 f4 j0 j1 j2 j3 j4 g0 g1 g2 g3 g4 l0 l1 l2
  go_upto_region 9 with fail
  generalize hW : (((((W2.setCell ⟨w.heap.size + 1 + 1, 0, none⟩ (.bool false)).setCell ⟨w.heap.size + 1 + 1, 1, none⟩ (.slice bk (nk - (hf + 1)) (ck - (hf + 1)))).setCell ⟨w.heap.size + 1 + 1, 2, none⟩ (.slice none 0 0)).setCell ⟨w.heap.size + 1 + 1, 3, none⟩ (.slice bi (ni - (hf + 1)) (ci - (hf + 1)))).setCell ⟨w.heap.size + 1 + 1, 4, none⟩ (.int .i64 x)).drew = W3 at *
  clear hW
  obtain ⟨gk, ok, ka, kc, hak, hkc, hks, _, _⟩ := H.out.keys.get hf (by rw [HNK.out]; exact hlt)
  subst hak
  have HCK : Hid (∀ W, Below w.heap.size w W → w.heap.size + 1 + 1 + 1 ≤ W.heap.size → Calls Try.prog 29 #[.slice ka (N.keys.getD hf []).length kc] W fun e w' => ∃ v', e = .returned v' ∧ Below W.heap.size W w' ∧ w'.ownsRow (w.heap.size + 1 + 1 + 1) 5 1 v' (N.keys.getD hf []).length (secCells (N.keys.getD hf []))) := fun W hW hr => (clone_any (hks.belowW hW) (HF.out.key _ (by have := HNK.out; simp [this, hlt]))).mono (fun e w' ⟨v', q1, q2⟩ => ⟨v', q1, q2.below, owns_mono q2.own hr⟩)
  have st : SpSt w W3 (.slice (some ⟨gk, ok, none⟩) nk ck) (.bool false) (.slice (some ⟨gk, ok, none⟩) hf ck) (.slice none 0 0) (.slice ai (hf + 1) ci) (.int .i64 0) (.bool false) (.slice bk (nk - (hf + 1)) (ck - (hf + 1))) (.slice none 0 0) (.slice bi (ni - (hf + 1)) (ci - (hf + 1))) (.int .i64 x) gk (ok + hf) (.slice ka (N.keys.getD hf []).length kc) := ⟨HB3.out, ⟨_, _, _, _, HX3.out⟩, HY3.out, HZ3.out, World.block_lt_of_cell? w _ hkc, (HB3.out.cell (World.block_lt_of_cell? w _ hkc)).trans hkc⟩
  generalize hkey : N.keys.getD hf [] = key at *
  have HKEY := hide hkey
  clear hkey hks hkc
  have HNL : Hid (N.left = ⟨false, N.keys.take hf, [], N.kids.take (hf + 1), 0⟩) := by rw [Hid, Nd.left, HHF.out, HLF.out]; rfl
  have HNK2 : Hid (N.key = key) := by rw [Hid, Nd.key, HHF.out]; exact HKEY.out
  have HCL : Hid (∀ W, Below w.heap.size w W → w.heap.size + 1 + 1 + 1 ≤ W.heap.size → Calls Try.prog 26 #[.agg #[.bool false, .slice (some ⟨gk, ok, none⟩) hf ck, .slice none 0 0, .slice ai (hf + 1) ci, .int .i64 0]] W fun e w' => ∃ lk lv li, e = .returned (.agg #[.bool false, lk, lv, li, .int .i64 0]) ∧ Below W.heap.size W w' ∧ NdOwn (w.heap.size + 1 + 1 + 1) w' ⟨false, N.keys.take hf, [], N.kids.take (hf + 1), 0⟩ lk lv li) := fun W hW hr => (copied_any (N := ⟨false, N.keys.take hf, [], N.kids.take (hf + 1), 0⟩) ⟨(H.out.keys.to hf (by rw [HNK.out]; omega)).belowW hW, (TsAt.nil w).belowW hW, (H.out.kids.to (hf + 1) (by have := HVL.out; have := HNV.out; omega)).belowW hW⟩ (fits_part HF.out false hf 0 0 _ 0 _ _ (.inl rfl) (.inl rfl) (by simp; omega))).mono (fun e w' ⟨p, q, r, e1, e2, e3⟩ => ⟨p, q, r, e1, e2, e3.mono hr⟩)
  have HNR : Hid (N.right = ⟨false, N.keys.drop (hf + 1), [], N.kids.drop (hf + 1), x⟩) := by rw [Hid, Nd.right, HHF.out, HLF.out, HX.out]; rfl
  have HCR : Hid (∀ W, Below w.heap.size w W → w.heap.size + 1 + 1 + 1 ≤ W.heap.size → Calls Try.prog 26 #[.agg #[.bool false, .slice bk (nk - (hf + 1)) (ck - (hf + 1)), .slice none 0 0, .slice bi (ni - (hf + 1)) (ci - (hf + 1)), .int .i64 x]] W fun e w' => ∃ rk rv ri, e = .returned (.agg #[.bool false, rk, rv, ri, .int .i64 x]) ∧ Below W.heap.size W w' ∧ NdOwn (w.heap.size + 1 + 1 + 1) w' ⟨false, N.keys.drop (hf + 1), [], N.kids.drop (hf + 1), x⟩ rk rv ri) := fun W hW hr => (copied_any (N := ⟨false, N.keys.drop (hf + 1), [], N.kids.drop (hf + 1), x⟩) ⟨HKD.out.belowW hW, (TsAt.nil w).belowW hW, HVD.out.belowW hW⟩ (fits_part HF.out false (hf + 1) 0 0 _ x _ _ (.inr rfl) (.inl rfl) (by simp))).mono (fun e w' ⟨p, q, r, e1, e2, e3⟩ => ⟨p, q, r, e1, e2, e3.mono hr⟩)
  refine wp_region_held_drew (S := fun w' => w'.cell? ⟨w.heap.size, 1, none⟩ = some (.slice (some ⟨gk, ok, none⟩) nk ck) ∧ w'.cell? ⟨gk, ok + hf, none⟩ = some (.slice ka key.length kc)) (by kernel_rfl) ⟨st.s1, st.s2⟩ (fun hH => ?_)
  refine take_to 2 67 (.pointer (some ⟨w.heap.size, 1, none⟩)) rfl (by kernel_rfl) (by kernel_rfl) (by kernel_rfl) (fun _ _ _ h => h) rfl (by rfl) (fun w hw => by rfl) hH ?_
  simp only [Act.put, List.setIfInBounds_toArray, List.set_cons_zero, List.set_cons_succ]
  refine take_to 3 68 (.slice (some ⟨gk, ok, none⟩) nk ck) rfl (by kernel_rfl) (by kernel_rfl) (by kernel_rfl) (fun _ _ _ h => h) rfl (by rfl) (fun w hw => op_load _ _ 22 (.tmp 67) rfl (.pointer (some ⟨_, 1, none⟩)) _ rfl (run_loadAny w _ 1 22 _ Try.isAgg22 hw.1)) hH ?_
  simp only [Act.put, List.setIfInBounds_toArray, List.set_cons_zero, List.set_cons_succ]
  refine take_to 4 69 (.int .i64 (hf : Int)) rfl (by kernel_rfl) (by kernel_rfl) (by kernel_rfl) (fun _ _ _ h => h) rfl (by rfl) (fun w hw => by rfl) hH ?_
  simp only [Act.put, List.setIfInBounds_toArray, List.set_cons_zero, List.set_cons_succ]
  refine take_to 5 70 (.pointer (some ⟨gk, ok + hf, none⟩)) rfl (by kernel_rfl) (by kernel_rfl) (by kernel_rfl) (fun _ _ _ h => h) rfl (by rfl) (fun w hw => op_index _ _ 22 (.tmp 68) (.tmp 69) rfl _ _ _ rfl rfl (run_index22 w gk ok nk ck hf hlt)) hH ?_
  simp only [Act.put, List.setIfInBounds_toArray, List.set_cons_zero, List.set_cons_succ]
  refine take_to 6 71 (.slice ka key.length kc) rfl (by kernel_rfl) (by kernel_rfl) (by kernel_rfl) (fun _ _ _ h => h) rfl (by rfl) (fun w hw => op_load _ _ 28 (.tmp 70) rfl (.pointer (some ⟨_, _, none⟩)) _ rfl (run_loadAny w _ _ 28 _ Try.isAgg28 hw.2)) hH ?_
  simp only [Act.put, List.setIfInBounds_toArray, List.set_cons_zero, List.set_cons_succ]
  have st0 := st.drewN 1
  clear hH
  refine wpAnyH_all (rs := [0, 8]) (by kernel_rfl) (by simp) ?_
  intro n hn
  rcases (by simpa using hn : n = 0 ∨ n = 8) with rfl | rfl
  · refine op_to 65 (.agg #[.bool false, .slice (some ⟨gk, ok, none⟩) hf ck, .slice none 0 0, .slice ai (hf + 1) ci, .int .i64 0]) (W3.drewN 1) rfl rfl (by rfl) (op_load _ _ 26 (.tmp 2) rfl (.pointer (some ⟨_, 0, none⟩)) _ rfl (load26 st0.y)) ⟨⟨st0.s1, st0.s2⟩, ?_⟩
    simp only [Act.put, List.setIfInBounds_toArray, List.set_cons_zero, List.set_cons_succ]
    refine wpAnyH_all (rs := [1, 8]) (by kernel_rfl) (by simp) ?_
    intro n hn
    rcases (by simpa using hn : n = 1 ∨ n = 8) with rfl | rfl
    · refine op_call1_to 66 26 rfl rfl (by rfl) (.tmp 65) _ rfl _ rfl Try.enters26 (HCL.out (W3.drewN 1) st0.below st0.room) ?_
      rintro e U31 ⟨lk, lv, li, rfl, hb, ho⟩
      have st31 := st0.next hb
      have ho131 := ho
      clear hb ho
      refine ⟨_, rfl, ⟨st31.s1, st31.s2⟩, ?_⟩
      simp only [Act.put, List.setIfInBounds_toArray, List.set_cons_zero, List.set_cons_succ]
      refine wpAnyH_all (rs := [7, 8]) (by kernel_rfl) (by simp) ?_
      intro n hn
      rcases (by simpa using hn : n = 7 ∨ n = 8) with rfl | rfl
      · refine op_call1_to 72 29 rfl rfl (by rfl) (.tmp 71) _ rfl _ rfl Try.enters29 (HCK.out U31 st31.below st31.room) ?_
        rintro e U32 ⟨uk, rfl, hb, ho⟩
        have st32 := st31.next hb
        have ho132 := ho131.belowW hb
        have ho732 := ho
        clear hb ho
        refine ⟨_, rfl, ⟨st32.s1, st32.s2⟩, ?_⟩
        simp only [Act.put, List.setIfInBounds_toArray, List.set_cons_zero, List.set_cons_succ]
        refine step_to 8 73 (.agg #[.bool false, .slice bk (nk - (hf + 1)) (ck - (hf + 1)), .slice none 0 0, .slice bi (ni - (hf + 1)) (ci - (hf + 1)), .int .i64 x]) U32 rfl (by kernel_rfl) rfl (by rfl) (op_load _ _ 26 (.tmp 4) rfl (.pointer (some ⟨_, 0, none⟩)) _ rfl (load26 st32.z)) ⟨st32.s1, st32.s2⟩ ?_
        simp only [Act.put, List.setIfInBounds_toArray, List.set_cons_zero, List.set_cons_succ]
        refine step_call1_to 9 74 26 rfl (by kernel_rfl) rfl (by rfl) (.tmp 73) _ rfl _ rfl Try.enters26 (HCR.out U32 st32.below st32.room) ?_
        rintro e U34 ⟨rk, rv, ri, rfl, hb, ho⟩
        have st34 := st32.next hb
        have ho134 := ho132.belowW hb
        have ho734 := owns_below ho732 hb (Nat.le_refl _)
        have ho934 := ho
        clear hb ho
        refine ⟨_, rfl, ⟨st34.s1, st34.s2⟩, ?_⟩
        simp only [Act.put, List.setIfInBounds_toArray, List.set_cons_zero, List.set_cons_succ]
        obtain ⟨q0, q1, q2, qs1, qs2, qs3, qs4, q3⟩ := split_tail st34 ho134 ho734 ho934
        refine step_store_to 10 (U34.setRow (w.heap.size + 1) #[.bool false, lk, lv, li, .int .i64 0]) rfl (by kernel_rfl) rfl (by rfl) 26 (.tmp 2) (.tmp 66) rfl (.pointer (some ⟨w.heap.size + 1, 0, none⟩)) (.agg #[.bool false, lk, lv, li, .int .i64 0]) rfl rfl (store26 st34.y _ _ _ _ _ (by rfl) (owns_one ho134.keys) (owns_one ho134.vals) (one_of_owns ho134.kids) (by rfl)) ⟨qs1, qs2⟩ ?_
        refine step_to 11 3 uk (U34.setRow (w.heap.size + 1) #[.bool false, lk, lv, li, .int .i64 0]) rfl (by kernel_rfl) rfl (by rfl) (by rfl) ⟨qs1, qs2⟩ ?_
        simp only [Act.put, List.setIfInBounds_toArray, List.set_cons_zero, List.set_cons_succ]
        refine step_store_to 12 ((U34.setRow (w.heap.size + 1) #[.bool false, lk, lv, li, .int .i64 0]).setRow (w.heap.size + 1 + 1) #[.bool false, rk, rv, ri, .int .i64 x]) rfl (by kernel_rfl) rfl (by rfl) 26 (.tmp 4) (.tmp 74) rfl (.pointer (some ⟨w.heap.size + 1 + 1, 0, none⟩)) (.agg #[.bool false, rk, rv, ri, .int .i64 x]) rfl rfl (store26 q0 _ _ _ _ _ (by rfl) (owns_one ho934.keys) (owns_one ho934.vals) (one_of_owns ho934.kids) (by rfl)) ⟨qs3, qs4⟩ ?_
        refine wpAnyH_done (by kernel_rfl) ?_ _
        go_wp2
        refine bodyPost_ret (v := .tuple #[.agg #[.bool false, lk, lv, li, .int .i64 0], uk, .agg #[.bool false, rk, rv, ri, .int .i64 x]]) (results_ctc Try.results13 _ _ (w.heap.size + 1) (w.heap.size + 1 + 1) 26 26 #[.bool false, lk, lv, li, .int .i64 0] #[.bool false, rk, rv, ri, .int .i64 x] (0, 0) (0, 0) _ rfl q1 rfl q2 Try.underlying26 rfl Try.size26 Try.size26) rfl ?_
        rw [HNL.out, HNK2.out, HNR.out]
        exact q3
      · refine op_to 73 (.agg #[.bool false, .slice bk (nk - (hf + 1)) (ck - (hf + 1)), .slice none 0 0, .slice bi (ni - (hf + 1)) (ci - (hf + 1)), .int .i64 x]) U31 rfl rfl (by rfl) (op_load _ _ 26 (.tmp 4) rfl (.pointer (some ⟨_, 0, none⟩)) _ rfl (load26 st31.z)) ⟨⟨st31.s1, st31.s2⟩, ?_⟩
        simp only [Act.put, List.setIfInBounds_toArray, List.set_cons_zero, List.set_cons_succ]
        refine step_call1_to 7 72 29 rfl (by kernel_rfl) rfl (by rfl) (.tmp 71) _ rfl _ rfl Try.enters29 (HCK.out U31 st31.below st31.room) ?_
        rintro e U39 ⟨uk, rfl, hb, ho⟩
        have st39 := st31.next hb
        have ho139 := ho131.belowW hb
        have ho739 := ho
        clear hb ho
        refine ⟨_, rfl, ⟨st39.s1, st39.s2⟩, ?_⟩
        simp only [Act.put, List.setIfInBounds_toArray, List.set_cons_zero, List.set_cons_succ]
        refine step_call1_to 9 74 26 rfl (by kernel_rfl) rfl (by rfl) (.tmp 73) _ rfl _ rfl Try.enters26 (HCR.out U39 st39.below st39.room) ?_
        rintro e U40 ⟨rk, rv, ri, rfl, hb, ho⟩
        have st40 := st39.next hb
        have ho140 := ho139.belowW hb
        have ho740 := owns_below ho739 hb (Nat.le_refl _)
        have ho940 := ho
        clear hb ho
        refine ⟨_, rfl, ⟨st40.s1, st40.s2⟩, ?_⟩
        simp only [Act.put, List.setIfInBounds_toArray, List.set_cons_zero, List.set_cons_succ]
        obtain ⟨q0, q1, q2, qs1, qs2, qs3, qs4, q3⟩ := split_tail st40 ho140 ho740 ho940
        refine step_store_to 10 (U40.setRow (w.heap.size + 1) #[.bool false, lk, lv, li, .int .i64 0]) rfl (by kernel_rfl) rfl (by rfl) 26 (.tmp 2) (.tmp 66) rfl (.pointer (some ⟨w.heap.size + 1, 0, none⟩)) (.agg #[.bool false, lk, lv, li, .int .i64 0]) rfl rfl (store26 st40.y _ _ _ _ _ (by rfl) (owns_one ho140.keys) (owns_one ho140.vals) (one_of_owns ho140.kids) (by rfl)) ⟨qs1, qs2⟩ ?_
        refine step_to 11 3 uk (U40.setRow (w.heap.size + 1) #[.bool false, lk, lv, li, .int .i64 0]) rfl (by kernel_rfl) rfl (by rfl) (by rfl) ⟨qs1, qs2⟩ ?_
        simp only [Act.put, List.setIfInBounds_toArray, List.set_cons_zero, List.set_cons_succ]
        refine step_store_to 12 ((U40.setRow (w.heap.size + 1) #[.bool false, lk, lv, li, .int .i64 0]).setRow (w.heap.size + 1 + 1) #[.bool false, rk, rv, ri, .int .i64 x]) rfl (by kernel_rfl) rfl (by rfl) 26 (.tmp 4) (.tmp 74) rfl (.pointer (some ⟨w.heap.size + 1 + 1, 0, none⟩)) (.agg #[.bool false, rk, rv, ri, .int .i64 x]) rfl rfl (store26 q0 _ _ _ _ _ (by rfl) (owns_one ho940.keys) (owns_one ho940.vals) (one_of_owns ho940.kids) (by rfl)) ⟨qs3, qs4⟩ ?_
        refine wpAnyH_done (by kernel_rfl) ?_ _
        go_wp2
        refine bodyPost_ret (v := .tuple #[.agg #[.bool false, lk, lv, li, .int .i64 0], uk, .agg #[.bool false, rk, rv, ri, .int .i64 x]]) (results_ctc Try.results13 _ _ (w.heap.size + 1) (w.heap.size + 1 + 1) 26 26 #[.bool false, lk, lv, li, .int .i64 0] #[.bool false, rk, rv, ri, .int .i64 x] (0, 0) (0, 0) _ rfl q1 rfl q2 Try.underlying26 rfl Try.size26 Try.size26) rfl ?_
        rw [HNL.out, HNK2.out, HNR.out]
        exact q3
    · refine op_to 73 (.agg #[.bool false, .slice bk (nk - (hf + 1)) (ck - (hf + 1)), .slice none 0 0, .slice bi (ni - (hf + 1)) (ci - (hf + 1)), .int .i64 x]) (W3.drewN 1) rfl rfl (by rfl) (op_load _ _ 26 (.tmp 4) rfl (.pointer (some ⟨_, 0, none⟩)) _ rfl (load26 st0.z)) ⟨⟨st0.s1, st0.s2⟩, ?_⟩
      simp only [Act.put, List.setIfInBounds_toArray, List.set_cons_zero, List.set_cons_succ]
      refine step_call1_to 1 66 26 rfl (by kernel_rfl) rfl (by rfl) (.tmp 65) _ rfl _ rfl Try.enters26 (HCL.out (W3.drewN 1) st0.below st0.room) ?_
      rintro e U45 ⟨lk, lv, li, rfl, hb, ho⟩
      have st45 := st0.next hb
      have ho145 := ho
      clear hb ho
      refine ⟨_, rfl, ⟨st45.s1, st45.s2⟩, ?_⟩
      simp only [Act.put, List.setIfInBounds_toArray, List.set_cons_zero, List.set_cons_succ]
      refine step_call1_to 7 72 29 rfl (by kernel_rfl) rfl (by rfl) (.tmp 71) _ rfl _ rfl Try.enters29 (HCK.out U45 st45.below st45.room) ?_
      rintro e U46 ⟨uk, rfl, hb, ho⟩
      have st46 := st45.next hb
      have ho146 := ho145.belowW hb
      have ho746 := ho
      clear hb ho
      refine ⟨_, rfl, ⟨st46.s1, st46.s2⟩, ?_⟩
      simp only [Act.put, List.setIfInBounds_toArray, List.set_cons_zero, List.set_cons_succ]
      refine step_call1_to 9 74 26 rfl (by kernel_rfl) rfl (by rfl) (.tmp 73) _ rfl _ rfl Try.enters26 (HCR.out U46 st46.below st46.room) ?_
      rintro e U47 ⟨rk, rv, ri, rfl, hb, ho⟩
      have st47 := st46.next hb
      have ho147 := ho146.belowW hb
      have ho747 := owns_below ho746 hb (Nat.le_refl _)
      have ho947 := ho
      clear hb ho
      refine ⟨_, rfl, ⟨st47.s1, st47.s2⟩, ?_⟩
      simp only [Act.put, List.setIfInBounds_toArray, List.set_cons_zero, List.set_cons_succ]
      obtain ⟨q0, q1, q2, qs1, qs2, qs3, qs4, q3⟩ := split_tail st47 ho147 ho747 ho947
      refine step_store_to 10 (U47.setRow (w.heap.size + 1) #[.bool false, lk, lv, li, .int .i64 0]) rfl (by kernel_rfl) rfl (by rfl) 26 (.tmp 2) (.tmp 66) rfl (.pointer (some ⟨w.heap.size + 1, 0, none⟩)) (.agg #[.bool false, lk, lv, li, .int .i64 0]) rfl rfl (store26 st47.y _ _ _ _ _ (by rfl) (owns_one ho147.keys) (owns_one ho147.vals) (one_of_owns ho147.kids) (by rfl)) ⟨qs1, qs2⟩ ?_
      refine step_to 11 3 uk (U47.setRow (w.heap.size + 1) #[.bool false, lk, lv, li, .int .i64 0]) rfl (by kernel_rfl) rfl (by rfl) (by rfl) ⟨qs1, qs2⟩ ?_
      simp only [Act.put, List.setIfInBounds_toArray, List.set_cons_zero, List.set_cons_succ]
      refine step_store_to 12 ((U47.setRow (w.heap.size + 1) #[.bool false, lk, lv, li, .int .i64 0]).setRow (w.heap.size + 1 + 1) #[.bool false, rk, rv, ri, .int .i64 x]) rfl (by kernel_rfl) rfl (by rfl) 26 (.tmp 4) (.tmp 74) rfl (.pointer (some ⟨w.heap.size + 1 + 1, 0, none⟩)) (.agg #[.bool false, rk, rv, ri, .int .i64 x]) rfl rfl (store26 q0 _ _ _ _ _ (by rfl) (owns_one ho947.keys) (owns_one ho947.vals) (one_of_owns ho947.kids) (by rfl)) ⟨qs3, qs4⟩ ?_
      refine wpAnyH_done (by kernel_rfl) ?_ _
      go_wp2
      refine bodyPost_ret (v := .tuple #[.agg #[.bool false, lk, lv, li, .int .i64 0], uk, .agg #[.bool false, rk, rv, ri, .int .i64 x]]) (results_ctc Try.results13 _ _ (w.heap.size + 1) (w.heap.size + 1 + 1) 26 26 #[.bool false, lk, lv, li, .int .i64 0] #[.bool false, rk, rv, ri, .int .i64 x] (0, 0) (0, 0) _ rfl q1 rfl q2 Try.underlying26 rfl Try.size26 Try.size26) rfl ?_
      rw [HNL.out, HNK2.out, HNR.out]
      exact q3
  · refine op_to 73 (.agg #[.bool false, .slice bk (nk - (hf + 1)) (ck - (hf + 1)), .slice none 0 0, .slice bi (ni - (hf + 1)) (ci - (hf + 1)), .int .i64 x]) (W3.drewN 1) rfl rfl (by rfl) (op_load _ _ 26 (.tmp 4) rfl (.pointer (some ⟨_, 0, none⟩)) _ rfl (load26 st0.z)) ⟨⟨st0.s1, st0.s2⟩, ?_⟩
    simp only [Act.put, List.setIfInBounds_toArray, List.set_cons_zero, List.set_cons_succ]
    refine step_to 0 65 (.agg #[.bool false, .slice (some ⟨gk, ok, none⟩) hf ck, .slice none 0 0, .slice ai (hf + 1) ci, .int .i64 0]) (W3.drewN 1) rfl (by kernel_rfl) rfl (by rfl) (op_load _ _ 26 (.tmp 2) rfl (.pointer (some ⟨_, 0, none⟩)) _ rfl (load26 st0.y)) ⟨st0.s1, st0.s2⟩ ?_
    simp only [Act.put, List.setIfInBounds_toArray, List.set_cons_zero, List.set_cons_succ]
    refine step_call1_to 1 66 26 rfl (by kernel_rfl) rfl (by rfl) (.tmp 65) _ rfl _ rfl Try.enters26 (HCL.out (W3.drewN 1) st0.below st0.room) ?_
    rintro e U53 ⟨lk, lv, li, rfl, hb, ho⟩
    have st53 := st0.next hb
    have ho153 := ho
    clear hb ho
    refine ⟨_, rfl, ⟨st53.s1, st53.s2⟩, ?_⟩
    simp only [Act.put, List.setIfInBounds_toArray, List.set_cons_zero, List.set_cons_succ]
    refine step_call1_to 7 72 29 rfl (by kernel_rfl) rfl (by rfl) (.tmp 71) _ rfl _ rfl Try.enters29 (HCK.out U53 st53.below st53.room) ?_
    rintro e U54 ⟨uk, rfl, hb, ho⟩
    have st54 := st53.next hb
    have ho154 := ho153.belowW hb
    have ho754 := ho
    clear hb ho
    refine ⟨_, rfl, ⟨st54.s1, st54.s2⟩, ?_⟩
    simp only [Act.put, List.setIfInBounds_toArray, List.set_cons_zero, List.set_cons_succ]
    refine step_call1_to 9 74 26 rfl (by kernel_rfl) rfl (by rfl) (.tmp 73) _ rfl _ rfl Try.enters26 (HCR.out U54 st54.below st54.room) ?_
    rintro e U55 ⟨rk, rv, ri, rfl, hb, ho⟩
    have st55 := st54.next hb
    have ho155 := ho154.belowW hb
    have ho755 := owns_below ho754 hb (Nat.le_refl _)
    have ho955 := ho
    clear hb ho
    refine ⟨_, rfl, ⟨st55.s1, st55.s2⟩, ?_⟩
    simp only [Act.put, List.setIfInBounds_toArray, List.set_cons_zero, List.set_cons_succ]
    obtain ⟨q0, q1, q2, qs1, qs2, qs3, qs4, q3⟩ := split_tail st55 ho155 ho755 ho955
    refine step_store_to 10 (U55.setRow (w.heap.size + 1) #[.bool false, lk, lv, li, .int .i64 0]) rfl (by kernel_rfl) rfl (by rfl) 26 (.tmp 2) (.tmp 66) rfl (.pointer (some ⟨w.heap.size + 1, 0, none⟩)) (.agg #[.bool false, lk, lv, li, .int .i64 0]) rfl rfl (store26 st55.y _ _ _ _ _ (by rfl) (owns_one ho155.keys) (owns_one ho155.vals) (one_of_owns ho155.kids) (by rfl)) ⟨qs1, qs2⟩ ?_
    refine step_to 11 3 uk (U55.setRow (w.heap.size + 1) #[.bool false, lk, lv, li, .int .i64 0]) rfl (by kernel_rfl) rfl (by rfl) (by rfl) ⟨qs1, qs2⟩ ?_
    simp only [Act.put, List.setIfInBounds_toArray, List.set_cons_zero, List.set_cons_succ]
    refine step_store_to 12 ((U55.setRow (w.heap.size + 1) #[.bool false, lk, lv, li, .int .i64 0]).setRow (w.heap.size + 1 + 1) #[.bool false, rk, rv, ri, .int .i64 x]) rfl (by kernel_rfl) rfl (by rfl) 26 (.tmp 4) (.tmp 74) rfl (.pointer (some ⟨w.heap.size + 1 + 1, 0, none⟩)) (.agg #[.bool false, rk, rv, ri, .int .i64 x]) rfl rfl (store26 q0 _ _ _ _ _ (by rfl) (owns_one ho955.keys) (owns_one ho955.vals) (one_of_owns ho955.kids) (by rfl)) ⟨qs3, qs4⟩ ?_
    refine wpAnyH_done (by kernel_rfl) ?_ _
    go_wp2
    refine bodyPost_ret (v := .tuple #[.agg #[.bool false, lk, lv, li, .int .i64 0], uk, .agg #[.bool false, rk, rv, ri, .int .i64 x]]) (results_ctc Try.results13 _ _ (w.heap.size + 1) (w.heap.size + 1 + 1) 26 26 #[.bool false, lk, lv, li, .int .i64 0] #[.bool false, rk, rv, ri, .int .i64 x] (0, 0) (0, 0) _ rfl q1 rfl q2 Try.underlying26 rfl Try.size26 Try.size26) rfl ?_
    rw [HNL.out, HNK2.out, HNR.out]
    exact q3
end Go.Proofs.Ytjcobejaldfibaa
