/- Merge of inner nodes, up to the bound. -/
import Derived.Test.YtjcobejaldfibaaBig
namespace Go.Proofs.Ytjcobejaldfibaa
open Go.RowKit
set_option linter.unusedVariables false
set_option linter.unusedSimpArgs false

set_option maxHeartbeats 1000000 in
theorem merge_innerB {w : World} {L R : Nd} {vk vv vi uk uv ui kv : Value} {k : List UInt8} (hL : NdAt w L vk vv vi) (hR : NdAt w R uk uv ui) (hfL : Fits L) (hfR : Fits R) (hfM : FitsB (mergeN L k R)) (hk : Sl w kv k) (hl : L.leaf = false) (hr : R.leaf = false) (hmL : L.matched = true) (hmR : R.matched = true) :
    Calls Try.prog 14 #[.agg #[.bool L.leaf, vk, vv, vi, .int .i64 L.next], kv, .agg #[.bool R.leaf, uk, uv, ui, .int .i64 R.next]] w fun e w' => ∃ ok ov oi, e = .returned (.agg #[.bool (mergeN L k R).leaf, ok, ov, oi, .int .i64 (mergeN L k R).next]) ∧ Below w.heap.size w w' ∧ NdOwn w.heap.size w' (mergeN L k R) ok ov oi := by
  have HML : Hid (∀ W, Below w.heap.size w W → Calls Try.prog 27 #[.agg #[.bool false, vk, vv, vi, .int .i64 L.next]] W fun e w' => e = .returned (.bool true) ∧ Below W.heap.size W w') := fun W hW => by
    have := matched_any (hL.belowW hW) hfL
    rw [hmL, hl] at this
    exact this
  have HMR : Hid (∀ W, Below w.heap.size w W → Calls Try.prog 27 #[.agg #[.bool false, uk, uv, ui, .int .i64 R.next]] W fun e w' => e = .returned (.bool true) ∧ Below W.heap.size W w') := fun W hW => by
    have := matched_any (hR.belowW hW) hfR
    rw [hmR, hr] at this
    exact this
  have HM : Hid (mergeN L k R = ⟨false, L.keys ++ ([k] ++ R.keys), L.vals ++ R.vals, L.kids ++ R.kids, R.next⟩) := by unfold Hid mergeN; rw [hl]; rfl
  have HMX : Hid ((mergeN L k R).leaf = false ∧ (mergeN L k R).next = R.next) := by rw [HM.out]; exact ⟨rfl, rfl⟩
  have f1 : 24 * (L.keys.length + (([k] : List (List UInt8)).length + R.keys.length)) ≤ 281474976710656 := by have := hfM.keys; rw [HM.out] at this; simp at this ⊢; omega
  have f2 : 24 * (L.vals.length + R.vals.length) ≤ 281474976710656 := by have := hfM.vals; rw [HM.out] at this; simpa using this
  have f3 : 8 * (L.kids.length + R.kids.length) ≤ 140737488355328 := by have := hfM.kids; rw [HM.out] at this; simpa using this
  have HC24 : Hid (∀ (W : World) (a b c : Value), Below w.heap.size w W → w.heap.size + 1 + 1 + 1 ≤ W.heap.size → NdAt W ⟨false, L.keys ++ ([k] ++ R.keys), L.vals ++ R.vals, L.kids ++ R.kids, R.next⟩ a b c → Calls Try.prog 26 #[.agg #[.bool false, a, b, c, .int .i64 R.next]] W fun e w' => ∃ ok ov oi, e = .returned (.agg #[.bool false, ok, ov, oi, .int .i64 R.next]) ∧ Below W.heap.size W w' ∧ NdOwn (w.heap.size + 1 + 1 + 1) w' (mergeN L k R) ok ov oi) := fun W a b c hW hro hA => by
    rw [HM.out] at hfM ⊢
    exact (copied_big hA hfM).mono (fun e w' ⟨p, q, r, e1, e2, e3⟩ => ⟨p, q, r, e1, e2, e3.mono hro⟩)
  obtain ⟨ak, ck, rfl, hk1, hk2⟩ := hL.keys.len
  obtain ⟨av, cv, rfl, hv1, hv2⟩ := hL.vals.len
  obtain ⟨ai, ci, rfl, hi1, hi2⟩ := hL.kids.len
  obtain ⟨bk, dk, rfl, hk1', hk2'⟩ := hR.keys.len
  obtain ⟨bv, dv, rfl, hv1', hv2'⟩ := hR.vals.len
  obtain ⟨bi, di, rfl, hi1', hi2'⟩ := hR.kids.len
  obtain ⟨ac, cc, rfl, hc1, hc2⟩ := hk.len
  have HK := hide hk
  have HKEY : Hid (∀ (W3 : World) (q : Nat), Below w.heap.size w W3 → W3.heap[q]? = some (.cells #[.slice ac k.length cc] 28 (0, 0)) → ∀ (W : World) (g : Nat), Below W3.heap.size W3 W → W.heap[g]? = some (.cells #[.slice ak L.keys.length ck, .slice (some ⟨q, 0, none⟩) 1 1, .slice bk R.keys.length dk] 22 (0, 0)) → Calls Try.prog 31 #[.slice (some ⟨g, 0, none⟩) 3 3] W fun e w' => ∃ v n c, e = .returned (.slice v n c) ∧ Below W.heap.size W w' ∧ TsAt w' (.slice v n c) (L.keys ++ ([k] ++ R.keys))) := fun W3 q hW3 hq W g hW hg => concat3B (hL.keys.belowW hW3) ⟨[.slice ac k.length cc], ⟨hk.belowW hW3, trivial⟩, ⟨_, 1, rfl, Nat.le_refl _, by simp only [maxLen]; omega, fun _ => ⟨q, 0, rfl, fun j u hu => by rw [Nat.zero_add, cell_row hq]; simpa using hu⟩⟩⟩ (hR.keys.belowW hW3) hW hg f1
  have HC14 : Hid (∀ (W : World) (g : Nat), Below w.heap.size w W → W.heap[g]? = some (.cells #[.slice av L.vals.length cv, .slice bv R.vals.length dv] 22 (0, 0)) → Calls Try.prog 31 #[.slice (some ⟨g, 0, none⟩) 2 2] W fun e w' => ∃ v n c, e = .returned (.slice v n c) ∧ Below W.heap.size W w' ∧ TsAt w' (.slice v n c) (L.vals ++ R.vals)) := fun W g hW hg => concat2B hL.vals hR.vals hW hg f2
  have HC20 : Hid (∀ (W : World) (g : Nat), Below w.heap.size w W → W.heap[g]? = some (.cells #[.slice ai L.kids.length ci, .slice bi R.kids.length di] 24 (0, 0)) → Calls Try.prog 32 #[.slice (some ⟨g, 0, none⟩) 2 2] W fun e w' => ∃ v n c, e = .returned (.slice v n c) ∧ Below W.heap.size W w' ∧ InAt w' (.slice v n c) (L.kids ++ R.kids)) := fun W g hW hg => concat2I hL.kids hR.kids hW hg f3
  have HST := hide (mgSt_new w (.bool false) (.slice ak L.keys.length ck) (.slice av L.vals.length cv) (.slice ai L.kids.length ci) (.int .i64 L.next) (.bool false) (.slice bk R.keys.length dk) (.slice bv R.vals.length dv) (.slice bi R.kids.length di) (.int .i64 R.next))
  rw [hl, hr]
  clear hL hR hfL hfR hfM hk hmL hmR hk1 hk2 hv1 hv2 hi1 hi2 hk1' hk2' hv1' hv2' hi1' hi2' f1 f2 f3 hl hr HM
  generalize L.keys.length = nk at *
  generalize L.vals.length = nv at *
  generalize L.kids.length = ni at *
  generalize L.next = lx at *
  generalize R.keys.length = mk at *
  generalize R.vals.length = mv at *
  generalize R.kids.length = mi at *
  generalize R.next = x at *
  go_enter Try.func14, Try.ntmps14
  go_upto_region 1 with fail
  generalize (((w.alloc (.cells #[.bool false, .slice ak nk ck, .slice av nv cv, .slice ai ni ci, .int .i64 lx] 26)).alloc (.cells #[.bool false, .slice bk mk dk, .slice bv mv dv, .slice bi mi di, .int .i64 x] 26)).alloc (.cells #[.bool false, .slice none 0 0, .slice none 0 0, .slice none 0 0, .int .i64 0] 26)) = W0 at *
  obtain ⟨k0, k1, k2, k3, k4, f0, f1, f2, f3, f4⟩ := HST.out.x.cells
  obtain ⟨j0, j1, j2, j3, j4, g0, g1, g2, g3, g4⟩ := HST.out.y.cells
  go_wp2_with fail
  refine (HML.out W0 HST.out.below).mono ?_
  rintro e W1 ⟨rfl, hb1⟩
  have HS1 := hide (HST.out.next hb1)
  clear k0 k1 k2 k3 k4 f0 f1 f2 f3 f4 j0 j1 j2 j3 j4 g0 g1 g2 g3 g4 hb1 HST HML
  obtain ⟨k0, k1, k2, k3, k4, f0, f1, f2, f3, f4⟩ := HS1.out.x.cells
  obtain ⟨j0, j1, j2, j3, j4, g0, g1, g2, g3, g4⟩ := HS1.out.y.cells
  go_wp2_with fail
  refine (HMR.out W1 HS1.out.below).mono ?_
  rintro e W3 ⟨rfl, hb3⟩
  have st := HS1.out.next hb3
  clear k0 k1 k2 k3 k4 f0 f1 f2 f3 f4 j0 j1 j2 j3 j4 g0 g1 g2 g3 g4 hb3 HS1 HMR
  obtain ⟨k0, k1, k2, k3, k4, f0, f1, f2, f3, f4⟩ := st.x.cells
  have hbk := build22_1
  go_upto_region 6 with fail
  clear k0 k1 k2 k3 k4 f0 f1 f2 f3 f4 hbk
  have hal : Below W3.heap.size W3 (W3.alloc (.cells #[.slice ac k.length cc] 28)) := (Below.refl _ _).alloc (Nat.le_refl _) _
  have st := st.next hal
  have hq4 : (W3.alloc (.cells #[.slice ac k.length cc] 28)).heap[W3.heap.size]? = some (.cells #[.slice ac k.length cc] 28 (0, 0)) := heap_alloc_new W3 _
  clear hal
  generalize hqq : W3.heap.size = q at *
  clear hqq
  generalize (W3.alloc (.cells #[.slice ac k.length cc] 28)) = W5 at *
  have HC8 := hide (HKEY.out W5 q st.below hq4)
  have HC14 : Hid (∀ (W : World) (g : Nat), Below W5.heap.size W5 W → W.heap[g]? = some (.cells #[.slice av nv cv, .slice bv mv dv] 22 (0, 0)) → Calls Try.prog 31 #[.slice (some ⟨g, 0, none⟩) 2 2] W fun e w' => ∃ v n c, e = .returned (.slice v n c) ∧ Below W.heap.size W w' ∧ TsAt w' (.slice v n c) (L.vals ++ R.vals)) := fun W g hW hg => HC14.out W g (st.below.trans (hW.mono st.below.size)) hg
  have HC20 : Hid (∀ (W : World) (g : Nat), Below W5.heap.size W5 W → W.heap[g]? = some (.cells #[.slice ai ni ci, .slice bi mi di] 24 (0, 0)) → Calls Try.prog 32 #[.slice (some ⟨g, 0, none⟩) 2 2] W fun e w' => ∃ v n c, e = .returned (.slice v n c) ∧ Below W.heap.size W w' ∧ InAt w' (.slice v n c) (L.kids ++ R.kids)) := fun W g hW hg => HC20.out W g (st.below.trans (hW.mono st.below.size)) hg
  clear HKEY hq4
  generalize W5 = W3 at *
  refine wp_region_held_drew (S := fun w' => BoxC w' (w.heap.size) (.bool false) (.slice ak nk ck) (.slice av nv cv) (.slice ai ni ci) (.int .i64 lx) ∧ BoxC w' (w.heap.size + 1) (.bool false) (.slice bk mk dk) (.slice bv mv dv) (.slice bi mi di) (.int .i64 x)) (by kernel_rfl) ⟨(st.drewN 1).x.cells, (st.drewN 1).y.cells⟩ (fun hH => ?_)
  refine take_to 0 30 (.pointer (some ⟨w.heap.size, 0, none⟩)) rfl (by kernel_rfl) (by kernel_rfl) (by kernel_rfl) (fun _ _ _ h => h) rfl (by rfl) (fun w hw => by rfl) hH ?_
  simp only [Act.put, List.setIfInBounds_toArray, List.set_cons_zero, List.set_cons_succ]
  refine take_to 1 31 (.bool false) rfl (by kernel_rfl) (by kernel_rfl) (by kernel_rfl) (fun _ _ _ h => h) rfl (by rfl) (fun w hw => op_load _ _ 4 (.tmp 30) rfl (.pointer (some ⟨_, 0, none⟩)) _ rfl (run_loadAny w _ 0 4 _ Try.isAgg4 hw.1.k0)) hH ?_
  simp only [Act.put, List.setIfInBounds_toArray, List.set_cons_zero, List.set_cons_succ]
  refine take_to 2 32 (.pointer (some ⟨w.heap.size, 1, none⟩)) rfl (by kernel_rfl) (by kernel_rfl) (by kernel_rfl) (fun _ _ _ h => h) rfl (by rfl) (fun w hw => by rfl) hH ?_
  simp only [Act.put, List.setIfInBounds_toArray, List.set_cons_zero, List.set_cons_succ]
  refine take_to 3 33 (.slice ak nk ck) rfl (by kernel_rfl) (by kernel_rfl) (by kernel_rfl) (fun _ _ _ h => h) rfl (by rfl) (fun w hw => op_load _ _ 22 (.tmp 32) rfl (.pointer (some ⟨_, 1, none⟩)) _ rfl (run_loadAny w _ 1 22 _ Try.isAgg22 hw.1.k1)) hH ?_
  simp only [Act.put, List.setIfInBounds_toArray, List.set_cons_zero, List.set_cons_succ]
  refine take_to 4 34 (.slice (some ⟨q, 0, none⟩) 1 1) rfl (by kernel_rfl) (by kernel_rfl) (by kernel_rfl) (fun _ _ _ h => h) rfl (by rfl) (fun w hw => by rfl) hH ?_
  simp only [Act.put, List.setIfInBounds_toArray, List.set_cons_zero, List.set_cons_succ]
  refine take_to 5 35 (.pointer (some ⟨w.heap.size + 1, 1, none⟩)) rfl (by kernel_rfl) (by kernel_rfl) (by kernel_rfl) (fun _ _ _ h => h) rfl (by rfl) (fun w hw => by rfl) hH ?_
  simp only [Act.put, List.setIfInBounds_toArray, List.set_cons_zero, List.set_cons_succ]
  refine take_to 6 36 (.slice bk mk dk) rfl (by kernel_rfl) (by kernel_rfl) (by kernel_rfl) (fun _ _ _ h => h) rfl (by rfl) (fun w hw => op_load _ _ 22 (.tmp 35) rfl (.pointer (some ⟨_, 1, none⟩)) _ rfl (run_loadAny w _ 1 22 _ Try.isAgg22 hw.2.k1)) hH ?_
  simp only [Act.put, List.setIfInBounds_toArray, List.set_cons_zero, List.set_cons_succ]
  refine take_to 9 39 (.pointer (some ⟨w.heap.size, 2, none⟩)) rfl (by kernel_rfl) (by kernel_rfl) (by kernel_rfl) (fun _ _ _ h => h) rfl (by rfl) (fun w hw => by rfl) hH ?_
  simp only [Act.put, List.setIfInBounds_toArray, List.set_cons_zero, List.set_cons_succ]
  refine take_to 10 40 (.slice av nv cv) rfl (by kernel_rfl) (by kernel_rfl) (by kernel_rfl) (fun _ _ _ h => h) rfl (by rfl) (fun w hw => op_load _ _ 22 (.tmp 39) rfl (.pointer (some ⟨_, 2, none⟩)) _ rfl (run_loadAny w _ 2 22 _ Try.isAgg22 hw.1.k2)) hH ?_
  simp only [Act.put, List.setIfInBounds_toArray, List.set_cons_zero, List.set_cons_succ]
  refine take_to 11 41 (.pointer (some ⟨w.heap.size + 1, 2, none⟩)) rfl (by kernel_rfl) (by kernel_rfl) (by kernel_rfl) (fun _ _ _ h => h) rfl (by rfl) (fun w hw => by rfl) hH ?_
  simp only [Act.put, List.setIfInBounds_toArray, List.set_cons_zero, List.set_cons_succ]
  refine take_to 12 42 (.slice bv mv dv) rfl (by kernel_rfl) (by kernel_rfl) (by kernel_rfl) (fun _ _ _ h => h) rfl (by rfl) (fun w hw => op_load _ _ 22 (.tmp 41) rfl (.pointer (some ⟨_, 2, none⟩)) _ rfl (run_loadAny w _ 2 22 _ Try.isAgg22 hw.2.k2)) hH ?_
  simp only [Act.put, List.setIfInBounds_toArray, List.set_cons_zero, List.set_cons_succ]
  refine take_to 15 45 (.pointer (some ⟨w.heap.size, 3, none⟩)) rfl (by kernel_rfl) (by kernel_rfl) (by kernel_rfl) (fun _ _ _ h => h) rfl (by rfl) (fun w hw => by rfl) hH ?_
  simp only [Act.put, List.setIfInBounds_toArray, List.set_cons_zero, List.set_cons_succ]
  refine take_to 16 46 (.slice ai ni ci) rfl (by kernel_rfl) (by kernel_rfl) (by kernel_rfl) (fun _ _ _ h => h) rfl (by rfl) (fun w hw => op_load _ _ 24 (.tmp 45) rfl (.pointer (some ⟨_, 3, none⟩)) _ rfl (run_loadAny w _ 3 24 _ Try.isAgg24 hw.1.k3)) hH ?_
  simp only [Act.put, List.setIfInBounds_toArray, List.set_cons_zero, List.set_cons_succ]
  refine take_to 17 47 (.pointer (some ⟨w.heap.size + 1, 3, none⟩)) rfl (by kernel_rfl) (by kernel_rfl) (by kernel_rfl) (fun _ _ _ h => h) rfl (by rfl) (fun w hw => by rfl) hH ?_
  simp only [Act.put, List.setIfInBounds_toArray, List.set_cons_zero, List.set_cons_succ]
  refine take_to 18 48 (.slice bi mi di) rfl (by kernel_rfl) (by kernel_rfl) (by kernel_rfl) (fun _ _ _ h => h) rfl (by rfl) (fun w hw => op_load _ _ 24 (.tmp 47) rfl (.pointer (some ⟨_, 3, none⟩)) _ rfl (run_loadAny w _ 3 24 _ Try.isAgg24 hw.2.k3)) hH ?_
  simp only [Act.put, List.setIfInBounds_toArray, List.set_cons_zero, List.set_cons_succ]
  refine take_to 21 51 (.pointer (some ⟨w.heap.size + 1, 4, none⟩)) rfl (by kernel_rfl) (by kernel_rfl) (by kernel_rfl) (fun _ _ _ h => h) rfl (by rfl) (fun w hw => by rfl) hH ?_
  simp only [Act.put, List.setIfInBounds_toArray, List.set_cons_zero, List.set_cons_succ]
  refine take_to 22 52 (.int .i64 x) rfl (by kernel_rfl) (by kernel_rfl) (by kernel_rfl) (fun _ _ _ h => h) rfl (by rfl) (fun w hw => op_load _ _ 3 (.tmp 51) rfl (.pointer (some ⟨_, 4, none⟩)) _ rfl (run_loadAny w _ 4 3 _ Try.isAgg3 hw.2.k4)) hH ?_
  simp only [Act.put, List.setIfInBounds_toArray, List.set_cons_zero, List.set_cons_succ]
  have st0 : MgSt w W3.drew (.bool false) (.slice ak nk ck) (.slice av nv cv) (.slice ai ni ci) (.int .i64 lx) (.bool false) (.slice bk mk dk) (.slice bv mv dv) (.slice bi mi di) (.int .i64 x) := st.drewN 1
  clear hH
  have h40 : Below W3.heap.size W3 W3.drew := below_drewN _ _ 1
  generalize W3.drew = U0 at st0 h40 ⊢
  refine wpAnyH_all (rs := [7, 13, 19]) (by kernel_rfl) (by simp) ?_
  intro n hn
  rcases (by simpa using hn : n = 7 ∨ n = 13 ∨ n = 19) with rfl | rfl | rfl
  · have st1 := st0.next ((Below.refl _ _).alloc (Nat.le_refl _) (.cells #[.slice ak nk ck, .slice (some ⟨q, 0, none⟩) 1 1, .slice bk mk dk] 22))
    have h41 := h40.trans (((Below.refl U0.heap.size U0).alloc (Nat.le_refl _) (.cells #[.slice ak nk ck, .slice (some ⟨q, 0, none⟩) 1 1, .slice bk mk dk] 22)).mono h40.size)
    have hn1 : (U0.alloc (.cells #[.slice ak nk ck, .slice (some ⟨q, 0, none⟩) 1 1, .slice bk mk dk] 22)).heap[U0.heap.size]? = some (.cells #[.slice ak nk ck, .slice (some ⟨q, 0, none⟩) 1 1, .slice bk mk dk] 22 (0, 0)) := heap_alloc_new U0 _
    refine op_to 37 (.slice (some ⟨U0.heap.size, 0, none⟩) 3 3) (U0.alloc (.cells #[.slice ak nk ck, .slice (some ⟨q, 0, none⟩) 1 1, .slice bk mk dk] 22)) rfl rfl (by rfl) (op_buildS3 _ _ 85 (.tmp 33) (.tmp 34) (.tmp 36) rfl (.slice ak nk ck) (.slice (some ⟨q, 0, none⟩) 1 1) (.slice bk mk dk) rfl rfl rfl (build85_3 U0 _ _ _ _ _ _ _ _ _)) ⟨⟨st1.x.cells, st1.y.cells⟩, ?_⟩
    simp only [Act.put, List.setIfInBounds_toArray, List.set_cons_zero, List.set_cons_succ]
    generalize U0.alloc (.cells #[.slice ak nk ck, .slice (some ⟨q, 0, none⟩) 1 1, .slice bk mk dk] 22) = U1 at st1 hn1 h41 ⊢
    generalize U0.heap.size = p1 at hn1 ⊢
    refine wpAnyH_all (rs := [8, 13, 19]) (by kernel_rfl) (by simp) ?_
    intro n hn
    rcases (by simpa using hn : n = 8 ∨ n = 13 ∨ n = 19) with rfl | rfl | rfl
    · refine op_call1_to 38 31 rfl rfl (by rfl) (.tmp 37) _ rfl _ rfl Try.enters31 (HC8.out U1 _ h41 hn1) ?_
      rintro e U2 ⟨ca, can, cac, rfl, hb, ho⟩
      have st2 := st1.next hb
      have h42 := h41.trans (hb.mono h41.size)
      have kr2 := ho
      clear hb ho
      refine ⟨_, rfl, ⟨st2.x.cells, st2.y.cells⟩, ?_⟩
      simp only [Act.put, List.setIfInBounds_toArray, List.set_cons_zero, List.set_cons_succ]
      refine wpAnyH_all (rs := [13, 19]) (by kernel_rfl) (by simp) ?_
      intro n hn
      rcases (by simpa using hn : n = 13 ∨ n = 19) with rfl | rfl
      · have st3 := st2.next ((Below.refl _ _).alloc (Nat.le_refl _) (.cells #[.slice av nv cv, .slice bv mv dv] 22))
        have h43 := h42.trans (((Below.refl U2.heap.size U2).alloc (Nat.le_refl _) (.cells #[.slice av nv cv, .slice bv mv dv] 22)).mono h42.size)
        have hn3 : (U2.alloc (.cells #[.slice av nv cv, .slice bv mv dv] 22)).heap[U2.heap.size]? = some (.cells #[.slice av nv cv, .slice bv mv dv] 22 (0, 0)) := heap_alloc_new U2 _
        have k8_3 := kr2.belowW ((Below.refl U2.heap.size U2).alloc (Nat.le_refl _) (.cells #[.slice av nv cv, .slice bv mv dv] 22))
        refine op_to 43 (.slice (some ⟨U2.heap.size, 0, none⟩) 2 2) (U2.alloc (.cells #[.slice av nv cv, .slice bv mv dv] 22)) rfl rfl (by rfl) (op_buildS2 _ _ 85 (.tmp 40) (.tmp 42) rfl (.slice av nv cv) (.slice bv mv dv) rfl rfl (build85_2 U2 _ _ _ _ _ _)) ⟨⟨st3.x.cells, st3.y.cells⟩, ?_⟩
        simp only [Act.put, List.setIfInBounds_toArray, List.set_cons_zero, List.set_cons_succ]
        generalize U2.alloc (.cells #[.slice av nv cv, .slice bv mv dv] 22) = U3 at st3 hn3 h43 k8_3 ⊢
        generalize U2.heap.size = p3 at hn3 ⊢
        refine wpAnyH_all (rs := [14, 19]) (by kernel_rfl) (by simp) ?_
        intro n hn
        rcases (by simpa using hn : n = 14 ∨ n = 19) with rfl | rfl
        · refine op_call1_to 44 31 rfl rfl (by rfl) (.tmp 43) _ rfl _ rfl Try.enters31 (HC14.out U3 _ h43 hn3) ?_
          rintro e U4 ⟨cb, cbn, cbc, rfl, hb, ho⟩
          have st4 := st3.next hb
          have h44 := h43.trans (hb.mono h43.size)
          have k8_4 := k8_3.belowW hb
          have kr4 := ho
          clear hb ho
          refine ⟨_, rfl, ⟨st4.x.cells, st4.y.cells⟩, ?_⟩
          simp only [Act.put, List.setIfInBounds_toArray, List.set_cons_zero, List.set_cons_succ]
          have st5 := st4.next ((Below.refl _ _).alloc (Nat.le_refl _) (.cells #[.slice ai ni ci, .slice bi mi di] 24))
          have h45 := h44.trans (((Below.refl U4.heap.size U4).alloc (Nat.le_refl _) (.cells #[.slice ai ni ci, .slice bi mi di] 24)).mono h44.size)
          have hn5 : (U4.alloc (.cells #[.slice ai ni ci, .slice bi mi di] 24)).heap[U4.heap.size]? = some (.cells #[.slice ai ni ci, .slice bi mi di] 24 (0, 0)) := heap_alloc_new U4 _
          have k8_5 := k8_4.belowW ((Below.refl U4.heap.size U4).alloc (Nat.le_refl _) (.cells #[.slice ai ni ci, .slice bi mi di] 24))
          have k14_5 := kr4.belowW ((Below.refl U4.heap.size U4).alloc (Nat.le_refl _) (.cells #[.slice ai ni ci, .slice bi mi di] 24))
          refine step_to 19 49 (.slice (some ⟨U4.heap.size, 0, none⟩) 2 2) (U4.alloc (.cells #[.slice ai ni ci, .slice bi mi di] 24)) rfl (by kernel_rfl) rfl (by rfl) (op_buildS2 _ _ 87 (.tmp 46) (.tmp 48) rfl (.slice ai ni ci) (.slice bi mi di) rfl rfl (build87_2 U4 _ _ _ _ _ _)) ⟨st5.x.cells, st5.y.cells⟩ ?_
          simp only [Act.put, List.setIfInBounds_toArray, List.set_cons_zero, List.set_cons_succ]
          generalize U4.alloc (.cells #[.slice ai ni ci, .slice bi mi di] 24) = U5 at st5 hn5 h45 k8_5 k14_5 ⊢
          generalize U4.heap.size = p5 at hn5 ⊢
          refine step_call1_to 20 50 32 rfl (by kernel_rfl) rfl (by rfl) (.tmp 49) _ rfl _ rfl Try.enters32 (HC20.out U5 _ h45 hn5) ?_
          rintro e U6 ⟨cd, cdn, cdc, rfl, hb, ho⟩
          have st6 := st5.next hb
          have h46 := h45.trans (hb.mono h45.size)
          have k8_6 := k8_5.belowW hb
          have k14_6 := k14_5.belowW hb
          have kr6 := ho
          clear hb ho
          refine ⟨_, rfl, ⟨st6.x.cells, st6.y.cells⟩, ?_⟩
          simp only [Act.put, List.setIfInBounds_toArray, List.set_cons_zero, List.set_cons_succ]
          refine step_to 23 53 (.agg #[.bool false, .slice ca can cac, .slice cb cbn cbc, .slice cd cdn cdc, .int .i64 x]) U6 rfl (by kernel_rfl) rfl (by rfl) (op_build5 _ _ 26 (.tmp 31) (.tmp 38) (.tmp 44) (.tmp 50) (.tmp 52) rfl (.bool false) (.slice ca can cac) (.slice cb cbn cbc) (.slice cd cdn cdc) (.int .i64 x) rfl rfl rfl rfl rfl (build26 U6 _ _ _ _ _ _ _ _ _ _ _)) ⟨st6.x.cells, st6.y.cells⟩ ?_
          simp only [Act.put, List.setIfInBounds_toArray, List.set_cons_zero, List.set_cons_succ]
          refine step_call1_to 24 54 26 rfl (by kernel_rfl) rfl (by rfl) (.tmp 53) _ rfl _ rfl Try.enters26 (HC24.out U6 _ _ _ st6.below st6.room ⟨k8_6, k14_6, kr6⟩) ?_
          rintro e U8 ⟨ok, ov, oi, rfl, hb, ho⟩
          have st8 := st6.next hb
          clear hb
          refine ⟨_, rfl, ⟨st8.x.cells, st8.y.cells⟩, ?_⟩
          simp only [Act.put, List.setIfInBounds_toArray, List.set_cons_zero, List.set_cons_succ]
          obtain ⟨q1, q2, q3, q4, q5⟩ := merge_tail st8 ho (.bool false) (.int .i64 x)
          refine step_store_to 25 (U8.setRow (w.heap.size + 1 + 1) #[.bool false, ok, ov, oi, .int .i64 x]) rfl (by kernel_rfl) rfl (by rfl) 26 (.tmp 6) (.tmp 54) rfl (.pointer (some ⟨w.heap.size + 1 + 1, 0, none⟩)) (.agg #[.bool false, ok, ov, oi, .int .i64 x]) rfl rfl (store26 st8.z _ _ _ _ _ (by rfl) (owns_one ho.keys) (owns_one ho.vals) (one_of_owns ho.kids) (by rfl)) ⟨q2, q3⟩ ?_
          refine wpAnyH_done (by kernel_rfl) ?_ _
          go_wp2
          refine bodyPost_ret (v := .agg #[.bool false, ok, ov, oi, .int .i64 x]) (results_cell_row Try.results14 _ _ (w.heap.size + 1 + 1) 26 #[.bool false, ok, ov, oi, .int .i64 x] (0, 0) _ rfl q1 Try.underlying26 rfl Try.size26) rfl ?_
          exact ⟨ok, ov, oi, by rw [HMX.out.1, HMX.out.2], q4, q5⟩
        · have st10 := st3.next ((Below.refl _ _).alloc (Nat.le_refl _) (.cells #[.slice ai ni ci, .slice bi mi di] 24))
          have h410 := h43.trans (((Below.refl U3.heap.size U3).alloc (Nat.le_refl _) (.cells #[.slice ai ni ci, .slice bi mi di] 24)).mono h43.size)
          have hn10 : (U3.alloc (.cells #[.slice ai ni ci, .slice bi mi di] 24)).heap[U3.heap.size]? = some (.cells #[.slice ai ni ci, .slice bi mi di] 24 (0, 0)) := heap_alloc_new U3 _
          have k8_10 := k8_3.belowW ((Below.refl U3.heap.size U3).alloc (Nat.le_refl _) (.cells #[.slice ai ni ci, .slice bi mi di] 24))
          have k13_10 := (Below.heap_alloc U3 (.cells #[.slice ai ni ci, .slice bi mi di] 24) _ (lt_of_heap hn3)).trans hn3
          refine op_to 49 (.slice (some ⟨U3.heap.size, 0, none⟩) 2 2) (U3.alloc (.cells #[.slice ai ni ci, .slice bi mi di] 24)) rfl rfl (by rfl) (op_buildS2 _ _ 87 (.tmp 46) (.tmp 48) rfl (.slice ai ni ci) (.slice bi mi di) rfl rfl (build87_2 U3 _ _ _ _ _ _)) ⟨⟨st10.x.cells, st10.y.cells⟩, ?_⟩
          simp only [Act.put, List.setIfInBounds_toArray, List.set_cons_zero, List.set_cons_succ]
          generalize U3.alloc (.cells #[.slice ai ni ci, .slice bi mi di] 24) = U10 at st10 hn10 h410 k8_10 k13_10 ⊢
          generalize U3.heap.size = p10 at hn10 ⊢
          refine step_call1_to 14 44 31 rfl (by kernel_rfl) rfl (by rfl) (.tmp 43) _ rfl _ rfl Try.enters31 (HC14.out U10 _ h410 k13_10) ?_
          rintro e U11 ⟨cb, cbn, cbc, rfl, hb, ho⟩
          have st11 := st10.next hb
          have h411 := h410.trans (hb.mono h410.size)
          have k8_11 := k8_10.belowW hb
          have k19_11 := (hb.block _ (lt_of_heap hn10)).trans hn10
          have kr11 := ho
          clear hb ho
          refine ⟨_, rfl, ⟨st11.x.cells, st11.y.cells⟩, ?_⟩
          simp only [Act.put, List.setIfInBounds_toArray, List.set_cons_zero, List.set_cons_succ]
          refine step_call1_to 20 50 32 rfl (by kernel_rfl) rfl (by rfl) (.tmp 49) _ rfl _ rfl Try.enters32 (HC20.out U11 _ h411 k19_11) ?_
          rintro e U12 ⟨cd, cdn, cdc, rfl, hb, ho⟩
          have st12 := st11.next hb
          have h412 := h411.trans (hb.mono h411.size)
          have k8_12 := k8_11.belowW hb
          have k14_12 := kr11.belowW hb
          have kr12 := ho
          clear hb ho
          refine ⟨_, rfl, ⟨st12.x.cells, st12.y.cells⟩, ?_⟩
          simp only [Act.put, List.setIfInBounds_toArray, List.set_cons_zero, List.set_cons_succ]
          refine step_to 23 53 (.agg #[.bool false, .slice ca can cac, .slice cb cbn cbc, .slice cd cdn cdc, .int .i64 x]) U12 rfl (by kernel_rfl) rfl (by rfl) (op_build5 _ _ 26 (.tmp 31) (.tmp 38) (.tmp 44) (.tmp 50) (.tmp 52) rfl (.bool false) (.slice ca can cac) (.slice cb cbn cbc) (.slice cd cdn cdc) (.int .i64 x) rfl rfl rfl rfl rfl (build26 U12 _ _ _ _ _ _ _ _ _ _ _)) ⟨st12.x.cells, st12.y.cells⟩ ?_
          simp only [Act.put, List.setIfInBounds_toArray, List.set_cons_zero, List.set_cons_succ]
          refine step_call1_to 24 54 26 rfl (by kernel_rfl) rfl (by rfl) (.tmp 53) _ rfl _ rfl Try.enters26 (HC24.out U12 _ _ _ st12.below st12.room ⟨k8_12, k14_12, kr12⟩) ?_
          rintro e U14 ⟨ok, ov, oi, rfl, hb, ho⟩
          have st14 := st12.next hb
          clear hb
          refine ⟨_, rfl, ⟨st14.x.cells, st14.y.cells⟩, ?_⟩
          simp only [Act.put, List.setIfInBounds_toArray, List.set_cons_zero, List.set_cons_succ]
          obtain ⟨q1, q2, q3, q4, q5⟩ := merge_tail st14 ho (.bool false) (.int .i64 x)
          refine step_store_to 25 (U14.setRow (w.heap.size + 1 + 1) #[.bool false, ok, ov, oi, .int .i64 x]) rfl (by kernel_rfl) rfl (by rfl) 26 (.tmp 6) (.tmp 54) rfl (.pointer (some ⟨w.heap.size + 1 + 1, 0, none⟩)) (.agg #[.bool false, ok, ov, oi, .int .i64 x]) rfl rfl (store26 st14.z _ _ _ _ _ (by rfl) (owns_one ho.keys) (owns_one ho.vals) (one_of_owns ho.kids) (by rfl)) ⟨q2, q3⟩ ?_
          refine wpAnyH_done (by kernel_rfl) ?_ _
          go_wp2
          refine bodyPost_ret (v := .agg #[.bool false, ok, ov, oi, .int .i64 x]) (results_cell_row Try.results14 _ _ (w.heap.size + 1 + 1) 26 #[.bool false, ok, ov, oi, .int .i64 x] (0, 0) _ rfl q1 Try.underlying26 rfl Try.size26) rfl ?_
          exact ⟨ok, ov, oi, by rw [HMX.out.1, HMX.out.2], q4, q5⟩
      · have st16 := st2.next ((Below.refl _ _).alloc (Nat.le_refl _) (.cells #[.slice ai ni ci, .slice bi mi di] 24))
        have h416 := h42.trans (((Below.refl U2.heap.size U2).alloc (Nat.le_refl _) (.cells #[.slice ai ni ci, .slice bi mi di] 24)).mono h42.size)
        have hn16 : (U2.alloc (.cells #[.slice ai ni ci, .slice bi mi di] 24)).heap[U2.heap.size]? = some (.cells #[.slice ai ni ci, .slice bi mi di] 24 (0, 0)) := heap_alloc_new U2 _
        have k8_16 := kr2.belowW ((Below.refl U2.heap.size U2).alloc (Nat.le_refl _) (.cells #[.slice ai ni ci, .slice bi mi di] 24))
        refine op_to 49 (.slice (some ⟨U2.heap.size, 0, none⟩) 2 2) (U2.alloc (.cells #[.slice ai ni ci, .slice bi mi di] 24)) rfl rfl (by rfl) (op_buildS2 _ _ 87 (.tmp 46) (.tmp 48) rfl (.slice ai ni ci) (.slice bi mi di) rfl rfl (build87_2 U2 _ _ _ _ _ _)) ⟨⟨st16.x.cells, st16.y.cells⟩, ?_⟩
        simp only [Act.put, List.setIfInBounds_toArray, List.set_cons_zero, List.set_cons_succ]
        generalize U2.alloc (.cells #[.slice ai ni ci, .slice bi mi di] 24) = U16 at st16 hn16 h416 k8_16 ⊢
        generalize U2.heap.size = p16 at hn16 ⊢
        have st17 := st16.next ((Below.refl _ _).alloc (Nat.le_refl _) (.cells #[.slice av nv cv, .slice bv mv dv] 22))
        have h417 := h416.trans (((Below.refl U16.heap.size U16).alloc (Nat.le_refl _) (.cells #[.slice av nv cv, .slice bv mv dv] 22)).mono h416.size)
        have hn17 : (U16.alloc (.cells #[.slice av nv cv, .slice bv mv dv] 22)).heap[U16.heap.size]? = some (.cells #[.slice av nv cv, .slice bv mv dv] 22 (0, 0)) := heap_alloc_new U16 _
        have k8_17 := k8_16.belowW ((Below.refl U16.heap.size U16).alloc (Nat.le_refl _) (.cells #[.slice av nv cv, .slice bv mv dv] 22))
        have k19_17 := (Below.heap_alloc U16 (.cells #[.slice av nv cv, .slice bv mv dv] 22) _ (lt_of_heap hn16)).trans hn16
        refine step_to 13 43 (.slice (some ⟨U16.heap.size, 0, none⟩) 2 2) (U16.alloc (.cells #[.slice av nv cv, .slice bv mv dv] 22)) rfl (by kernel_rfl) rfl (by rfl) (op_buildS2 _ _ 85 (.tmp 40) (.tmp 42) rfl (.slice av nv cv) (.slice bv mv dv) rfl rfl (build85_2 U16 _ _ _ _ _ _)) ⟨st17.x.cells, st17.y.cells⟩ ?_
        simp only [Act.put, List.setIfInBounds_toArray, List.set_cons_zero, List.set_cons_succ]
        generalize U16.alloc (.cells #[.slice av nv cv, .slice bv mv dv] 22) = U17 at st17 hn17 h417 k8_17 k19_17 ⊢
        generalize U16.heap.size = p17 at hn17 ⊢
        refine step_call1_to 14 44 31 rfl (by kernel_rfl) rfl (by rfl) (.tmp 43) _ rfl _ rfl Try.enters31 (HC14.out U17 _ h417 hn17) ?_
        rintro e U18 ⟨cb, cbn, cbc, rfl, hb, ho⟩
        have st18 := st17.next hb
        have h418 := h417.trans (hb.mono h417.size)
        have k8_18 := k8_17.belowW hb
        have k19_18 := (hb.block _ (lt_of_heap k19_17)).trans k19_17
        have kr18 := ho
        clear hb ho
        refine ⟨_, rfl, ⟨st18.x.cells, st18.y.cells⟩, ?_⟩
        simp only [Act.put, List.setIfInBounds_toArray, List.set_cons_zero, List.set_cons_succ]
        refine step_call1_to 20 50 32 rfl (by kernel_rfl) rfl (by rfl) (.tmp 49) _ rfl _ rfl Try.enters32 (HC20.out U18 _ h418 k19_18) ?_
        rintro e U19 ⟨cd, cdn, cdc, rfl, hb, ho⟩
        have st19 := st18.next hb
        have h419 := h418.trans (hb.mono h418.size)
        have k8_19 := k8_18.belowW hb
        have k14_19 := kr18.belowW hb
        have kr19 := ho
        clear hb ho
        refine ⟨_, rfl, ⟨st19.x.cells, st19.y.cells⟩, ?_⟩
        simp only [Act.put, List.setIfInBounds_toArray, List.set_cons_zero, List.set_cons_succ]
        refine step_to 23 53 (.agg #[.bool false, .slice ca can cac, .slice cb cbn cbc, .slice cd cdn cdc, .int .i64 x]) U19 rfl (by kernel_rfl) rfl (by rfl) (op_build5 _ _ 26 (.tmp 31) (.tmp 38) (.tmp 44) (.tmp 50) (.tmp 52) rfl (.bool false) (.slice ca can cac) (.slice cb cbn cbc) (.slice cd cdn cdc) (.int .i64 x) rfl rfl rfl rfl rfl (build26 U19 _ _ _ _ _ _ _ _ _ _ _)) ⟨st19.x.cells, st19.y.cells⟩ ?_
        simp only [Act.put, List.setIfInBounds_toArray, List.set_cons_zero, List.set_cons_succ]
        refine step_call1_to 24 54 26 rfl (by kernel_rfl) rfl (by rfl) (.tmp 53) _ rfl _ rfl Try.enters26 (HC24.out U19 _ _ _ st19.below st19.room ⟨k8_19, k14_19, kr19⟩) ?_
        rintro e U21 ⟨ok, ov, oi, rfl, hb, ho⟩
        have st21 := st19.next hb
        clear hb
        refine ⟨_, rfl, ⟨st21.x.cells, st21.y.cells⟩, ?_⟩
        simp only [Act.put, List.setIfInBounds_toArray, List.set_cons_zero, List.set_cons_succ]
        obtain ⟨q1, q2, q3, q4, q5⟩ := merge_tail st21 ho (.bool false) (.int .i64 x)
        refine step_store_to 25 (U21.setRow (w.heap.size + 1 + 1) #[.bool false, ok, ov, oi, .int .i64 x]) rfl (by kernel_rfl) rfl (by rfl) 26 (.tmp 6) (.tmp 54) rfl (.pointer (some ⟨w.heap.size + 1 + 1, 0, none⟩)) (.agg #[.bool false, ok, ov, oi, .int .i64 x]) rfl rfl (store26 st21.z _ _ _ _ _ (by rfl) (owns_one ho.keys) (owns_one ho.vals) (one_of_owns ho.kids) (by rfl)) ⟨q2, q3⟩ ?_
        refine wpAnyH_done (by kernel_rfl) ?_ _
        go_wp2
        refine bodyPost_ret (v := .agg #[.bool false, ok, ov, oi, .int .i64 x]) (results_cell_row Try.results14 _ _ (w.heap.size + 1 + 1) 26 #[.bool false, ok, ov, oi, .int .i64 x] (0, 0) _ rfl q1 Try.underlying26 rfl Try.size26) rfl ?_
        exact ⟨ok, ov, oi, by rw [HMX.out.1, HMX.out.2], q4, q5⟩
    · have st23 := st1.next ((Below.refl _ _).alloc (Nat.le_refl _) (.cells #[.slice av nv cv, .slice bv mv dv] 22))
      have h423 := h41.trans (((Below.refl U1.heap.size U1).alloc (Nat.le_refl _) (.cells #[.slice av nv cv, .slice bv mv dv] 22)).mono h41.size)
      have hn23 : (U1.alloc (.cells #[.slice av nv cv, .slice bv mv dv] 22)).heap[U1.heap.size]? = some (.cells #[.slice av nv cv, .slice bv mv dv] 22 (0, 0)) := heap_alloc_new U1 _
      have k7_23 := (Below.heap_alloc U1 (.cells #[.slice av nv cv, .slice bv mv dv] 22) _ (lt_of_heap hn1)).trans hn1
      refine op_to 43 (.slice (some ⟨U1.heap.size, 0, none⟩) 2 2) (U1.alloc (.cells #[.slice av nv cv, .slice bv mv dv] 22)) rfl rfl (by rfl) (op_buildS2 _ _ 85 (.tmp 40) (.tmp 42) rfl (.slice av nv cv) (.slice bv mv dv) rfl rfl (build85_2 U1 _ _ _ _ _ _)) ⟨⟨st23.x.cells, st23.y.cells⟩, ?_⟩
      simp only [Act.put, List.setIfInBounds_toArray, List.set_cons_zero, List.set_cons_succ]
      generalize U1.alloc (.cells #[.slice av nv cv, .slice bv mv dv] 22) = U23 at st23 hn23 h423 k7_23 ⊢
      generalize U1.heap.size = p23 at hn23 ⊢
      refine wpAnyH_all (rs := [8, 19]) (by kernel_rfl) (by simp) ?_
      intro n hn
      rcases (by simpa using hn : n = 8 ∨ n = 19) with rfl | rfl
      · refine op_call1_to 38 31 rfl rfl (by rfl) (.tmp 37) _ rfl _ rfl Try.enters31 (HC8.out U23 _ h423 k7_23) ?_
        rintro e U24 ⟨ca, can, cac, rfl, hb, ho⟩
        have st24 := st23.next hb
        have h424 := h423.trans (hb.mono h423.size)
        have k13_24 := (hb.block _ (lt_of_heap hn23)).trans hn23
        have kr24 := ho
        clear hb ho
        refine ⟨_, rfl, ⟨st24.x.cells, st24.y.cells⟩, ?_⟩
        simp only [Act.put, List.setIfInBounds_toArray, List.set_cons_zero, List.set_cons_succ]
        refine wpAnyH_all (rs := [14, 19]) (by kernel_rfl) (by simp) ?_
        intro n hn
        rcases (by simpa using hn : n = 14 ∨ n = 19) with rfl | rfl
        · refine op_call1_to 44 31 rfl rfl (by rfl) (.tmp 43) _ rfl _ rfl Try.enters31 (HC14.out U24 _ h424 k13_24) ?_
          rintro e U25 ⟨cb, cbn, cbc, rfl, hb, ho⟩
          have st25 := st24.next hb
          have h425 := h424.trans (hb.mono h424.size)
          have k8_25 := kr24.belowW hb
          have kr25 := ho
          clear hb ho
          refine ⟨_, rfl, ⟨st25.x.cells, st25.y.cells⟩, ?_⟩
          simp only [Act.put, List.setIfInBounds_toArray, List.set_cons_zero, List.set_cons_succ]
          have st26 := st25.next ((Below.refl _ _).alloc (Nat.le_refl _) (.cells #[.slice ai ni ci, .slice bi mi di] 24))
          have h426 := h425.trans (((Below.refl U25.heap.size U25).alloc (Nat.le_refl _) (.cells #[.slice ai ni ci, .slice bi mi di] 24)).mono h425.size)
          have hn26 : (U25.alloc (.cells #[.slice ai ni ci, .slice bi mi di] 24)).heap[U25.heap.size]? = some (.cells #[.slice ai ni ci, .slice bi mi di] 24 (0, 0)) := heap_alloc_new U25 _
          have k8_26 := k8_25.belowW ((Below.refl U25.heap.size U25).alloc (Nat.le_refl _) (.cells #[.slice ai ni ci, .slice bi mi di] 24))
          have k14_26 := kr25.belowW ((Below.refl U25.heap.size U25).alloc (Nat.le_refl _) (.cells #[.slice ai ni ci, .slice bi mi di] 24))
          refine step_to 19 49 (.slice (some ⟨U25.heap.size, 0, none⟩) 2 2) (U25.alloc (.cells #[.slice ai ni ci, .slice bi mi di] 24)) rfl (by kernel_rfl) rfl (by rfl) (op_buildS2 _ _ 87 (.tmp 46) (.tmp 48) rfl (.slice ai ni ci) (.slice bi mi di) rfl rfl (build87_2 U25 _ _ _ _ _ _)) ⟨st26.x.cells, st26.y.cells⟩ ?_
          simp only [Act.put, List.setIfInBounds_toArray, List.set_cons_zero, List.set_cons_succ]
          generalize U25.alloc (.cells #[.slice ai ni ci, .slice bi mi di] 24) = U26 at st26 hn26 h426 k8_26 k14_26 ⊢
          generalize U25.heap.size = p26 at hn26 ⊢
          refine step_call1_to 20 50 32 rfl (by kernel_rfl) rfl (by rfl) (.tmp 49) _ rfl _ rfl Try.enters32 (HC20.out U26 _ h426 hn26) ?_
          rintro e U27 ⟨cd, cdn, cdc, rfl, hb, ho⟩
          have st27 := st26.next hb
          have h427 := h426.trans (hb.mono h426.size)
          have k8_27 := k8_26.belowW hb
          have k14_27 := k14_26.belowW hb
          have kr27 := ho
          clear hb ho
          refine ⟨_, rfl, ⟨st27.x.cells, st27.y.cells⟩, ?_⟩
          simp only [Act.put, List.setIfInBounds_toArray, List.set_cons_zero, List.set_cons_succ]
          refine step_to 23 53 (.agg #[.bool false, .slice ca can cac, .slice cb cbn cbc, .slice cd cdn cdc, .int .i64 x]) U27 rfl (by kernel_rfl) rfl (by rfl) (op_build5 _ _ 26 (.tmp 31) (.tmp 38) (.tmp 44) (.tmp 50) (.tmp 52) rfl (.bool false) (.slice ca can cac) (.slice cb cbn cbc) (.slice cd cdn cdc) (.int .i64 x) rfl rfl rfl rfl rfl (build26 U27 _ _ _ _ _ _ _ _ _ _ _)) ⟨st27.x.cells, st27.y.cells⟩ ?_
          simp only [Act.put, List.setIfInBounds_toArray, List.set_cons_zero, List.set_cons_succ]
          refine step_call1_to 24 54 26 rfl (by kernel_rfl) rfl (by rfl) (.tmp 53) _ rfl _ rfl Try.enters26 (HC24.out U27 _ _ _ st27.below st27.room ⟨k8_27, k14_27, kr27⟩) ?_
          rintro e U29 ⟨ok, ov, oi, rfl, hb, ho⟩
          have st29 := st27.next hb
          clear hb
          refine ⟨_, rfl, ⟨st29.x.cells, st29.y.cells⟩, ?_⟩
          simp only [Act.put, List.setIfInBounds_toArray, List.set_cons_zero, List.set_cons_succ]
          obtain ⟨q1, q2, q3, q4, q5⟩ := merge_tail st29 ho (.bool false) (.int .i64 x)
          refine step_store_to 25 (U29.setRow (w.heap.size + 1 + 1) #[.bool false, ok, ov, oi, .int .i64 x]) rfl (by kernel_rfl) rfl (by rfl) 26 (.tmp 6) (.tmp 54) rfl (.pointer (some ⟨w.heap.size + 1 + 1, 0, none⟩)) (.agg #[.bool false, ok, ov, oi, .int .i64 x]) rfl rfl (store26 st29.z _ _ _ _ _ (by rfl) (owns_one ho.keys) (owns_one ho.vals) (one_of_owns ho.kids) (by rfl)) ⟨q2, q3⟩ ?_
          refine wpAnyH_done (by kernel_rfl) ?_ _
          go_wp2
          refine bodyPost_ret (v := .agg #[.bool false, ok, ov, oi, .int .i64 x]) (results_cell_row Try.results14 _ _ (w.heap.size + 1 + 1) 26 #[.bool false, ok, ov, oi, .int .i64 x] (0, 0) _ rfl q1 Try.underlying26 rfl Try.size26) rfl ?_
          exact ⟨ok, ov, oi, by rw [HMX.out.1, HMX.out.2], q4, q5⟩
        · have st31 := st24.next ((Below.refl _ _).alloc (Nat.le_refl _) (.cells #[.slice ai ni ci, .slice bi mi di] 24))
          have h431 := h424.trans (((Below.refl U24.heap.size U24).alloc (Nat.le_refl _) (.cells #[.slice ai ni ci, .slice bi mi di] 24)).mono h424.size)
          have hn31 : (U24.alloc (.cells #[.slice ai ni ci, .slice bi mi di] 24)).heap[U24.heap.size]? = some (.cells #[.slice ai ni ci, .slice bi mi di] 24 (0, 0)) := heap_alloc_new U24 _
          have k13_31 := (Below.heap_alloc U24 (.cells #[.slice ai ni ci, .slice bi mi di] 24) _ (lt_of_heap k13_24)).trans k13_24
          have k8_31 := kr24.belowW ((Below.refl U24.heap.size U24).alloc (Nat.le_refl _) (.cells #[.slice ai ni ci, .slice bi mi di] 24))
          refine op_to 49 (.slice (some ⟨U24.heap.size, 0, none⟩) 2 2) (U24.alloc (.cells #[.slice ai ni ci, .slice bi mi di] 24)) rfl rfl (by rfl) (op_buildS2 _ _ 87 (.tmp 46) (.tmp 48) rfl (.slice ai ni ci) (.slice bi mi di) rfl rfl (build87_2 U24 _ _ _ _ _ _)) ⟨⟨st31.x.cells, st31.y.cells⟩, ?_⟩
          simp only [Act.put, List.setIfInBounds_toArray, List.set_cons_zero, List.set_cons_succ]
          generalize U24.alloc (.cells #[.slice ai ni ci, .slice bi mi di] 24) = U31 at st31 hn31 h431 k13_31 k8_31 ⊢
          generalize U24.heap.size = p31 at hn31 ⊢
          refine step_call1_to 14 44 31 rfl (by kernel_rfl) rfl (by rfl) (.tmp 43) _ rfl _ rfl Try.enters31 (HC14.out U31 _ h431 k13_31) ?_
          rintro e U32 ⟨cb, cbn, cbc, rfl, hb, ho⟩
          have st32 := st31.next hb
          have h432 := h431.trans (hb.mono h431.size)
          have k8_32 := k8_31.belowW hb
          have k19_32 := (hb.block _ (lt_of_heap hn31)).trans hn31
          have kr32 := ho
          clear hb ho
          refine ⟨_, rfl, ⟨st32.x.cells, st32.y.cells⟩, ?_⟩
          simp only [Act.put, List.setIfInBounds_toArray, List.set_cons_zero, List.set_cons_succ]
          refine step_call1_to 20 50 32 rfl (by kernel_rfl) rfl (by rfl) (.tmp 49) _ rfl _ rfl Try.enters32 (HC20.out U32 _ h432 k19_32) ?_
          rintro e U33 ⟨cd, cdn, cdc, rfl, hb, ho⟩
          have st33 := st32.next hb
          have h433 := h432.trans (hb.mono h432.size)
          have k8_33 := k8_32.belowW hb
          have k14_33 := kr32.belowW hb
          have kr33 := ho
          clear hb ho
          refine ⟨_, rfl, ⟨st33.x.cells, st33.y.cells⟩, ?_⟩
          simp only [Act.put, List.setIfInBounds_toArray, List.set_cons_zero, List.set_cons_succ]
          refine step_to 23 53 (.agg #[.bool false, .slice ca can cac, .slice cb cbn cbc, .slice cd cdn cdc, .int .i64 x]) U33 rfl (by kernel_rfl) rfl (by rfl) (op_build5 _ _ 26 (.tmp 31) (.tmp 38) (.tmp 44) (.tmp 50) (.tmp 52) rfl (.bool false) (.slice ca can cac) (.slice cb cbn cbc) (.slice cd cdn cdc) (.int .i64 x) rfl rfl rfl rfl rfl (build26 U33 _ _ _ _ _ _ _ _ _ _ _)) ⟨st33.x.cells, st33.y.cells⟩ ?_
          simp only [Act.put, List.setIfInBounds_toArray, List.set_cons_zero, List.set_cons_succ]
          refine step_call1_to 24 54 26 rfl (by kernel_rfl) rfl (by rfl) (.tmp 53) _ rfl _ rfl Try.enters26 (HC24.out U33 _ _ _ st33.below st33.room ⟨k8_33, k14_33, kr33⟩) ?_
          rintro e U35 ⟨ok, ov, oi, rfl, hb, ho⟩
          have st35 := st33.next hb
          clear hb
          refine ⟨_, rfl, ⟨st35.x.cells, st35.y.cells⟩, ?_⟩
          simp only [Act.put, List.setIfInBounds_toArray, List.set_cons_zero, List.set_cons_succ]
          obtain ⟨q1, q2, q3, q4, q5⟩ := merge_tail st35 ho (.bool false) (.int .i64 x)
          refine step_store_to 25 (U35.setRow (w.heap.size + 1 + 1) #[.bool false, ok, ov, oi, .int .i64 x]) rfl (by kernel_rfl) rfl (by rfl) 26 (.tmp 6) (.tmp 54) rfl (.pointer (some ⟨w.heap.size + 1 + 1, 0, none⟩)) (.agg #[.bool false, ok, ov, oi, .int .i64 x]) rfl rfl (store26 st35.z _ _ _ _ _ (by rfl) (owns_one ho.keys) (owns_one ho.vals) (one_of_owns ho.kids) (by rfl)) ⟨q2, q3⟩ ?_
          refine wpAnyH_done (by kernel_rfl) ?_ _
          go_wp2
          refine bodyPost_ret (v := .agg #[.bool false, ok, ov, oi, .int .i64 x]) (results_cell_row Try.results14 _ _ (w.heap.size + 1 + 1) 26 #[.bool false, ok, ov, oi, .int .i64 x] (0, 0) _ rfl q1 Try.underlying26 rfl Try.size26) rfl ?_
          exact ⟨ok, ov, oi, by rw [HMX.out.1, HMX.out.2], q4, q5⟩
      · have st37 := st23.next ((Below.refl _ _).alloc (Nat.le_refl _) (.cells #[.slice ai ni ci, .slice bi mi di] 24))
        have h437 := h423.trans (((Below.refl U23.heap.size U23).alloc (Nat.le_refl _) (.cells #[.slice ai ni ci, .slice bi mi di] 24)).mono h423.size)
        have hn37 : (U23.alloc (.cells #[.slice ai ni ci, .slice bi mi di] 24)).heap[U23.heap.size]? = some (.cells #[.slice ai ni ci, .slice bi mi di] 24 (0, 0)) := heap_alloc_new U23 _
        have k7_37 := (Below.heap_alloc U23 (.cells #[.slice ai ni ci, .slice bi mi di] 24) _ (lt_of_heap k7_23)).trans k7_23
        have k13_37 := (Below.heap_alloc U23 (.cells #[.slice ai ni ci, .slice bi mi di] 24) _ (lt_of_heap hn23)).trans hn23
        refine op_to 49 (.slice (some ⟨U23.heap.size, 0, none⟩) 2 2) (U23.alloc (.cells #[.slice ai ni ci, .slice bi mi di] 24)) rfl rfl (by rfl) (op_buildS2 _ _ 87 (.tmp 46) (.tmp 48) rfl (.slice ai ni ci) (.slice bi mi di) rfl rfl (build87_2 U23 _ _ _ _ _ _)) ⟨⟨st37.x.cells, st37.y.cells⟩, ?_⟩
        simp only [Act.put, List.setIfInBounds_toArray, List.set_cons_zero, List.set_cons_succ]
        generalize U23.alloc (.cells #[.slice ai ni ci, .slice bi mi di] 24) = U37 at st37 hn37 h437 k7_37 k13_37 ⊢
        generalize U23.heap.size = p37 at hn37 ⊢
        refine step_call1_to 8 38 31 rfl (by kernel_rfl) rfl (by rfl) (.tmp 37) _ rfl _ rfl Try.enters31 (HC8.out U37 _ h437 k7_37) ?_
        rintro e U38 ⟨ca, can, cac, rfl, hb, ho⟩
        have st38 := st37.next hb
        have h438 := h437.trans (hb.mono h437.size)
        have k13_38 := (hb.block _ (lt_of_heap k13_37)).trans k13_37
        have k19_38 := (hb.block _ (lt_of_heap hn37)).trans hn37
        have kr38 := ho
        clear hb ho
        refine ⟨_, rfl, ⟨st38.x.cells, st38.y.cells⟩, ?_⟩
        simp only [Act.put, List.setIfInBounds_toArray, List.set_cons_zero, List.set_cons_succ]
        refine step_call1_to 14 44 31 rfl (by kernel_rfl) rfl (by rfl) (.tmp 43) _ rfl _ rfl Try.enters31 (HC14.out U38 _ h438 k13_38) ?_
        rintro e U39 ⟨cb, cbn, cbc, rfl, hb, ho⟩
        have st39 := st38.next hb
        have h439 := h438.trans (hb.mono h438.size)
        have k19_39 := (hb.block _ (lt_of_heap k19_38)).trans k19_38
        have k8_39 := kr38.belowW hb
        have kr39 := ho
        clear hb ho
        refine ⟨_, rfl, ⟨st39.x.cells, st39.y.cells⟩, ?_⟩
        simp only [Act.put, List.setIfInBounds_toArray, List.set_cons_zero, List.set_cons_succ]
        refine step_call1_to 20 50 32 rfl (by kernel_rfl) rfl (by rfl) (.tmp 49) _ rfl _ rfl Try.enters32 (HC20.out U39 _ h439 k19_39) ?_
        rintro e U40 ⟨cd, cdn, cdc, rfl, hb, ho⟩
        have st40 := st39.next hb
        have h440 := h439.trans (hb.mono h439.size)
        have k8_40 := k8_39.belowW hb
        have k14_40 := kr39.belowW hb
        have kr40 := ho
        clear hb ho
        refine ⟨_, rfl, ⟨st40.x.cells, st40.y.cells⟩, ?_⟩
        simp only [Act.put, List.setIfInBounds_toArray, List.set_cons_zero, List.set_cons_succ]
        refine step_to 23 53 (.agg #[.bool false, .slice ca can cac, .slice cb cbn cbc, .slice cd cdn cdc, .int .i64 x]) U40 rfl (by kernel_rfl) rfl (by rfl) (op_build5 _ _ 26 (.tmp 31) (.tmp 38) (.tmp 44) (.tmp 50) (.tmp 52) rfl (.bool false) (.slice ca can cac) (.slice cb cbn cbc) (.slice cd cdn cdc) (.int .i64 x) rfl rfl rfl rfl rfl (build26 U40 _ _ _ _ _ _ _ _ _ _ _)) ⟨st40.x.cells, st40.y.cells⟩ ?_
        simp only [Act.put, List.setIfInBounds_toArray, List.set_cons_zero, List.set_cons_succ]
        refine step_call1_to 24 54 26 rfl (by kernel_rfl) rfl (by rfl) (.tmp 53) _ rfl _ rfl Try.enters26 (HC24.out U40 _ _ _ st40.below st40.room ⟨k8_40, k14_40, kr40⟩) ?_
        rintro e U42 ⟨ok, ov, oi, rfl, hb, ho⟩
        have st42 := st40.next hb
        clear hb
        refine ⟨_, rfl, ⟨st42.x.cells, st42.y.cells⟩, ?_⟩
        simp only [Act.put, List.setIfInBounds_toArray, List.set_cons_zero, List.set_cons_succ]
        obtain ⟨q1, q2, q3, q4, q5⟩ := merge_tail st42 ho (.bool false) (.int .i64 x)
        refine step_store_to 25 (U42.setRow (w.heap.size + 1 + 1) #[.bool false, ok, ov, oi, .int .i64 x]) rfl (by kernel_rfl) rfl (by rfl) 26 (.tmp 6) (.tmp 54) rfl (.pointer (some ⟨w.heap.size + 1 + 1, 0, none⟩)) (.agg #[.bool false, ok, ov, oi, .int .i64 x]) rfl rfl (store26 st42.z _ _ _ _ _ (by rfl) (owns_one ho.keys) (owns_one ho.vals) (one_of_owns ho.kids) (by rfl)) ⟨q2, q3⟩ ?_
        refine wpAnyH_done (by kernel_rfl) ?_ _
        go_wp2
        refine bodyPost_ret (v := .agg #[.bool false, ok, ov, oi, .int .i64 x]) (results_cell_row Try.results14 _ _ (w.heap.size + 1 + 1) 26 #[.bool false, ok, ov, oi, .int .i64 x] (0, 0) _ rfl q1 Try.underlying26 rfl Try.size26) rfl ?_
        exact ⟨ok, ov, oi, by rw [HMX.out.1, HMX.out.2], q4, q5⟩
    · have st44 := st1.next ((Below.refl _ _).alloc (Nat.le_refl _) (.cells #[.slice ai ni ci, .slice bi mi di] 24))
      have h444 := h41.trans (((Below.refl U1.heap.size U1).alloc (Nat.le_refl _) (.cells #[.slice ai ni ci, .slice bi mi di] 24)).mono h41.size)
      have hn44 : (U1.alloc (.cells #[.slice ai ni ci, .slice bi mi di] 24)).heap[U1.heap.size]? = some (.cells #[.slice ai ni ci, .slice bi mi di] 24 (0, 0)) := heap_alloc_new U1 _
      have k7_44 := (Below.heap_alloc U1 (.cells #[.slice ai ni ci, .slice bi mi di] 24) _ (lt_of_heap hn1)).trans hn1
      refine op_to 49 (.slice (some ⟨U1.heap.size, 0, none⟩) 2 2) (U1.alloc (.cells #[.slice ai ni ci, .slice bi mi di] 24)) rfl rfl (by rfl) (op_buildS2 _ _ 87 (.tmp 46) (.tmp 48) rfl (.slice ai ni ci) (.slice bi mi di) rfl rfl (build87_2 U1 _ _ _ _ _ _)) ⟨⟨st44.x.cells, st44.y.cells⟩, ?_⟩
      simp only [Act.put, List.setIfInBounds_toArray, List.set_cons_zero, List.set_cons_succ]
      generalize U1.alloc (.cells #[.slice ai ni ci, .slice bi mi di] 24) = U44 at st44 hn44 h444 k7_44 ⊢
      generalize U1.heap.size = p44 at hn44 ⊢
      refine wpAnyH_all (rs := [8, 13]) (by kernel_rfl) (by simp) ?_
      intro n hn
      rcases (by simpa using hn : n = 8 ∨ n = 13) with rfl | rfl
      · refine op_call1_to 38 31 rfl rfl (by rfl) (.tmp 37) _ rfl _ rfl Try.enters31 (HC8.out U44 _ h444 k7_44) ?_
        rintro e U45 ⟨ca, can, cac, rfl, hb, ho⟩
        have st45 := st44.next hb
        have h445 := h444.trans (hb.mono h444.size)
        have k19_45 := (hb.block _ (lt_of_heap hn44)).trans hn44
        have kr45 := ho
        clear hb ho
        refine ⟨_, rfl, ⟨st45.x.cells, st45.y.cells⟩, ?_⟩
        simp only [Act.put, List.setIfInBounds_toArray, List.set_cons_zero, List.set_cons_succ]
        have st46 := st45.next ((Below.refl _ _).alloc (Nat.le_refl _) (.cells #[.slice av nv cv, .slice bv mv dv] 22))
        have h446 := h445.trans (((Below.refl U45.heap.size U45).alloc (Nat.le_refl _) (.cells #[.slice av nv cv, .slice bv mv dv] 22)).mono h445.size)
        have hn46 : (U45.alloc (.cells #[.slice av nv cv, .slice bv mv dv] 22)).heap[U45.heap.size]? = some (.cells #[.slice av nv cv, .slice bv mv dv] 22 (0, 0)) := heap_alloc_new U45 _
        have k19_46 := (Below.heap_alloc U45 (.cells #[.slice av nv cv, .slice bv mv dv] 22) _ (lt_of_heap k19_45)).trans k19_45
        have k8_46 := kr45.belowW ((Below.refl U45.heap.size U45).alloc (Nat.le_refl _) (.cells #[.slice av nv cv, .slice bv mv dv] 22))
        refine step_to 13 43 (.slice (some ⟨U45.heap.size, 0, none⟩) 2 2) (U45.alloc (.cells #[.slice av nv cv, .slice bv mv dv] 22)) rfl (by kernel_rfl) rfl (by rfl) (op_buildS2 _ _ 85 (.tmp 40) (.tmp 42) rfl (.slice av nv cv) (.slice bv mv dv) rfl rfl (build85_2 U45 _ _ _ _ _ _)) ⟨st46.x.cells, st46.y.cells⟩ ?_
        simp only [Act.put, List.setIfInBounds_toArray, List.set_cons_zero, List.set_cons_succ]
        generalize U45.alloc (.cells #[.slice av nv cv, .slice bv mv dv] 22) = U46 at st46 hn46 h446 k19_46 k8_46 ⊢
        generalize U45.heap.size = p46 at hn46 ⊢
        refine step_call1_to 14 44 31 rfl (by kernel_rfl) rfl (by rfl) (.tmp 43) _ rfl _ rfl Try.enters31 (HC14.out U46 _ h446 hn46) ?_
        rintro e U47 ⟨cb, cbn, cbc, rfl, hb, ho⟩
        have st47 := st46.next hb
        have h447 := h446.trans (hb.mono h446.size)
        have k19_47 := (hb.block _ (lt_of_heap k19_46)).trans k19_46
        have k8_47 := k8_46.belowW hb
        have kr47 := ho
        clear hb ho
        refine ⟨_, rfl, ⟨st47.x.cells, st47.y.cells⟩, ?_⟩
        simp only [Act.put, List.setIfInBounds_toArray, List.set_cons_zero, List.set_cons_succ]
        refine step_call1_to 20 50 32 rfl (by kernel_rfl) rfl (by rfl) (.tmp 49) _ rfl _ rfl Try.enters32 (HC20.out U47 _ h447 k19_47) ?_
        rintro e U48 ⟨cd, cdn, cdc, rfl, hb, ho⟩
        have st48 := st47.next hb
        have h448 := h447.trans (hb.mono h447.size)
        have k8_48 := k8_47.belowW hb
        have k14_48 := kr47.belowW hb
        have kr48 := ho
        clear hb ho
        refine ⟨_, rfl, ⟨st48.x.cells, st48.y.cells⟩, ?_⟩
        simp only [Act.put, List.setIfInBounds_toArray, List.set_cons_zero, List.set_cons_succ]
        refine step_to 23 53 (.agg #[.bool false, .slice ca can cac, .slice cb cbn cbc, .slice cd cdn cdc, .int .i64 x]) U48 rfl (by kernel_rfl) rfl (by rfl) (op_build5 _ _ 26 (.tmp 31) (.tmp 38) (.tmp 44) (.tmp 50) (.tmp 52) rfl (.bool false) (.slice ca can cac) (.slice cb cbn cbc) (.slice cd cdn cdc) (.int .i64 x) rfl rfl rfl rfl rfl (build26 U48 _ _ _ _ _ _ _ _ _ _ _)) ⟨st48.x.cells, st48.y.cells⟩ ?_
        simp only [Act.put, List.setIfInBounds_toArray, List.set_cons_zero, List.set_cons_succ]
        refine step_call1_to 24 54 26 rfl (by kernel_rfl) rfl (by rfl) (.tmp 53) _ rfl _ rfl Try.enters26 (HC24.out U48 _ _ _ st48.below st48.room ⟨k8_48, k14_48, kr48⟩) ?_
        rintro e U50 ⟨ok, ov, oi, rfl, hb, ho⟩
        have st50 := st48.next hb
        clear hb
        refine ⟨_, rfl, ⟨st50.x.cells, st50.y.cells⟩, ?_⟩
        simp only [Act.put, List.setIfInBounds_toArray, List.set_cons_zero, List.set_cons_succ]
        obtain ⟨q1, q2, q3, q4, q5⟩ := merge_tail st50 ho (.bool false) (.int .i64 x)
        refine step_store_to 25 (U50.setRow (w.heap.size + 1 + 1) #[.bool false, ok, ov, oi, .int .i64 x]) rfl (by kernel_rfl) rfl (by rfl) 26 (.tmp 6) (.tmp 54) rfl (.pointer (some ⟨w.heap.size + 1 + 1, 0, none⟩)) (.agg #[.bool false, ok, ov, oi, .int .i64 x]) rfl rfl (store26 st50.z _ _ _ _ _ (by rfl) (owns_one ho.keys) (owns_one ho.vals) (one_of_owns ho.kids) (by rfl)) ⟨q2, q3⟩ ?_
        refine wpAnyH_done (by kernel_rfl) ?_ _
        go_wp2
        refine bodyPost_ret (v := .agg #[.bool false, ok, ov, oi, .int .i64 x]) (results_cell_row Try.results14 _ _ (w.heap.size + 1 + 1) 26 #[.bool false, ok, ov, oi, .int .i64 x] (0, 0) _ rfl q1 Try.underlying26 rfl Try.size26) rfl ?_
        exact ⟨ok, ov, oi, by rw [HMX.out.1, HMX.out.2], q4, q5⟩
      · have st52 := st44.next ((Below.refl _ _).alloc (Nat.le_refl _) (.cells #[.slice av nv cv, .slice bv mv dv] 22))
        have h452 := h444.trans (((Below.refl U44.heap.size U44).alloc (Nat.le_refl _) (.cells #[.slice av nv cv, .slice bv mv dv] 22)).mono h444.size)
        have hn52 : (U44.alloc (.cells #[.slice av nv cv, .slice bv mv dv] 22)).heap[U44.heap.size]? = some (.cells #[.slice av nv cv, .slice bv mv dv] 22 (0, 0)) := heap_alloc_new U44 _
        have k7_52 := (Below.heap_alloc U44 (.cells #[.slice av nv cv, .slice bv mv dv] 22) _ (lt_of_heap k7_44)).trans k7_44
        have k19_52 := (Below.heap_alloc U44 (.cells #[.slice av nv cv, .slice bv mv dv] 22) _ (lt_of_heap hn44)).trans hn44
        refine op_to 43 (.slice (some ⟨U44.heap.size, 0, none⟩) 2 2) (U44.alloc (.cells #[.slice av nv cv, .slice bv mv dv] 22)) rfl rfl (by rfl) (op_buildS2 _ _ 85 (.tmp 40) (.tmp 42) rfl (.slice av nv cv) (.slice bv mv dv) rfl rfl (build85_2 U44 _ _ _ _ _ _)) ⟨⟨st52.x.cells, st52.y.cells⟩, ?_⟩
        simp only [Act.put, List.setIfInBounds_toArray, List.set_cons_zero, List.set_cons_succ]
        generalize U44.alloc (.cells #[.slice av nv cv, .slice bv mv dv] 22) = U52 at st52 hn52 h452 k7_52 k19_52 ⊢
        generalize U44.heap.size = p52 at hn52 ⊢
        refine step_call1_to 8 38 31 rfl (by kernel_rfl) rfl (by rfl) (.tmp 37) _ rfl _ rfl Try.enters31 (HC8.out U52 _ h452 k7_52) ?_
        rintro e U53 ⟨ca, can, cac, rfl, hb, ho⟩
        have st53 := st52.next hb
        have h453 := h452.trans (hb.mono h452.size)
        have k19_53 := (hb.block _ (lt_of_heap k19_52)).trans k19_52
        have k13_53 := (hb.block _ (lt_of_heap hn52)).trans hn52
        have kr53 := ho
        clear hb ho
        refine ⟨_, rfl, ⟨st53.x.cells, st53.y.cells⟩, ?_⟩
        simp only [Act.put, List.setIfInBounds_toArray, List.set_cons_zero, List.set_cons_succ]
        refine step_call1_to 14 44 31 rfl (by kernel_rfl) rfl (by rfl) (.tmp 43) _ rfl _ rfl Try.enters31 (HC14.out U53 _ h453 k13_53) ?_
        rintro e U54 ⟨cb, cbn, cbc, rfl, hb, ho⟩
        have st54 := st53.next hb
        have h454 := h453.trans (hb.mono h453.size)
        have k19_54 := (hb.block _ (lt_of_heap k19_53)).trans k19_53
        have k8_54 := kr53.belowW hb
        have kr54 := ho
        clear hb ho
        refine ⟨_, rfl, ⟨st54.x.cells, st54.y.cells⟩, ?_⟩
        simp only [Act.put, List.setIfInBounds_toArray, List.set_cons_zero, List.set_cons_succ]
        refine step_call1_to 20 50 32 rfl (by kernel_rfl) rfl (by rfl) (.tmp 49) _ rfl _ rfl Try.enters32 (HC20.out U54 _ h454 k19_54) ?_
        rintro e U55 ⟨cd, cdn, cdc, rfl, hb, ho⟩
        have st55 := st54.next hb
        have h455 := h454.trans (hb.mono h454.size)
        have k8_55 := k8_54.belowW hb
        have k14_55 := kr54.belowW hb
        have kr55 := ho
        clear hb ho
        refine ⟨_, rfl, ⟨st55.x.cells, st55.y.cells⟩, ?_⟩
        simp only [Act.put, List.setIfInBounds_toArray, List.set_cons_zero, List.set_cons_succ]
        refine step_to 23 53 (.agg #[.bool false, .slice ca can cac, .slice cb cbn cbc, .slice cd cdn cdc, .int .i64 x]) U55 rfl (by kernel_rfl) rfl (by rfl) (op_build5 _ _ 26 (.tmp 31) (.tmp 38) (.tmp 44) (.tmp 50) (.tmp 52) rfl (.bool false) (.slice ca can cac) (.slice cb cbn cbc) (.slice cd cdn cdc) (.int .i64 x) rfl rfl rfl rfl rfl (build26 U55 _ _ _ _ _ _ _ _ _ _ _)) ⟨st55.x.cells, st55.y.cells⟩ ?_
        simp only [Act.put, List.setIfInBounds_toArray, List.set_cons_zero, List.set_cons_succ]
        refine step_call1_to 24 54 26 rfl (by kernel_rfl) rfl (by rfl) (.tmp 53) _ rfl _ rfl Try.enters26 (HC24.out U55 _ _ _ st55.below st55.room ⟨k8_55, k14_55, kr55⟩) ?_
        rintro e U57 ⟨ok, ov, oi, rfl, hb, ho⟩
        have st57 := st55.next hb
        clear hb
        refine ⟨_, rfl, ⟨st57.x.cells, st57.y.cells⟩, ?_⟩
        simp only [Act.put, List.setIfInBounds_toArray, List.set_cons_zero, List.set_cons_succ]
        obtain ⟨q1, q2, q3, q4, q5⟩ := merge_tail st57 ho (.bool false) (.int .i64 x)
        refine step_store_to 25 (U57.setRow (w.heap.size + 1 + 1) #[.bool false, ok, ov, oi, .int .i64 x]) rfl (by kernel_rfl) rfl (by rfl) 26 (.tmp 6) (.tmp 54) rfl (.pointer (some ⟨w.heap.size + 1 + 1, 0, none⟩)) (.agg #[.bool false, ok, ov, oi, .int .i64 x]) rfl rfl (store26 st57.z _ _ _ _ _ (by rfl) (owns_one ho.keys) (owns_one ho.vals) (one_of_owns ho.kids) (by rfl)) ⟨q2, q3⟩ ?_
        refine wpAnyH_done (by kernel_rfl) ?_ _
        go_wp2
        refine bodyPost_ret (v := .agg #[.bool false, ok, ov, oi, .int .i64 x]) (results_cell_row Try.results14 _ _ (w.heap.size + 1 + 1) 26 #[.bool false, ok, ov, oi, .int .i64 x] (0, 0) _ rfl q1 Try.underlying26 rfl Try.size26) rfl ?_
        exact ⟨ok, ov, oi, by rw [HMX.out.1, HMX.out.2], q4, q5⟩
  · have st59 := st0.next ((Below.refl _ _).alloc (Nat.le_refl _) (.cells #[.slice av nv cv, .slice bv mv dv] 22))
    have h459 := h40.trans (((Below.refl U0.heap.size U0).alloc (Nat.le_refl _) (.cells #[.slice av nv cv, .slice bv mv dv] 22)).mono h40.size)
    have hn59 : (U0.alloc (.cells #[.slice av nv cv, .slice bv mv dv] 22)).heap[U0.heap.size]? = some (.cells #[.slice av nv cv, .slice bv mv dv] 22 (0, 0)) := heap_alloc_new U0 _
    refine op_to 43 (.slice (some ⟨U0.heap.size, 0, none⟩) 2 2) (U0.alloc (.cells #[.slice av nv cv, .slice bv mv dv] 22)) rfl rfl (by rfl) (op_buildS2 _ _ 85 (.tmp 40) (.tmp 42) rfl (.slice av nv cv) (.slice bv mv dv) rfl rfl (build85_2 U0 _ _ _ _ _ _)) ⟨⟨st59.x.cells, st59.y.cells⟩, ?_⟩
    simp only [Act.put, List.setIfInBounds_toArray, List.set_cons_zero, List.set_cons_succ]
    generalize U0.alloc (.cells #[.slice av nv cv, .slice bv mv dv] 22) = U59 at st59 hn59 h459 ⊢
    generalize U0.heap.size = p59 at hn59 ⊢
    refine wpAnyH_all (rs := [7, 19]) (by kernel_rfl) (by simp) ?_
    intro n hn
    rcases (by simpa using hn : n = 7 ∨ n = 19) with rfl | rfl
    · have st60 := st59.next ((Below.refl _ _).alloc (Nat.le_refl _) (.cells #[.slice ak nk ck, .slice (some ⟨q, 0, none⟩) 1 1, .slice bk mk dk] 22))
      have h460 := h459.trans (((Below.refl U59.heap.size U59).alloc (Nat.le_refl _) (.cells #[.slice ak nk ck, .slice (some ⟨q, 0, none⟩) 1 1, .slice bk mk dk] 22)).mono h459.size)
      have hn60 : (U59.alloc (.cells #[.slice ak nk ck, .slice (some ⟨q, 0, none⟩) 1 1, .slice bk mk dk] 22)).heap[U59.heap.size]? = some (.cells #[.slice ak nk ck, .slice (some ⟨q, 0, none⟩) 1 1, .slice bk mk dk] 22 (0, 0)) := heap_alloc_new U59 _
      have k13_60 := (Below.heap_alloc U59 (.cells #[.slice ak nk ck, .slice (some ⟨q, 0, none⟩) 1 1, .slice bk mk dk] 22) _ (lt_of_heap hn59)).trans hn59
      refine op_to 37 (.slice (some ⟨U59.heap.size, 0, none⟩) 3 3) (U59.alloc (.cells #[.slice ak nk ck, .slice (some ⟨q, 0, none⟩) 1 1, .slice bk mk dk] 22)) rfl rfl (by rfl) (op_buildS3 _ _ 85 (.tmp 33) (.tmp 34) (.tmp 36) rfl (.slice ak nk ck) (.slice (some ⟨q, 0, none⟩) 1 1) (.slice bk mk dk) rfl rfl rfl (build85_3 U59 _ _ _ _ _ _ _ _ _)) ⟨⟨st60.x.cells, st60.y.cells⟩, ?_⟩
      simp only [Act.put, List.setIfInBounds_toArray, List.set_cons_zero, List.set_cons_succ]
      generalize U59.alloc (.cells #[.slice ak nk ck, .slice (some ⟨q, 0, none⟩) 1 1, .slice bk mk dk] 22) = U60 at st60 hn60 h460 k13_60 ⊢
      generalize U59.heap.size = p60 at hn60 ⊢
      refine wpAnyH_all (rs := [8, 19]) (by kernel_rfl) (by simp) ?_
      intro n hn
      rcases (by simpa using hn : n = 8 ∨ n = 19) with rfl | rfl
      · refine op_call1_to 38 31 rfl rfl (by rfl) (.tmp 37) _ rfl _ rfl Try.enters31 (HC8.out U60 _ h460 hn60) ?_
        rintro e U61 ⟨ca, can, cac, rfl, hb, ho⟩
        have st61 := st60.next hb
        have h461 := h460.trans (hb.mono h460.size)
        have k13_61 := (hb.block _ (lt_of_heap k13_60)).trans k13_60
        have kr61 := ho
        clear hb ho
        refine ⟨_, rfl, ⟨st61.x.cells, st61.y.cells⟩, ?_⟩
        simp only [Act.put, List.setIfInBounds_toArray, List.set_cons_zero, List.set_cons_succ]
        refine wpAnyH_all (rs := [14, 19]) (by kernel_rfl) (by simp) ?_
        intro n hn
        rcases (by simpa using hn : n = 14 ∨ n = 19) with rfl | rfl
        · refine op_call1_to 44 31 rfl rfl (by rfl) (.tmp 43) _ rfl _ rfl Try.enters31 (HC14.out U61 _ h461 k13_61) ?_
          rintro e U62 ⟨cb, cbn, cbc, rfl, hb, ho⟩
          have st62 := st61.next hb
          have h462 := h461.trans (hb.mono h461.size)
          have k8_62 := kr61.belowW hb
          have kr62 := ho
          clear hb ho
          refine ⟨_, rfl, ⟨st62.x.cells, st62.y.cells⟩, ?_⟩
          simp only [Act.put, List.setIfInBounds_toArray, List.set_cons_zero, List.set_cons_succ]
          have st63 := st62.next ((Below.refl _ _).alloc (Nat.le_refl _) (.cells #[.slice ai ni ci, .slice bi mi di] 24))
          have h463 := h462.trans (((Below.refl U62.heap.size U62).alloc (Nat.le_refl _) (.cells #[.slice ai ni ci, .slice bi mi di] 24)).mono h462.size)
          have hn63 : (U62.alloc (.cells #[.slice ai ni ci, .slice bi mi di] 24)).heap[U62.heap.size]? = some (.cells #[.slice ai ni ci, .slice bi mi di] 24 (0, 0)) := heap_alloc_new U62 _
          have k8_63 := k8_62.belowW ((Below.refl U62.heap.size U62).alloc (Nat.le_refl _) (.cells #[.slice ai ni ci, .slice bi mi di] 24))
          have k14_63 := kr62.belowW ((Below.refl U62.heap.size U62).alloc (Nat.le_refl _) (.cells #[.slice ai ni ci, .slice bi mi di] 24))
          refine step_to 19 49 (.slice (some ⟨U62.heap.size, 0, none⟩) 2 2) (U62.alloc (.cells #[.slice ai ni ci, .slice bi mi di] 24)) rfl (by kernel_rfl) rfl (by rfl) (op_buildS2 _ _ 87 (.tmp 46) (.tmp 48) rfl (.slice ai ni ci) (.slice bi mi di) rfl rfl (build87_2 U62 _ _ _ _ _ _)) ⟨st63.x.cells, st63.y.cells⟩ ?_
          simp only [Act.put, List.setIfInBounds_toArray, List.set_cons_zero, List.set_cons_succ]
          generalize U62.alloc (.cells #[.slice ai ni ci, .slice bi mi di] 24) = U63 at st63 hn63 h463 k8_63 k14_63 ⊢
          generalize U62.heap.size = p63 at hn63 ⊢
          refine step_call1_to 20 50 32 rfl (by kernel_rfl) rfl (by rfl) (.tmp 49) _ rfl _ rfl Try.enters32 (HC20.out U63 _ h463 hn63) ?_
          rintro e U64 ⟨cd, cdn, cdc, rfl, hb, ho⟩
          have st64 := st63.next hb
          have h464 := h463.trans (hb.mono h463.size)
          have k8_64 := k8_63.belowW hb
          have k14_64 := k14_63.belowW hb
          have kr64 := ho
          clear hb ho
          refine ⟨_, rfl, ⟨st64.x.cells, st64.y.cells⟩, ?_⟩
          simp only [Act.put, List.setIfInBounds_toArray, List.set_cons_zero, List.set_cons_succ]
          refine step_to 23 53 (.agg #[.bool false, .slice ca can cac, .slice cb cbn cbc, .slice cd cdn cdc, .int .i64 x]) U64 rfl (by kernel_rfl) rfl (by rfl) (op_build5 _ _ 26 (.tmp 31) (.tmp 38) (.tmp 44) (.tmp 50) (.tmp 52) rfl (.bool false) (.slice ca can cac) (.slice cb cbn cbc) (.slice cd cdn cdc) (.int .i64 x) rfl rfl rfl rfl rfl (build26 U64 _ _ _ _ _ _ _ _ _ _ _)) ⟨st64.x.cells, st64.y.cells⟩ ?_
          simp only [Act.put, List.setIfInBounds_toArray, List.set_cons_zero, List.set_cons_succ]
          refine step_call1_to 24 54 26 rfl (by kernel_rfl) rfl (by rfl) (.tmp 53) _ rfl _ rfl Try.enters26 (HC24.out U64 _ _ _ st64.below st64.room ⟨k8_64, k14_64, kr64⟩) ?_
          rintro e U66 ⟨ok, ov, oi, rfl, hb, ho⟩
          have st66 := st64.next hb
          clear hb
          refine ⟨_, rfl, ⟨st66.x.cells, st66.y.cells⟩, ?_⟩
          simp only [Act.put, List.setIfInBounds_toArray, List.set_cons_zero, List.set_cons_succ]
          obtain ⟨q1, q2, q3, q4, q5⟩ := merge_tail st66 ho (.bool false) (.int .i64 x)
          refine step_store_to 25 (U66.setRow (w.heap.size + 1 + 1) #[.bool false, ok, ov, oi, .int .i64 x]) rfl (by kernel_rfl) rfl (by rfl) 26 (.tmp 6) (.tmp 54) rfl (.pointer (some ⟨w.heap.size + 1 + 1, 0, none⟩)) (.agg #[.bool false, ok, ov, oi, .int .i64 x]) rfl rfl (store26 st66.z _ _ _ _ _ (by rfl) (owns_one ho.keys) (owns_one ho.vals) (one_of_owns ho.kids) (by rfl)) ⟨q2, q3⟩ ?_
          refine wpAnyH_done (by kernel_rfl) ?_ _
          go_wp2
          refine bodyPost_ret (v := .agg #[.bool false, ok, ov, oi, .int .i64 x]) (results_cell_row Try.results14 _ _ (w.heap.size + 1 + 1) 26 #[.bool false, ok, ov, oi, .int .i64 x] (0, 0) _ rfl q1 Try.underlying26 rfl Try.size26) rfl ?_
          exact ⟨ok, ov, oi, by rw [HMX.out.1, HMX.out.2], q4, q5⟩
        · have st68 := st61.next ((Below.refl _ _).alloc (Nat.le_refl _) (.cells #[.slice ai ni ci, .slice bi mi di] 24))
          have h468 := h461.trans (((Below.refl U61.heap.size U61).alloc (Nat.le_refl _) (.cells #[.slice ai ni ci, .slice bi mi di] 24)).mono h461.size)
          have hn68 : (U61.alloc (.cells #[.slice ai ni ci, .slice bi mi di] 24)).heap[U61.heap.size]? = some (.cells #[.slice ai ni ci, .slice bi mi di] 24 (0, 0)) := heap_alloc_new U61 _
          have k13_68 := (Below.heap_alloc U61 (.cells #[.slice ai ni ci, .slice bi mi di] 24) _ (lt_of_heap k13_61)).trans k13_61
          have k8_68 := kr61.belowW ((Below.refl U61.heap.size U61).alloc (Nat.le_refl _) (.cells #[.slice ai ni ci, .slice bi mi di] 24))
          refine op_to 49 (.slice (some ⟨U61.heap.size, 0, none⟩) 2 2) (U61.alloc (.cells #[.slice ai ni ci, .slice bi mi di] 24)) rfl rfl (by rfl) (op_buildS2 _ _ 87 (.tmp 46) (.tmp 48) rfl (.slice ai ni ci) (.slice bi mi di) rfl rfl (build87_2 U61 _ _ _ _ _ _)) ⟨⟨st68.x.cells, st68.y.cells⟩, ?_⟩
          simp only [Act.put, List.setIfInBounds_toArray, List.set_cons_zero, List.set_cons_succ]
          generalize U61.alloc (.cells #[.slice ai ni ci, .slice bi mi di] 24) = U68 at st68 hn68 h468 k13_68 k8_68 ⊢
          generalize U61.heap.size = p68 at hn68 ⊢
          refine step_call1_to 14 44 31 rfl (by kernel_rfl) rfl (by rfl) (.tmp 43) _ rfl _ rfl Try.enters31 (HC14.out U68 _ h468 k13_68) ?_
          rintro e U69 ⟨cb, cbn, cbc, rfl, hb, ho⟩
          have st69 := st68.next hb
          have h469 := h468.trans (hb.mono h468.size)
          have k8_69 := k8_68.belowW hb
          have k19_69 := (hb.block _ (lt_of_heap hn68)).trans hn68
          have kr69 := ho
          clear hb ho
          refine ⟨_, rfl, ⟨st69.x.cells, st69.y.cells⟩, ?_⟩
          simp only [Act.put, List.setIfInBounds_toArray, List.set_cons_zero, List.set_cons_succ]
          refine step_call1_to 20 50 32 rfl (by kernel_rfl) rfl (by rfl) (.tmp 49) _ rfl _ rfl Try.enters32 (HC20.out U69 _ h469 k19_69) ?_
          rintro e U70 ⟨cd, cdn, cdc, rfl, hb, ho⟩
          have st70 := st69.next hb
          have h470 := h469.trans (hb.mono h469.size)
          have k8_70 := k8_69.belowW hb
          have k14_70 := kr69.belowW hb
          have kr70 := ho
          clear hb ho
          refine ⟨_, rfl, ⟨st70.x.cells, st70.y.cells⟩, ?_⟩
          simp only [Act.put, List.setIfInBounds_toArray, List.set_cons_zero, List.set_cons_succ]
          refine step_to 23 53 (.agg #[.bool false, .slice ca can cac, .slice cb cbn cbc, .slice cd cdn cdc, .int .i64 x]) U70 rfl (by kernel_rfl) rfl (by rfl) (op_build5 _ _ 26 (.tmp 31) (.tmp 38) (.tmp 44) (.tmp 50) (.tmp 52) rfl (.bool false) (.slice ca can cac) (.slice cb cbn cbc) (.slice cd cdn cdc) (.int .i64 x) rfl rfl rfl rfl rfl (build26 U70 _ _ _ _ _ _ _ _ _ _ _)) ⟨st70.x.cells, st70.y.cells⟩ ?_
          simp only [Act.put, List.setIfInBounds_toArray, List.set_cons_zero, List.set_cons_succ]
          refine step_call1_to 24 54 26 rfl (by kernel_rfl) rfl (by rfl) (.tmp 53) _ rfl _ rfl Try.enters26 (HC24.out U70 _ _ _ st70.below st70.room ⟨k8_70, k14_70, kr70⟩) ?_
          rintro e U72 ⟨ok, ov, oi, rfl, hb, ho⟩
          have st72 := st70.next hb
          clear hb
          refine ⟨_, rfl, ⟨st72.x.cells, st72.y.cells⟩, ?_⟩
          simp only [Act.put, List.setIfInBounds_toArray, List.set_cons_zero, List.set_cons_succ]
          obtain ⟨q1, q2, q3, q4, q5⟩ := merge_tail st72 ho (.bool false) (.int .i64 x)
          refine step_store_to 25 (U72.setRow (w.heap.size + 1 + 1) #[.bool false, ok, ov, oi, .int .i64 x]) rfl (by kernel_rfl) rfl (by rfl) 26 (.tmp 6) (.tmp 54) rfl (.pointer (some ⟨w.heap.size + 1 + 1, 0, none⟩)) (.agg #[.bool false, ok, ov, oi, .int .i64 x]) rfl rfl (store26 st72.z _ _ _ _ _ (by rfl) (owns_one ho.keys) (owns_one ho.vals) (one_of_owns ho.kids) (by rfl)) ⟨q2, q3⟩ ?_
          refine wpAnyH_done (by kernel_rfl) ?_ _
          go_wp2
          refine bodyPost_ret (v := .agg #[.bool false, ok, ov, oi, .int .i64 x]) (results_cell_row Try.results14 _ _ (w.heap.size + 1 + 1) 26 #[.bool false, ok, ov, oi, .int .i64 x] (0, 0) _ rfl q1 Try.underlying26 rfl Try.size26) rfl ?_
          exact ⟨ok, ov, oi, by rw [HMX.out.1, HMX.out.2], q4, q5⟩
      · have st74 := st60.next ((Below.refl _ _).alloc (Nat.le_refl _) (.cells #[.slice ai ni ci, .slice bi mi di] 24))
        have h474 := h460.trans (((Below.refl U60.heap.size U60).alloc (Nat.le_refl _) (.cells #[.slice ai ni ci, .slice bi mi di] 24)).mono h460.size)
        have hn74 : (U60.alloc (.cells #[.slice ai ni ci, .slice bi mi di] 24)).heap[U60.heap.size]? = some (.cells #[.slice ai ni ci, .slice bi mi di] 24 (0, 0)) := heap_alloc_new U60 _
        have k13_74 := (Below.heap_alloc U60 (.cells #[.slice ai ni ci, .slice bi mi di] 24) _ (lt_of_heap k13_60)).trans k13_60
        have k7_74 := (Below.heap_alloc U60 (.cells #[.slice ai ni ci, .slice bi mi di] 24) _ (lt_of_heap hn60)).trans hn60
        refine op_to 49 (.slice (some ⟨U60.heap.size, 0, none⟩) 2 2) (U60.alloc (.cells #[.slice ai ni ci, .slice bi mi di] 24)) rfl rfl (by rfl) (op_buildS2 _ _ 87 (.tmp 46) (.tmp 48) rfl (.slice ai ni ci) (.slice bi mi di) rfl rfl (build87_2 U60 _ _ _ _ _ _)) ⟨⟨st74.x.cells, st74.y.cells⟩, ?_⟩
        simp only [Act.put, List.setIfInBounds_toArray, List.set_cons_zero, List.set_cons_succ]
        generalize U60.alloc (.cells #[.slice ai ni ci, .slice bi mi di] 24) = U74 at st74 hn74 h474 k13_74 k7_74 ⊢
        generalize U60.heap.size = p74 at hn74 ⊢
        refine step_call1_to 8 38 31 rfl (by kernel_rfl) rfl (by rfl) (.tmp 37) _ rfl _ rfl Try.enters31 (HC8.out U74 _ h474 k7_74) ?_
        rintro e U75 ⟨ca, can, cac, rfl, hb, ho⟩
        have st75 := st74.next hb
        have h475 := h474.trans (hb.mono h474.size)
        have k13_75 := (hb.block _ (lt_of_heap k13_74)).trans k13_74
        have k19_75 := (hb.block _ (lt_of_heap hn74)).trans hn74
        have kr75 := ho
        clear hb ho
        refine ⟨_, rfl, ⟨st75.x.cells, st75.y.cells⟩, ?_⟩
        simp only [Act.put, List.setIfInBounds_toArray, List.set_cons_zero, List.set_cons_succ]
        refine step_call1_to 14 44 31 rfl (by kernel_rfl) rfl (by rfl) (.tmp 43) _ rfl _ rfl Try.enters31 (HC14.out U75 _ h475 k13_75) ?_
        rintro e U76 ⟨cb, cbn, cbc, rfl, hb, ho⟩
        have st76 := st75.next hb
        have h476 := h475.trans (hb.mono h475.size)
        have k19_76 := (hb.block _ (lt_of_heap k19_75)).trans k19_75
        have k8_76 := kr75.belowW hb
        have kr76 := ho
        clear hb ho
        refine ⟨_, rfl, ⟨st76.x.cells, st76.y.cells⟩, ?_⟩
        simp only [Act.put, List.setIfInBounds_toArray, List.set_cons_zero, List.set_cons_succ]
        refine step_call1_to 20 50 32 rfl (by kernel_rfl) rfl (by rfl) (.tmp 49) _ rfl _ rfl Try.enters32 (HC20.out U76 _ h476 k19_76) ?_
        rintro e U77 ⟨cd, cdn, cdc, rfl, hb, ho⟩
        have st77 := st76.next hb
        have h477 := h476.trans (hb.mono h476.size)
        have k8_77 := k8_76.belowW hb
        have k14_77 := kr76.belowW hb
        have kr77 := ho
        clear hb ho
        refine ⟨_, rfl, ⟨st77.x.cells, st77.y.cells⟩, ?_⟩
        simp only [Act.put, List.setIfInBounds_toArray, List.set_cons_zero, List.set_cons_succ]
        refine step_to 23 53 (.agg #[.bool false, .slice ca can cac, .slice cb cbn cbc, .slice cd cdn cdc, .int .i64 x]) U77 rfl (by kernel_rfl) rfl (by rfl) (op_build5 _ _ 26 (.tmp 31) (.tmp 38) (.tmp 44) (.tmp 50) (.tmp 52) rfl (.bool false) (.slice ca can cac) (.slice cb cbn cbc) (.slice cd cdn cdc) (.int .i64 x) rfl rfl rfl rfl rfl (build26 U77 _ _ _ _ _ _ _ _ _ _ _)) ⟨st77.x.cells, st77.y.cells⟩ ?_
        simp only [Act.put, List.setIfInBounds_toArray, List.set_cons_zero, List.set_cons_succ]
        refine step_call1_to 24 54 26 rfl (by kernel_rfl) rfl (by rfl) (.tmp 53) _ rfl _ rfl Try.enters26 (HC24.out U77 _ _ _ st77.below st77.room ⟨k8_77, k14_77, kr77⟩) ?_
        rintro e U79 ⟨ok, ov, oi, rfl, hb, ho⟩
        have st79 := st77.next hb
        clear hb
        refine ⟨_, rfl, ⟨st79.x.cells, st79.y.cells⟩, ?_⟩
        simp only [Act.put, List.setIfInBounds_toArray, List.set_cons_zero, List.set_cons_succ]
        obtain ⟨q1, q2, q3, q4, q5⟩ := merge_tail st79 ho (.bool false) (.int .i64 x)
        refine step_store_to 25 (U79.setRow (w.heap.size + 1 + 1) #[.bool false, ok, ov, oi, .int .i64 x]) rfl (by kernel_rfl) rfl (by rfl) 26 (.tmp 6) (.tmp 54) rfl (.pointer (some ⟨w.heap.size + 1 + 1, 0, none⟩)) (.agg #[.bool false, ok, ov, oi, .int .i64 x]) rfl rfl (store26 st79.z _ _ _ _ _ (by rfl) (owns_one ho.keys) (owns_one ho.vals) (one_of_owns ho.kids) (by rfl)) ⟨q2, q3⟩ ?_
        refine wpAnyH_done (by kernel_rfl) ?_ _
        go_wp2
        refine bodyPost_ret (v := .agg #[.bool false, ok, ov, oi, .int .i64 x]) (results_cell_row Try.results14 _ _ (w.heap.size + 1 + 1) 26 #[.bool false, ok, ov, oi, .int .i64 x] (0, 0) _ rfl q1 Try.underlying26 rfl Try.size26) rfl ?_
        exact ⟨ok, ov, oi, by rw [HMX.out.1, HMX.out.2], q4, q5⟩
    · have st81 := st59.next ((Below.refl _ _).alloc (Nat.le_refl _) (.cells #[.slice ai ni ci, .slice bi mi di] 24))
      have h481 := h459.trans (((Below.refl U59.heap.size U59).alloc (Nat.le_refl _) (.cells #[.slice ai ni ci, .slice bi mi di] 24)).mono h459.size)
      have hn81 : (U59.alloc (.cells #[.slice ai ni ci, .slice bi mi di] 24)).heap[U59.heap.size]? = some (.cells #[.slice ai ni ci, .slice bi mi di] 24 (0, 0)) := heap_alloc_new U59 _
      have k13_81 := (Below.heap_alloc U59 (.cells #[.slice ai ni ci, .slice bi mi di] 24) _ (lt_of_heap hn59)).trans hn59
      refine op_to 49 (.slice (some ⟨U59.heap.size, 0, none⟩) 2 2) (U59.alloc (.cells #[.slice ai ni ci, .slice bi mi di] 24)) rfl rfl (by rfl) (op_buildS2 _ _ 87 (.tmp 46) (.tmp 48) rfl (.slice ai ni ci) (.slice bi mi di) rfl rfl (build87_2 U59 _ _ _ _ _ _)) ⟨⟨st81.x.cells, st81.y.cells⟩, ?_⟩
      simp only [Act.put, List.setIfInBounds_toArray, List.set_cons_zero, List.set_cons_succ]
      generalize U59.alloc (.cells #[.slice ai ni ci, .slice bi mi di] 24) = U81 at st81 hn81 h481 k13_81 ⊢
      generalize U59.heap.size = p81 at hn81 ⊢
      have st82 := st81.next ((Below.refl _ _).alloc (Nat.le_refl _) (.cells #[.slice ak nk ck, .slice (some ⟨q, 0, none⟩) 1 1, .slice bk mk dk] 22))
      have h482 := h481.trans (((Below.refl U81.heap.size U81).alloc (Nat.le_refl _) (.cells #[.slice ak nk ck, .slice (some ⟨q, 0, none⟩) 1 1, .slice bk mk dk] 22)).mono h481.size)
      have hn82 : (U81.alloc (.cells #[.slice ak nk ck, .slice (some ⟨q, 0, none⟩) 1 1, .slice bk mk dk] 22)).heap[U81.heap.size]? = some (.cells #[.slice ak nk ck, .slice (some ⟨q, 0, none⟩) 1 1, .slice bk mk dk] 22 (0, 0)) := heap_alloc_new U81 _
      have k13_82 := (Below.heap_alloc U81 (.cells #[.slice ak nk ck, .slice (some ⟨q, 0, none⟩) 1 1, .slice bk mk dk] 22) _ (lt_of_heap k13_81)).trans k13_81
      have k19_82 := (Below.heap_alloc U81 (.cells #[.slice ak nk ck, .slice (some ⟨q, 0, none⟩) 1 1, .slice bk mk dk] 22) _ (lt_of_heap hn81)).trans hn81
      refine step_to 7 37 (.slice (some ⟨U81.heap.size, 0, none⟩) 3 3) (U81.alloc (.cells #[.slice ak nk ck, .slice (some ⟨q, 0, none⟩) 1 1, .slice bk mk dk] 22)) rfl (by kernel_rfl) rfl (by rfl) (op_buildS3 _ _ 85 (.tmp 33) (.tmp 34) (.tmp 36) rfl (.slice ak nk ck) (.slice (some ⟨q, 0, none⟩) 1 1) (.slice bk mk dk) rfl rfl rfl (build85_3 U81 _ _ _ _ _ _ _ _ _)) ⟨st82.x.cells, st82.y.cells⟩ ?_
      simp only [Act.put, List.setIfInBounds_toArray, List.set_cons_zero, List.set_cons_succ]
      generalize U81.alloc (.cells #[.slice ak nk ck, .slice (some ⟨q, 0, none⟩) 1 1, .slice bk mk dk] 22) = U82 at st82 hn82 h482 k13_82 k19_82 ⊢
      generalize U81.heap.size = p82 at hn82 ⊢
      refine step_call1_to 8 38 31 rfl (by kernel_rfl) rfl (by rfl) (.tmp 37) _ rfl _ rfl Try.enters31 (HC8.out U82 _ h482 hn82) ?_
      rintro e U83 ⟨ca, can, cac, rfl, hb, ho⟩
      have st83 := st82.next hb
      have h483 := h482.trans (hb.mono h482.size)
      have k13_83 := (hb.block _ (lt_of_heap k13_82)).trans k13_82
      have k19_83 := (hb.block _ (lt_of_heap k19_82)).trans k19_82
      have kr83 := ho
      clear hb ho
      refine ⟨_, rfl, ⟨st83.x.cells, st83.y.cells⟩, ?_⟩
      simp only [Act.put, List.setIfInBounds_toArray, List.set_cons_zero, List.set_cons_succ]
      refine step_call1_to 14 44 31 rfl (by kernel_rfl) rfl (by rfl) (.tmp 43) _ rfl _ rfl Try.enters31 (HC14.out U83 _ h483 k13_83) ?_
      rintro e U84 ⟨cb, cbn, cbc, rfl, hb, ho⟩
      have st84 := st83.next hb
      have h484 := h483.trans (hb.mono h483.size)
      have k19_84 := (hb.block _ (lt_of_heap k19_83)).trans k19_83
      have k8_84 := kr83.belowW hb
      have kr84 := ho
      clear hb ho
      refine ⟨_, rfl, ⟨st84.x.cells, st84.y.cells⟩, ?_⟩
      simp only [Act.put, List.setIfInBounds_toArray, List.set_cons_zero, List.set_cons_succ]
      refine step_call1_to 20 50 32 rfl (by kernel_rfl) rfl (by rfl) (.tmp 49) _ rfl _ rfl Try.enters32 (HC20.out U84 _ h484 k19_84) ?_
      rintro e U85 ⟨cd, cdn, cdc, rfl, hb, ho⟩
      have st85 := st84.next hb
      have h485 := h484.trans (hb.mono h484.size)
      have k8_85 := k8_84.belowW hb
      have k14_85 := kr84.belowW hb
      have kr85 := ho
      clear hb ho
      refine ⟨_, rfl, ⟨st85.x.cells, st85.y.cells⟩, ?_⟩
      simp only [Act.put, List.setIfInBounds_toArray, List.set_cons_zero, List.set_cons_succ]
      refine step_to 23 53 (.agg #[.bool false, .slice ca can cac, .slice cb cbn cbc, .slice cd cdn cdc, .int .i64 x]) U85 rfl (by kernel_rfl) rfl (by rfl) (op_build5 _ _ 26 (.tmp 31) (.tmp 38) (.tmp 44) (.tmp 50) (.tmp 52) rfl (.bool false) (.slice ca can cac) (.slice cb cbn cbc) (.slice cd cdn cdc) (.int .i64 x) rfl rfl rfl rfl rfl (build26 U85 _ _ _ _ _ _ _ _ _ _ _)) ⟨st85.x.cells, st85.y.cells⟩ ?_
      simp only [Act.put, List.setIfInBounds_toArray, List.set_cons_zero, List.set_cons_succ]
      refine step_call1_to 24 54 26 rfl (by kernel_rfl) rfl (by rfl) (.tmp 53) _ rfl _ rfl Try.enters26 (HC24.out U85 _ _ _ st85.below st85.room ⟨k8_85, k14_85, kr85⟩) ?_
      rintro e U87 ⟨ok, ov, oi, rfl, hb, ho⟩
      have st87 := st85.next hb
      clear hb
      refine ⟨_, rfl, ⟨st87.x.cells, st87.y.cells⟩, ?_⟩
      simp only [Act.put, List.setIfInBounds_toArray, List.set_cons_zero, List.set_cons_succ]
      obtain ⟨q1, q2, q3, q4, q5⟩ := merge_tail st87 ho (.bool false) (.int .i64 x)
      refine step_store_to 25 (U87.setRow (w.heap.size + 1 + 1) #[.bool false, ok, ov, oi, .int .i64 x]) rfl (by kernel_rfl) rfl (by rfl) 26 (.tmp 6) (.tmp 54) rfl (.pointer (some ⟨w.heap.size + 1 + 1, 0, none⟩)) (.agg #[.bool false, ok, ov, oi, .int .i64 x]) rfl rfl (store26 st87.z _ _ _ _ _ (by rfl) (owns_one ho.keys) (owns_one ho.vals) (one_of_owns ho.kids) (by rfl)) ⟨q2, q3⟩ ?_
      refine wpAnyH_done (by kernel_rfl) ?_ _
      go_wp2
      refine bodyPost_ret (v := .agg #[.bool false, ok, ov, oi, .int .i64 x]) (results_cell_row Try.results14 _ _ (w.heap.size + 1 + 1) 26 #[.bool false, ok, ov, oi, .int .i64 x] (0, 0) _ rfl q1 Try.underlying26 rfl Try.size26) rfl ?_
      exact ⟨ok, ov, oi, by rw [HMX.out.1, HMX.out.2], q4, q5⟩
  · have st89 := st0.next ((Below.refl _ _).alloc (Nat.le_refl _) (.cells #[.slice ai ni ci, .slice bi mi di] 24))
    have h489 := h40.trans (((Below.refl U0.heap.size U0).alloc (Nat.le_refl _) (.cells #[.slice ai ni ci, .slice bi mi di] 24)).mono h40.size)
    have hn89 : (U0.alloc (.cells #[.slice ai ni ci, .slice bi mi di] 24)).heap[U0.heap.size]? = some (.cells #[.slice ai ni ci, .slice bi mi di] 24 (0, 0)) := heap_alloc_new U0 _
    refine op_to 49 (.slice (some ⟨U0.heap.size, 0, none⟩) 2 2) (U0.alloc (.cells #[.slice ai ni ci, .slice bi mi di] 24)) rfl rfl (by rfl) (op_buildS2 _ _ 87 (.tmp 46) (.tmp 48) rfl (.slice ai ni ci) (.slice bi mi di) rfl rfl (build87_2 U0 _ _ _ _ _ _)) ⟨⟨st89.x.cells, st89.y.cells⟩, ?_⟩
    simp only [Act.put, List.setIfInBounds_toArray, List.set_cons_zero, List.set_cons_succ]
    generalize U0.alloc (.cells #[.slice ai ni ci, .slice bi mi di] 24) = U89 at st89 hn89 h489 ⊢
    generalize U0.heap.size = p89 at hn89 ⊢
    refine wpAnyH_all (rs := [7, 13]) (by kernel_rfl) (by simp) ?_
    intro n hn
    rcases (by simpa using hn : n = 7 ∨ n = 13) with rfl | rfl
    · have st90 := st89.next ((Below.refl _ _).alloc (Nat.le_refl _) (.cells #[.slice ak nk ck, .slice (some ⟨q, 0, none⟩) 1 1, .slice bk mk dk] 22))
      have h490 := h489.trans (((Below.refl U89.heap.size U89).alloc (Nat.le_refl _) (.cells #[.slice ak nk ck, .slice (some ⟨q, 0, none⟩) 1 1, .slice bk mk dk] 22)).mono h489.size)
      have hn90 : (U89.alloc (.cells #[.slice ak nk ck, .slice (some ⟨q, 0, none⟩) 1 1, .slice bk mk dk] 22)).heap[U89.heap.size]? = some (.cells #[.slice ak nk ck, .slice (some ⟨q, 0, none⟩) 1 1, .slice bk mk dk] 22 (0, 0)) := heap_alloc_new U89 _
      have k19_90 := (Below.heap_alloc U89 (.cells #[.slice ak nk ck, .slice (some ⟨q, 0, none⟩) 1 1, .slice bk mk dk] 22) _ (lt_of_heap hn89)).trans hn89
      refine op_to 37 (.slice (some ⟨U89.heap.size, 0, none⟩) 3 3) (U89.alloc (.cells #[.slice ak nk ck, .slice (some ⟨q, 0, none⟩) 1 1, .slice bk mk dk] 22)) rfl rfl (by rfl) (op_buildS3 _ _ 85 (.tmp 33) (.tmp 34) (.tmp 36) rfl (.slice ak nk ck) (.slice (some ⟨q, 0, none⟩) 1 1) (.slice bk mk dk) rfl rfl rfl (build85_3 U89 _ _ _ _ _ _ _ _ _)) ⟨⟨st90.x.cells, st90.y.cells⟩, ?_⟩
      simp only [Act.put, List.setIfInBounds_toArray, List.set_cons_zero, List.set_cons_succ]
      generalize U89.alloc (.cells #[.slice ak nk ck, .slice (some ⟨q, 0, none⟩) 1 1, .slice bk mk dk] 22) = U90 at st90 hn90 h490 k19_90 ⊢
      generalize U89.heap.size = p90 at hn90 ⊢
      refine wpAnyH_all (rs := [8, 13]) (by kernel_rfl) (by simp) ?_
      intro n hn
      rcases (by simpa using hn : n = 8 ∨ n = 13) with rfl | rfl
      · refine op_call1_to 38 31 rfl rfl (by rfl) (.tmp 37) _ rfl _ rfl Try.enters31 (HC8.out U90 _ h490 hn90) ?_
        rintro e U91 ⟨ca, can, cac, rfl, hb, ho⟩
        have st91 := st90.next hb
        have h491 := h490.trans (hb.mono h490.size)
        have k19_91 := (hb.block _ (lt_of_heap k19_90)).trans k19_90
        have kr91 := ho
        clear hb ho
        refine ⟨_, rfl, ⟨st91.x.cells, st91.y.cells⟩, ?_⟩
        simp only [Act.put, List.setIfInBounds_toArray, List.set_cons_zero, List.set_cons_succ]
        have st92 := st91.next ((Below.refl _ _).alloc (Nat.le_refl _) (.cells #[.slice av nv cv, .slice bv mv dv] 22))
        have h492 := h491.trans (((Below.refl U91.heap.size U91).alloc (Nat.le_refl _) (.cells #[.slice av nv cv, .slice bv mv dv] 22)).mono h491.size)
        have hn92 : (U91.alloc (.cells #[.slice av nv cv, .slice bv mv dv] 22)).heap[U91.heap.size]? = some (.cells #[.slice av nv cv, .slice bv mv dv] 22 (0, 0)) := heap_alloc_new U91 _
        have k19_92 := (Below.heap_alloc U91 (.cells #[.slice av nv cv, .slice bv mv dv] 22) _ (lt_of_heap k19_91)).trans k19_91
        have k8_92 := kr91.belowW ((Below.refl U91.heap.size U91).alloc (Nat.le_refl _) (.cells #[.slice av nv cv, .slice bv mv dv] 22))
        refine step_to 13 43 (.slice (some ⟨U91.heap.size, 0, none⟩) 2 2) (U91.alloc (.cells #[.slice av nv cv, .slice bv mv dv] 22)) rfl (by kernel_rfl) rfl (by rfl) (op_buildS2 _ _ 85 (.tmp 40) (.tmp 42) rfl (.slice av nv cv) (.slice bv mv dv) rfl rfl (build85_2 U91 _ _ _ _ _ _)) ⟨st92.x.cells, st92.y.cells⟩ ?_
        simp only [Act.put, List.setIfInBounds_toArray, List.set_cons_zero, List.set_cons_succ]
        generalize U91.alloc (.cells #[.slice av nv cv, .slice bv mv dv] 22) = U92 at st92 hn92 h492 k19_92 k8_92 ⊢
        generalize U91.heap.size = p92 at hn92 ⊢
        refine step_call1_to 14 44 31 rfl (by kernel_rfl) rfl (by rfl) (.tmp 43) _ rfl _ rfl Try.enters31 (HC14.out U92 _ h492 hn92) ?_
        rintro e U93 ⟨cb, cbn, cbc, rfl, hb, ho⟩
        have st93 := st92.next hb
        have h493 := h492.trans (hb.mono h492.size)
        have k19_93 := (hb.block _ (lt_of_heap k19_92)).trans k19_92
        have k8_93 := k8_92.belowW hb
        have kr93 := ho
        clear hb ho
        refine ⟨_, rfl, ⟨st93.x.cells, st93.y.cells⟩, ?_⟩
        simp only [Act.put, List.setIfInBounds_toArray, List.set_cons_zero, List.set_cons_succ]
        refine step_call1_to 20 50 32 rfl (by kernel_rfl) rfl (by rfl) (.tmp 49) _ rfl _ rfl Try.enters32 (HC20.out U93 _ h493 k19_93) ?_
        rintro e U94 ⟨cd, cdn, cdc, rfl, hb, ho⟩
        have st94 := st93.next hb
        have h494 := h493.trans (hb.mono h493.size)
        have k8_94 := k8_93.belowW hb
        have k14_94 := kr93.belowW hb
        have kr94 := ho
        clear hb ho
        refine ⟨_, rfl, ⟨st94.x.cells, st94.y.cells⟩, ?_⟩
        simp only [Act.put, List.setIfInBounds_toArray, List.set_cons_zero, List.set_cons_succ]
        refine step_to 23 53 (.agg #[.bool false, .slice ca can cac, .slice cb cbn cbc, .slice cd cdn cdc, .int .i64 x]) U94 rfl (by kernel_rfl) rfl (by rfl) (op_build5 _ _ 26 (.tmp 31) (.tmp 38) (.tmp 44) (.tmp 50) (.tmp 52) rfl (.bool false) (.slice ca can cac) (.slice cb cbn cbc) (.slice cd cdn cdc) (.int .i64 x) rfl rfl rfl rfl rfl (build26 U94 _ _ _ _ _ _ _ _ _ _ _)) ⟨st94.x.cells, st94.y.cells⟩ ?_
        simp only [Act.put, List.setIfInBounds_toArray, List.set_cons_zero, List.set_cons_succ]
        refine step_call1_to 24 54 26 rfl (by kernel_rfl) rfl (by rfl) (.tmp 53) _ rfl _ rfl Try.enters26 (HC24.out U94 _ _ _ st94.below st94.room ⟨k8_94, k14_94, kr94⟩) ?_
        rintro e U96 ⟨ok, ov, oi, rfl, hb, ho⟩
        have st96 := st94.next hb
        clear hb
        refine ⟨_, rfl, ⟨st96.x.cells, st96.y.cells⟩, ?_⟩
        simp only [Act.put, List.setIfInBounds_toArray, List.set_cons_zero, List.set_cons_succ]
        obtain ⟨q1, q2, q3, q4, q5⟩ := merge_tail st96 ho (.bool false) (.int .i64 x)
        refine step_store_to 25 (U96.setRow (w.heap.size + 1 + 1) #[.bool false, ok, ov, oi, .int .i64 x]) rfl (by kernel_rfl) rfl (by rfl) 26 (.tmp 6) (.tmp 54) rfl (.pointer (some ⟨w.heap.size + 1 + 1, 0, none⟩)) (.agg #[.bool false, ok, ov, oi, .int .i64 x]) rfl rfl (store26 st96.z _ _ _ _ _ (by rfl) (owns_one ho.keys) (owns_one ho.vals) (one_of_owns ho.kids) (by rfl)) ⟨q2, q3⟩ ?_
        refine wpAnyH_done (by kernel_rfl) ?_ _
        go_wp2
        refine bodyPost_ret (v := .agg #[.bool false, ok, ov, oi, .int .i64 x]) (results_cell_row Try.results14 _ _ (w.heap.size + 1 + 1) 26 #[.bool false, ok, ov, oi, .int .i64 x] (0, 0) _ rfl q1 Try.underlying26 rfl Try.size26) rfl ?_
        exact ⟨ok, ov, oi, by rw [HMX.out.1, HMX.out.2], q4, q5⟩
      · have st98 := st90.next ((Below.refl _ _).alloc (Nat.le_refl _) (.cells #[.slice av nv cv, .slice bv mv dv] 22))
        have h498 := h490.trans (((Below.refl U90.heap.size U90).alloc (Nat.le_refl _) (.cells #[.slice av nv cv, .slice bv mv dv] 22)).mono h490.size)
        have hn98 : (U90.alloc (.cells #[.slice av nv cv, .slice bv mv dv] 22)).heap[U90.heap.size]? = some (.cells #[.slice av nv cv, .slice bv mv dv] 22 (0, 0)) := heap_alloc_new U90 _
        have k19_98 := (Below.heap_alloc U90 (.cells #[.slice av nv cv, .slice bv mv dv] 22) _ (lt_of_heap k19_90)).trans k19_90
        have k7_98 := (Below.heap_alloc U90 (.cells #[.slice av nv cv, .slice bv mv dv] 22) _ (lt_of_heap hn90)).trans hn90
        refine op_to 43 (.slice (some ⟨U90.heap.size, 0, none⟩) 2 2) (U90.alloc (.cells #[.slice av nv cv, .slice bv mv dv] 22)) rfl rfl (by rfl) (op_buildS2 _ _ 85 (.tmp 40) (.tmp 42) rfl (.slice av nv cv) (.slice bv mv dv) rfl rfl (build85_2 U90 _ _ _ _ _ _)) ⟨⟨st98.x.cells, st98.y.cells⟩, ?_⟩
        simp only [Act.put, List.setIfInBounds_toArray, List.set_cons_zero, List.set_cons_succ]
        generalize U90.alloc (.cells #[.slice av nv cv, .slice bv mv dv] 22) = U98 at st98 hn98 h498 k19_98 k7_98 ⊢
        generalize U90.heap.size = p98 at hn98 ⊢
        refine step_call1_to 8 38 31 rfl (by kernel_rfl) rfl (by rfl) (.tmp 37) _ rfl _ rfl Try.enters31 (HC8.out U98 _ h498 k7_98) ?_
        rintro e U99 ⟨ca, can, cac, rfl, hb, ho⟩
        have st99 := st98.next hb
        have h499 := h498.trans (hb.mono h498.size)
        have k19_99 := (hb.block _ (lt_of_heap k19_98)).trans k19_98
        have k13_99 := (hb.block _ (lt_of_heap hn98)).trans hn98
        have kr99 := ho
        clear hb ho
        refine ⟨_, rfl, ⟨st99.x.cells, st99.y.cells⟩, ?_⟩
        simp only [Act.put, List.setIfInBounds_toArray, List.set_cons_zero, List.set_cons_succ]
        refine step_call1_to 14 44 31 rfl (by kernel_rfl) rfl (by rfl) (.tmp 43) _ rfl _ rfl Try.enters31 (HC14.out U99 _ h499 k13_99) ?_
        rintro e U100 ⟨cb, cbn, cbc, rfl, hb, ho⟩
        have st100 := st99.next hb
        have h4100 := h499.trans (hb.mono h499.size)
        have k19_100 := (hb.block _ (lt_of_heap k19_99)).trans k19_99
        have k8_100 := kr99.belowW hb
        have kr100 := ho
        clear hb ho
        refine ⟨_, rfl, ⟨st100.x.cells, st100.y.cells⟩, ?_⟩
        simp only [Act.put, List.setIfInBounds_toArray, List.set_cons_zero, List.set_cons_succ]
        refine step_call1_to 20 50 32 rfl (by kernel_rfl) rfl (by rfl) (.tmp 49) _ rfl _ rfl Try.enters32 (HC20.out U100 _ h4100 k19_100) ?_
        rintro e U101 ⟨cd, cdn, cdc, rfl, hb, ho⟩
        have st101 := st100.next hb
        have h4101 := h4100.trans (hb.mono h4100.size)
        have k8_101 := k8_100.belowW hb
        have k14_101 := kr100.belowW hb
        have kr101 := ho
        clear hb ho
        refine ⟨_, rfl, ⟨st101.x.cells, st101.y.cells⟩, ?_⟩
        simp only [Act.put, List.setIfInBounds_toArray, List.set_cons_zero, List.set_cons_succ]
        refine step_to 23 53 (.agg #[.bool false, .slice ca can cac, .slice cb cbn cbc, .slice cd cdn cdc, .int .i64 x]) U101 rfl (by kernel_rfl) rfl (by rfl) (op_build5 _ _ 26 (.tmp 31) (.tmp 38) (.tmp 44) (.tmp 50) (.tmp 52) rfl (.bool false) (.slice ca can cac) (.slice cb cbn cbc) (.slice cd cdn cdc) (.int .i64 x) rfl rfl rfl rfl rfl (build26 U101 _ _ _ _ _ _ _ _ _ _ _)) ⟨st101.x.cells, st101.y.cells⟩ ?_
        simp only [Act.put, List.setIfInBounds_toArray, List.set_cons_zero, List.set_cons_succ]
        refine step_call1_to 24 54 26 rfl (by kernel_rfl) rfl (by rfl) (.tmp 53) _ rfl _ rfl Try.enters26 (HC24.out U101 _ _ _ st101.below st101.room ⟨k8_101, k14_101, kr101⟩) ?_
        rintro e U103 ⟨ok, ov, oi, rfl, hb, ho⟩
        have st103 := st101.next hb
        clear hb
        refine ⟨_, rfl, ⟨st103.x.cells, st103.y.cells⟩, ?_⟩
        simp only [Act.put, List.setIfInBounds_toArray, List.set_cons_zero, List.set_cons_succ]
        obtain ⟨q1, q2, q3, q4, q5⟩ := merge_tail st103 ho (.bool false) (.int .i64 x)
        refine step_store_to 25 (U103.setRow (w.heap.size + 1 + 1) #[.bool false, ok, ov, oi, .int .i64 x]) rfl (by kernel_rfl) rfl (by rfl) 26 (.tmp 6) (.tmp 54) rfl (.pointer (some ⟨w.heap.size + 1 + 1, 0, none⟩)) (.agg #[.bool false, ok, ov, oi, .int .i64 x]) rfl rfl (store26 st103.z _ _ _ _ _ (by rfl) (owns_one ho.keys) (owns_one ho.vals) (one_of_owns ho.kids) (by rfl)) ⟨q2, q3⟩ ?_
        refine wpAnyH_done (by kernel_rfl) ?_ _
        go_wp2
        refine bodyPost_ret (v := .agg #[.bool false, ok, ov, oi, .int .i64 x]) (results_cell_row Try.results14 _ _ (w.heap.size + 1 + 1) 26 #[.bool false, ok, ov, oi, .int .i64 x] (0, 0) _ rfl q1 Try.underlying26 rfl Try.size26) rfl ?_
        exact ⟨ok, ov, oi, by rw [HMX.out.1, HMX.out.2], q4, q5⟩
    · have st105 := st89.next ((Below.refl _ _).alloc (Nat.le_refl _) (.cells #[.slice av nv cv, .slice bv mv dv] 22))
      have h4105 := h489.trans (((Below.refl U89.heap.size U89).alloc (Nat.le_refl _) (.cells #[.slice av nv cv, .slice bv mv dv] 22)).mono h489.size)
      have hn105 : (U89.alloc (.cells #[.slice av nv cv, .slice bv mv dv] 22)).heap[U89.heap.size]? = some (.cells #[.slice av nv cv, .slice bv mv dv] 22 (0, 0)) := heap_alloc_new U89 _
      have k19_105 := (Below.heap_alloc U89 (.cells #[.slice av nv cv, .slice bv mv dv] 22) _ (lt_of_heap hn89)).trans hn89
      refine op_to 43 (.slice (some ⟨U89.heap.size, 0, none⟩) 2 2) (U89.alloc (.cells #[.slice av nv cv, .slice bv mv dv] 22)) rfl rfl (by rfl) (op_buildS2 _ _ 85 (.tmp 40) (.tmp 42) rfl (.slice av nv cv) (.slice bv mv dv) rfl rfl (build85_2 U89 _ _ _ _ _ _)) ⟨⟨st105.x.cells, st105.y.cells⟩, ?_⟩
      simp only [Act.put, List.setIfInBounds_toArray, List.set_cons_zero, List.set_cons_succ]
      generalize U89.alloc (.cells #[.slice av nv cv, .slice bv mv dv] 22) = U105 at st105 hn105 h4105 k19_105 ⊢
      generalize U89.heap.size = p105 at hn105 ⊢
      have st106 := st105.next ((Below.refl _ _).alloc (Nat.le_refl _) (.cells #[.slice ak nk ck, .slice (some ⟨q, 0, none⟩) 1 1, .slice bk mk dk] 22))
      have h4106 := h4105.trans (((Below.refl U105.heap.size U105).alloc (Nat.le_refl _) (.cells #[.slice ak nk ck, .slice (some ⟨q, 0, none⟩) 1 1, .slice bk mk dk] 22)).mono h4105.size)
      have hn106 : (U105.alloc (.cells #[.slice ak nk ck, .slice (some ⟨q, 0, none⟩) 1 1, .slice bk mk dk] 22)).heap[U105.heap.size]? = some (.cells #[.slice ak nk ck, .slice (some ⟨q, 0, none⟩) 1 1, .slice bk mk dk] 22 (0, 0)) := heap_alloc_new U105 _
      have k19_106 := (Below.heap_alloc U105 (.cells #[.slice ak nk ck, .slice (some ⟨q, 0, none⟩) 1 1, .slice bk mk dk] 22) _ (lt_of_heap k19_105)).trans k19_105
      have k13_106 := (Below.heap_alloc U105 (.cells #[.slice ak nk ck, .slice (some ⟨q, 0, none⟩) 1 1, .slice bk mk dk] 22) _ (lt_of_heap hn105)).trans hn105
      refine step_to 7 37 (.slice (some ⟨U105.heap.size, 0, none⟩) 3 3) (U105.alloc (.cells #[.slice ak nk ck, .slice (some ⟨q, 0, none⟩) 1 1, .slice bk mk dk] 22)) rfl (by kernel_rfl) rfl (by rfl) (op_buildS3 _ _ 85 (.tmp 33) (.tmp 34) (.tmp 36) rfl (.slice ak nk ck) (.slice (some ⟨q, 0, none⟩) 1 1) (.slice bk mk dk) rfl rfl rfl (build85_3 U105 _ _ _ _ _ _ _ _ _)) ⟨st106.x.cells, st106.y.cells⟩ ?_
      simp only [Act.put, List.setIfInBounds_toArray, List.set_cons_zero, List.set_cons_succ]
      generalize U105.alloc (.cells #[.slice ak nk ck, .slice (some ⟨q, 0, none⟩) 1 1, .slice bk mk dk] 22) = U106 at st106 hn106 h4106 k19_106 k13_106 ⊢
      generalize U105.heap.size = p106 at hn106 ⊢
      refine step_call1_to 8 38 31 rfl (by kernel_rfl) rfl (by rfl) (.tmp 37) _ rfl _ rfl Try.enters31 (HC8.out U106 _ h4106 hn106) ?_
      rintro e U107 ⟨ca, can, cac, rfl, hb, ho⟩
      have st107 := st106.next hb
      have h4107 := h4106.trans (hb.mono h4106.size)
      have k19_107 := (hb.block _ (lt_of_heap k19_106)).trans k19_106
      have k13_107 := (hb.block _ (lt_of_heap k13_106)).trans k13_106
      have kr107 := ho
      clear hb ho
      refine ⟨_, rfl, ⟨st107.x.cells, st107.y.cells⟩, ?_⟩
      simp only [Act.put, List.setIfInBounds_toArray, List.set_cons_zero, List.set_cons_succ]
      refine step_call1_to 14 44 31 rfl (by kernel_rfl) rfl (by rfl) (.tmp 43) _ rfl _ rfl Try.enters31 (HC14.out U107 _ h4107 k13_107) ?_
      rintro e U108 ⟨cb, cbn, cbc, rfl, hb, ho⟩
      have st108 := st107.next hb
      have h4108 := h4107.trans (hb.mono h4107.size)
      have k19_108 := (hb.block _ (lt_of_heap k19_107)).trans k19_107
      have k8_108 := kr107.belowW hb
      have kr108 := ho
      clear hb ho
      refine ⟨_, rfl, ⟨st108.x.cells, st108.y.cells⟩, ?_⟩
      simp only [Act.put, List.setIfInBounds_toArray, List.set_cons_zero, List.set_cons_succ]
      refine step_call1_to 20 50 32 rfl (by kernel_rfl) rfl (by rfl) (.tmp 49) _ rfl _ rfl Try.enters32 (HC20.out U108 _ h4108 k19_108) ?_
      rintro e U109 ⟨cd, cdn, cdc, rfl, hb, ho⟩
      have st109 := st108.next hb
      have h4109 := h4108.trans (hb.mono h4108.size)
      have k8_109 := k8_108.belowW hb
      have k14_109 := kr108.belowW hb
      have kr109 := ho
      clear hb ho
      refine ⟨_, rfl, ⟨st109.x.cells, st109.y.cells⟩, ?_⟩
      simp only [Act.put, List.setIfInBounds_toArray, List.set_cons_zero, List.set_cons_succ]
      refine step_to 23 53 (.agg #[.bool false, .slice ca can cac, .slice cb cbn cbc, .slice cd cdn cdc, .int .i64 x]) U109 rfl (by kernel_rfl) rfl (by rfl) (op_build5 _ _ 26 (.tmp 31) (.tmp 38) (.tmp 44) (.tmp 50) (.tmp 52) rfl (.bool false) (.slice ca can cac) (.slice cb cbn cbc) (.slice cd cdn cdc) (.int .i64 x) rfl rfl rfl rfl rfl (build26 U109 _ _ _ _ _ _ _ _ _ _ _)) ⟨st109.x.cells, st109.y.cells⟩ ?_
      simp only [Act.put, List.setIfInBounds_toArray, List.set_cons_zero, List.set_cons_succ]
      refine step_call1_to 24 54 26 rfl (by kernel_rfl) rfl (by rfl) (.tmp 53) _ rfl _ rfl Try.enters26 (HC24.out U109 _ _ _ st109.below st109.room ⟨k8_109, k14_109, kr109⟩) ?_
      rintro e U111 ⟨ok, ov, oi, rfl, hb, ho⟩
      have st111 := st109.next hb
      clear hb
      refine ⟨_, rfl, ⟨st111.x.cells, st111.y.cells⟩, ?_⟩
      simp only [Act.put, List.setIfInBounds_toArray, List.set_cons_zero, List.set_cons_succ]
      obtain ⟨q1, q2, q3, q4, q5⟩ := merge_tail st111 ho (.bool false) (.int .i64 x)
      refine step_store_to 25 (U111.setRow (w.heap.size + 1 + 1) #[.bool false, ok, ov, oi, .int .i64 x]) rfl (by kernel_rfl) rfl (by rfl) 26 (.tmp 6) (.tmp 54) rfl (.pointer (some ⟨w.heap.size + 1 + 1, 0, none⟩)) (.agg #[.bool false, ok, ov, oi, .int .i64 x]) rfl rfl (store26 st111.z _ _ _ _ _ (by rfl) (owns_one ho.keys) (owns_one ho.vals) (one_of_owns ho.kids) (by rfl)) ⟨q2, q3⟩ ?_
      refine wpAnyH_done (by kernel_rfl) ?_ _
      go_wp2
      refine bodyPost_ret (v := .agg #[.bool false, ok, ov, oi, .int .i64 x]) (results_cell_row Try.results14 _ _ (w.heap.size + 1 + 1) 26 #[.bool false, ok, ov, oi, .int .i64 x] (0, 0) _ rfl q1 Try.underlying26 rfl Try.size26) rfl ?_
      exact ⟨ok, ov, oi, by rw [HMX.out.1, HMX.out.2], q4, q5⟩
end Go.Proofs.Ytjcobejaldfibaa
