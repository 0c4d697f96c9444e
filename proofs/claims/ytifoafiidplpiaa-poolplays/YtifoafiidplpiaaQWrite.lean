/- The document's pool: write. -/
import Derived.Test.YtifoafiidplpiaaQFind
namespace Go.Proofs.Ytifoafiidplpiaa
open Go.RowKit
set_option linter.unusedVariables false
set_option linter.unusedSimpArgs false

/-- What write comes to, at this force. -/
def Pl.rwrote (bad : Int) (S : Pl (List Int)) (f : Fm) : Int × Pl (List Int) :=
  if f.dirty = true then (if f.lsn = bad then (60, { S with fo := S.fo ++ [f.lsn] }) else (0, { S with fo := S.fo ++ [f.lsn], disk := S.disk.set f.page.toNat f.bs, wr := S.wr + 1 })) else (0, S)
theorem Try.buildIntN (l : Int) (W : World) : (do pure (Next.value (← Instr.buildSlice 49 1 #[(0, .int .i64 l)])) : Sem Next).run Try.prog W = .ok (.value (.slice (some ⟨W.heap.size, 0, none⟩) 1 1)) (W.alloc (.cells #[.int .i64 l] 3)) := by
  rw [Sem.run_bind, Try.buildInt]; rfl
section
variable {w w' : World} {r gD gF cD cF : Nat} {dx fx : List Value} {fov : Value} {S : Pl (List Int)} {bad : Int} {fp : List Nat}
set_option maxHeartbeats 2000000 in
set_option maxRecDepth 100000 in
theorem rwrite_any (h : RefIs w r gD gF cD cF dx fx fov S bad) (i : Nat) (f : Fm) (hf : S.fs[i]? = some f) (hfo : S.fo.length ≤ 100000) (hwr : S.wr ≤ 1000000) (hpg : f.dirty = true → f.held = true ∧ 0 ≤ f.page ∧ f.page < 6) :
    Calls Try.prog 44 #[.pointer (some ⟨r, 0, none⟩), .int .i64 (i : Int)] w fun e w' => e = .returned (.int .i64 (S.rwrote bad f).1) ∧ RefTo w w' r gD gF (RefFp r gD gF fov) (S.rwrote bad f).2 bad := by
  obtain ⟨hi, d0, d1, d2, d3, d4, d5⟩ := h.cells i f hf
  have c1 := h.c1
  by_cases hd : f.dirty = true
  · obtain ⟨hhe, hp0, hp6⟩ := hpg hd
    obtain ⟨pn, hpn⟩ : ∃ pn : Nat, f.page = (pn : Int) := ⟨f.page.toNat, by omega⟩
    have hpn6 : pn < 6 := by omega
    have HPN : Hid (pageNo f = (pn : Int)) := by show _ = _; unfold pageNo; rw [if_pos hhe, hpn]
    rw [hd] at d2
    obtain ⟨ao, m, c, rfl⟩ := own_form h.fown
    have c5 := h.c5
    have HOWN : Hid ((w.drew.alloc (.cells #[.int .i64 f.lsn] 3)).ownsRow 0 3 1 (.slice ao m c) S.fo.length (intCells S.fo)) := owns_of_block h.fown (fun b hb => Below.heap_alloc _ _ _ (h.fown.lt b hb).2)
    have HNW : Hid ((w.drew.alloc (.cells #[.int .i64 f.lsn] 3)).heap[w.heap.size]? = some (.cells [.int .i64 f.lsn].toArray 3 (0, 0))) := heap_alloc_new w.drew _
    have HSRC := hide (src_of_block HNW.out)
    have HO1 : Hid (Off [] w (w.drew.alloc (.cells #[.int .i64 f.lsn] 3))) := ((Off.refl _ w).drew).alloc _
    have HC5 : Hid ((w.drew.alloc (.cells #[.int .i64 f.lsn] 3)).cell? ⟨r, 5, none⟩ = some (.slice ao m c)) := (World.cell?_of_block (HO1.out.block r (h.lts r (by simp [RefFp])) (by simp))).trans c5
    obtain ⟨N, hN⟩ : ∃ N, S.fs.length = N := ⟨_, rfl⟩
    rw [hN] at c1 hi
    have HN := hide hN
    obtain ⟨L, hL⟩ : ∃ L, f.lsn = L := ⟨_, rfl⟩
    have HLS := hide hL
    rw [hL] at d4 HOWN HNW HSRC HO1 HC5
    have HS1 : Hid ((w.drew.alloc (.cells #[.int .i64 L] 3)).cell? ⟨r, 1, none⟩ = some (.slice (some ⟨gF, 0, none⟩) N cF) ∧ (w.drew.alloc (.cells #[.int .i64 L] 3)).cell? ⟨gF, i * 6 + 4, none⟩ = some (.int .i64 L)) :=
      ⟨(World.cell?_of_block (HO1.out.block r (h.lts r (by simp [RefFp])) (by simp))).trans c1, (World.cell?_of_block (HO1.out.block gF (h.lts gF (by simp [RefFp])) (by simp))).trans d4⟩
    have H := hide h
    have HF := hide hf
    have HFL := hide hfo
    have HD := hide hd
    have HPG := hide hpn
    clear h hf hd hpg hhe hp0 hp6 hN hL HNW d0 d1 d3 d5 hfo hpn
    by_cases hb : L = bad
    · have hbb : (L == bad) = true := by simp [hb]
      have HW : Hid (S.rwrote bad f = (60, { S with fo := S.fo ++ [L] })) := by show _ = _; unfold Pl.rwrote; rw [if_pos HD.out, HLS.out, if_pos hb]
      clear hb
      go_enter Try.func44, Try.ntmps44
      go_wp2
      refine wp_region_held_drew (S := fun w' => w'.cell? ⟨r, 1, none⟩ = some (.slice (some ⟨gF, 0, none⟩) N cF) ∧ w'.cell? ⟨gF, i * 6 + 4, none⟩ = some (.int .i64 L)) (by kernel_rfl) ⟨c1, d4⟩ (fun hH => ?_)
      refine take_to 0 14 (.pointer (some ⟨r, 0, none⟩)) rfl (by kernel_rfl) (by kernel_rfl) (by kernel_rfl) (fun _ _ _ h => h) rfl (by rfl) (fun w hw => by rfl) hH ?_
      simp only [Act.put, List.setIfInBounds_toArray, List.set_cons_zero, List.set_cons_succ]
      refine take_to 1 15 (.pointer (some ⟨r, 0, none⟩)) rfl (by kernel_rfl) (by kernel_rfl) (by kernel_rfl) (fun _ _ _ h => h) rfl (by rfl) (fun w hw => by rfl) hH ?_
      simp only [Act.put, List.setIfInBounds_toArray, List.set_cons_zero, List.set_cons_succ]
      refine take_to 2 16 (.pointer (some ⟨r, 0, none⟩)) rfl (by kernel_rfl) (by kernel_rfl) (by kernel_rfl) (fun _ _ _ h => h) rfl (by rfl) (fun w hw => by rfl) hH ?_
      simp only [Act.put, List.setIfInBounds_toArray, List.set_cons_zero, List.set_cons_succ]
      refine take_to 3 17 (.pointer (some ⟨r, 5, none⟩)) rfl (by kernel_rfl) (by kernel_rfl) (by kernel_rfl) (fun _ _ _ h => h) rfl (by rfl) (fun w hw => by rfl) hH ?_
      simp only [Act.put, List.setIfInBounds_toArray, List.set_cons_zero, List.set_cons_succ]
      refine take_to 5 19 (.pointer (some ⟨r, 0, none⟩)) rfl (by kernel_rfl) (by kernel_rfl) (by kernel_rfl) (fun _ _ _ h => h) rfl (by rfl) (fun w hw => by rfl) hH ?_
      simp only [Act.put, List.setIfInBounds_toArray, List.set_cons_zero, List.set_cons_succ]
      refine take_to 6 20 (.pointer (some ⟨r, 0, none⟩)) rfl (by kernel_rfl) (by kernel_rfl) (by kernel_rfl) (fun _ _ _ h => h) rfl (by rfl) (fun w hw => by rfl) hH ?_
      simp only [Act.put, List.setIfInBounds_toArray, List.set_cons_zero, List.set_cons_succ]
      refine take_to 7 21 (.pointer (some ⟨r, 1, none⟩)) rfl (by kernel_rfl) (by kernel_rfl) (by kernel_rfl) (fun _ _ _ h => h) rfl (by rfl) (fun w hw => by rfl) hH ?_
      simp only [Act.put, List.setIfInBounds_toArray, List.set_cons_zero, List.set_cons_succ]
      refine take_to 8 22 (.slice (some ⟨gF, 0, none⟩) N cF) rfl (by kernel_rfl) (by kernel_rfl) (by kernel_rfl) (fun _ _ _ h => h) rfl (by rfl) (fun w hw => op_load _ _ 58 (.tmp 21) rfl (.pointer (some ⟨r, 1, none⟩)) _ rfl (run_loadAny w r (1) 58 _ Try.isAgg58 hw.1)) hH ?_
      simp only [Act.put, List.setIfInBounds_toArray, List.set_cons_zero, List.set_cons_succ]
      refine take_to 9 23 (.int .i64 (i : Int)) rfl (by kernel_rfl) (by kernel_rfl) (by kernel_rfl) (fun _ _ _ h => h) rfl (by rfl) (fun w hw => by rfl) hH ?_
      simp only [Act.put, List.setIfInBounds_toArray, List.set_cons_zero, List.set_cons_succ]
      refine take_to 10 24 (.pointer (some ⟨gF, i * 6, none⟩)) rfl (by kernel_rfl) (by kernel_rfl) (by kernel_rfl) (fun _ _ _ h => h) rfl (by rfl) (fun w hw => op_index _ _ 58 (.tmp 22) (.tmp 23) rfl _ _ _ rfl rfl (run_index58 w gF _ _ _ hi)) hH ?_
      simp only [Act.put, List.setIfInBounds_toArray, List.set_cons_zero, List.set_cons_succ]
      refine take_to 11 25 (.pointer (some ⟨gF, i * 6 + 4, none⟩)) rfl (by kernel_rfl) (by kernel_rfl) (by kernel_rfl) (fun _ _ _ h => h) rfl (by rfl) (fun w hw => by rfl) hH ?_
      simp only [Act.put, List.setIfInBounds_toArray, List.set_cons_zero, List.set_cons_succ]
      refine take_to 12 26 (.int .i64 L) rfl (by kernel_rfl) (by kernel_rfl) (by kernel_rfl) (fun _ _ _ h => h) rfl (by rfl) (fun w hw => op_load _ _ 3 (.tmp 25) rfl (.pointer (some ⟨gF, i * 6 + 4, none⟩)) _ rfl (run_loadAny w gF (i * 6 + 4) 3 _ Try.isAgg3 hw.2)) hH ?_
      simp only [Act.put, List.setIfInBounds_toArray, List.set_cons_zero, List.set_cons_succ]
      refine wpAnyH_all (rs := [4, 13]) (by kernel_rfl) (by simp) ?_
      intro n hn
      rcases (by simpa using hn : n = 4 ∨ n = 13) with rfl | rfl
      refine op_to 18 (.slice ao m c) _ rfl rfl (by rfl) (op_load _ _ 49 (.tmp 17) rfl (.pointer (some ⟨r, 5, none⟩)) _ rfl (run_loadAny _ r 5 49 _ Try.isAgg49 c5)) ⟨hH, ?_⟩
      simp only [Act.put, List.setIfInBounds_toArray, List.set_cons_zero, List.set_cons_succ]
      refine step_to 13 27 (.slice (some ⟨w.heap.size, 0, none⟩) 1 1) (w.drew.alloc (.cells #[.int .i64 L] 3)) rfl (by kernel_rfl) rfl (by rfl) (by rw [buildSlice_op _ _ 49 1 0 (.tmp 26) rfl _ rfl]; exact Try.buildIntN L _) HS1.out ?_
      simp only [Act.put, List.setIfInBounds_toArray, List.set_cons_zero, List.set_cons_succ]
      rotate_left
      refine op_to 27 (.slice (some ⟨w.heap.size, 0, none⟩) 1 1) (w.drew.alloc (.cells #[.int .i64 L] 3)) rfl rfl (by rfl) (by rw [buildSlice_op _ _ 49 1 0 (.tmp 26) rfl _ rfl]; exact Try.buildIntN L _) ⟨HS1.out, ?_⟩
      simp only [Act.put, List.setIfInBounds_toArray, List.set_cons_zero, List.set_cons_succ]
      refine step_to 4 18 (.slice ao m c) _ rfl (by kernel_rfl) rfl (by rfl) (op_load _ _ 49 (.tmp 17) rfl (.pointer (some ⟨r, 5, none⟩)) _ rfl (run_loadAny _ r 5 49 _ Try.isAgg49 HC5.out)) HS1.out ?_
      simp only [Act.put, List.setIfInBounds_toArray, List.set_cons_zero, List.set_cons_succ]
      all_goals
        refine step_append_to 14 28 rfl (by kernel_rfl) rfl rfl (.tmp 18) (.tmp 27) 49 rfl 3 (.int .i64 0) 1 8 Try.underlying49 Try.info3 rfl (by omega) (.slice ao m c) S.fo.length (intCells S.fo) rfl HOWN.out ⟨w.heap.size, 0, none⟩ 1 1 [.int .i64 L] rfl rfl HSRC.out (by intro u hu; simp at hu; subst hu; rfl) (by have := HFL.out; simp only [maxLen]; omega) (by have := HFL.out; omega) (fun v4 w4 ra rb rc => ?_)
        obtain ⟨hR4, hO4, hF4, q1, q2, q3⟩ := H.out.forced L HO1.out ra rb rc
        have hS4 : w4.cell? ⟨r, 1, none⟩ = some (.slice (some ⟨gF, 0, none⟩) N cF) ∧ w4.cell? ⟨gF, i * 6 + 4, none⟩ = some (.int .i64 L) := ⟨(World.cell?_of_block (q3 r (by simp))).trans c1, (World.cell?_of_block (q3 gF (by simp))).trans d4⟩
        refine ⟨hS4, ?_⟩
        simp only [Act.put, List.setIfInBounds_toArray, List.set_cons_zero, List.set_cons_succ]
        obtain ⟨ao4, m4, c4, rfl⟩ := own_form ra
        refine step_to 15 29 (.pointer (some ⟨r, 0, none⟩)) w4 rfl (by kernel_rfl) rfl (by rfl) (rfl) hS4 ?_
        simp only [Act.put, List.setIfInBounds_toArray, List.set_cons_zero, List.set_cons_succ]
        refine step_to 16 30 (.pointer (some ⟨r, 5, none⟩)) w4 rfl (by kernel_rfl) rfl (by rfl) (by kernel_rfl) hS4 ?_
        simp only [Act.put, List.setIfInBounds_toArray, List.set_cons_zero, List.set_cons_succ]
        have hS5 : (w4.setCell ⟨r, 5, none⟩ (.slice ao4 m4 c4)).cell? ⟨r, 1, none⟩ = some (.slice (some ⟨gF, 0, none⟩) N cF) ∧ (w4.setCell ⟨r, 5, none⟩ (.slice ao4 m4 c4)).cell? ⟨gF, i * 6 + 4, none⟩ = some (.int .i64 L) := by
          rw [← HN.out, ← HLS.out]
          exact ⟨hR4.c1, (hR4.cells i f HF.out).2.2.2.2.2.1⟩
        refine step_store_to 17 _ rfl (by kernel_rfl) rfl (by rfl) 49 (.tmp 30) (.tmp 28) rfl _ _ rfl rfl (run_store49 w4 r 5 _ ao4 m4 c4 q1 q2) hS5 ?_
        refine wpAnyH_done (by kernel_rfl) ?_ _
        have H5 := hide hR4
        have HO5 := hide hO4
        have HF5 := hide hF4
        have b3 := hR4.c3
        have b4 := hR4.c4
        clear q1 q2 q3 ra rb rc hR4 hO4 hF4 hS4 hH HSRC HOWN HO1 HS1 HC5
        generalize w4.setCell ⟨r, 5, none⟩ (.slice ao4 m4 c4) = w5 at *
        clear w4
        go_wp2
        refine wp_region_held_drew (S := fun w' => (w'.cell? ⟨r, 1, none⟩ = some (.slice (some ⟨gF, 0, none⟩) N cF) ∧ w'.cell? ⟨gF, i * 6 + 4, none⟩ = some (.int .i64 L)) ∧ w'.cell? ⟨r, 3, none⟩ = some (.int .i64 bad)) (by kernel_rfl) ⟨hS5, b3⟩ (fun hH => ?_)
        refine take_to 0 31 (.pointer (some ⟨r, 0, none⟩)) rfl (by kernel_rfl) (by kernel_rfl) (by kernel_rfl) (fun _ _ _ h => h) rfl (by rfl) (fun w hw => by rfl) hH ?_
        simp only [Act.put, List.setIfInBounds_toArray, List.set_cons_zero, List.set_cons_succ]
        refine take_to 1 32 (.pointer (some ⟨r, 0, none⟩)) rfl (by kernel_rfl) (by kernel_rfl) (by kernel_rfl) (fun _ _ _ h => h) rfl (by rfl) (fun w hw => by rfl) hH ?_
        simp only [Act.put, List.setIfInBounds_toArray, List.set_cons_zero, List.set_cons_succ]
        refine take_to 2 33 (.pointer (some ⟨r, 1, none⟩)) rfl (by kernel_rfl) (by kernel_rfl) (by kernel_rfl) (fun _ _ _ h => h) rfl (by rfl) (fun w hw => by rfl) hH ?_
        simp only [Act.put, List.setIfInBounds_toArray, List.set_cons_zero, List.set_cons_succ]
        refine take_to 3 34 (.slice (some ⟨gF, 0, none⟩) N cF) rfl (by kernel_rfl) (by kernel_rfl) (by kernel_rfl) (fun _ _ _ h => h) rfl (by rfl) (fun w hw => op_load _ _ 58 (.tmp 33) rfl (.pointer (some ⟨r, 1, none⟩)) _ rfl (run_loadAny w r (1) 58 _ Try.isAgg58 hw.1.1)) hH ?_
        simp only [Act.put, List.setIfInBounds_toArray, List.set_cons_zero, List.set_cons_succ]
        refine take_to 4 35 (.int .i64 (i : Int)) rfl (by kernel_rfl) (by kernel_rfl) (by kernel_rfl) (fun _ _ _ h => h) rfl (by rfl) (fun w hw => by rfl) hH ?_
        simp only [Act.put, List.setIfInBounds_toArray, List.set_cons_zero, List.set_cons_succ]
        refine take_to 5 36 (.pointer (some ⟨gF, i * 6, none⟩)) rfl (by kernel_rfl) (by kernel_rfl) (by kernel_rfl) (fun _ _ _ h => h) rfl (by rfl) (fun w hw => op_index _ _ 58 (.tmp 34) (.tmp 35) rfl _ _ _ rfl rfl (run_index58 w gF _ _ _ hi)) hH ?_
        simp only [Act.put, List.setIfInBounds_toArray, List.set_cons_zero, List.set_cons_succ]
        refine take_to 6 37 (.pointer (some ⟨gF, i * 6 + 4, none⟩)) rfl (by kernel_rfl) (by kernel_rfl) (by kernel_rfl) (fun _ _ _ h => h) rfl (by rfl) (fun w hw => by rfl) hH ?_
        simp only [Act.put, List.setIfInBounds_toArray, List.set_cons_zero, List.set_cons_succ]
        refine take_to 7 38 (.int .i64 L) rfl (by kernel_rfl) (by kernel_rfl) (by kernel_rfl) (fun _ _ _ h => h) rfl (by rfl) (fun w hw => op_load _ _ 3 (.tmp 37) rfl (.pointer (some ⟨gF, i * 6 + 4, none⟩)) _ rfl (run_loadAny w gF (i * 6 + 4) 3 _ Try.isAgg3 hw.1.2)) hH ?_
        simp only [Act.put, List.setIfInBounds_toArray, List.set_cons_zero, List.set_cons_succ]
        refine take_to 8 39 (.pointer (some ⟨r, 0, none⟩)) rfl (by kernel_rfl) (by kernel_rfl) (by kernel_rfl) (fun _ _ _ h => h) rfl (by rfl) (fun w hw => by rfl) hH ?_
        simp only [Act.put, List.setIfInBounds_toArray, List.set_cons_zero, List.set_cons_succ]
        refine take_to 9 40 (.pointer (some ⟨r, 0, none⟩)) rfl (by kernel_rfl) (by kernel_rfl) (by kernel_rfl) (fun _ _ _ h => h) rfl (by rfl) (fun w hw => by rfl) hH ?_
        simp only [Act.put, List.setIfInBounds_toArray, List.set_cons_zero, List.set_cons_succ]
        refine take_to 10 41 (.pointer (some ⟨r, 3, none⟩)) rfl (by kernel_rfl) (by kernel_rfl) (by kernel_rfl) (fun _ _ _ h => h) rfl (by rfl) (fun w hw => by rfl) hH ?_
        simp only [Act.put, List.setIfInBounds_toArray, List.set_cons_zero, List.set_cons_succ]
        refine take_to 11 42 (.int .i64 bad) rfl (by kernel_rfl) (by kernel_rfl) (by kernel_rfl) (fun _ _ _ h => h) rfl (by rfl) (fun w hw => op_load _ _ 3 (.tmp 41) rfl (.pointer (some ⟨r, 3, none⟩)) _ rfl (run_loadAny w r (3) 3 _ Try.isAgg3 hw.2)) hH ?_
        simp only [Act.put, List.setIfInBounds_toArray, List.set_cons_zero, List.set_cons_succ]
        refine take_to 12 43 (.bool true) rfl (by kernel_rfl) (by kernel_rfl) (by kernel_rfl) (fun _ _ _ h => h) rfl (by rfl) (fun w hw => op_eql3 _ _ (.tmp 38) (.tmp 42) 3 rfl _ _ rfl rfl _ hbb) hH ?_
        simp only [Act.put, List.setIfInBounds_toArray, List.set_cons_zero, List.set_cons_succ]
        refine wpAnyH_done (by kernel_rfl) ?_ _
        clear hH hS5
        go_wp2
        go_ret
        rw [HW.out]
        exact ⟨rfl, _, H5.out.at.belowW (below_drewN _ _ 1), HO5.out.trans (Off.of_below (below_drewN _ _ 1) []) (by simp), HF5.out⟩
    · have hbb : (L == bad) = false := beq_eq_false_iff_ne.2 hb
      have HW : Hid (S.rwrote bad f = (0, { S with fo := S.fo ++ [L], disk := S.disk.set pn f.bs, wr := S.wr + 1 })) := by
        show _ = _
        unfold Pl.rwrote
        rw [if_pos HD.out, HLS.out, if_neg hb, HPG.out]
        rfl
      clear hb
      go_enter Try.func44, Try.ntmps44
      go_wp2
      refine wp_region_held_drew (S := fun w' => w'.cell? ⟨r, 1, none⟩ = some (.slice (some ⟨gF, 0, none⟩) N cF) ∧ w'.cell? ⟨gF, i * 6 + 4, none⟩ = some (.int .i64 L)) (by kernel_rfl) ⟨c1, d4⟩ (fun hH => ?_)
      refine take_to 0 14 (.pointer (some ⟨r, 0, none⟩)) rfl (by kernel_rfl) (by kernel_rfl) (by kernel_rfl) (fun _ _ _ h => h) rfl (by rfl) (fun w hw => by rfl) hH ?_
      simp only [Act.put, List.setIfInBounds_toArray, List.set_cons_zero, List.set_cons_succ]
      refine take_to 1 15 (.pointer (some ⟨r, 0, none⟩)) rfl (by kernel_rfl) (by kernel_rfl) (by kernel_rfl) (fun _ _ _ h => h) rfl (by rfl) (fun w hw => by rfl) hH ?_
      simp only [Act.put, List.setIfInBounds_toArray, List.set_cons_zero, List.set_cons_succ]
      refine take_to 2 16 (.pointer (some ⟨r, 0, none⟩)) rfl (by kernel_rfl) (by kernel_rfl) (by kernel_rfl) (fun _ _ _ h => h) rfl (by rfl) (fun w hw => by rfl) hH ?_
      simp only [Act.put, List.setIfInBounds_toArray, List.set_cons_zero, List.set_cons_succ]
      refine take_to 3 17 (.pointer (some ⟨r, 5, none⟩)) rfl (by kernel_rfl) (by kernel_rfl) (by kernel_rfl) (fun _ _ _ h => h) rfl (by rfl) (fun w hw => by rfl) hH ?_
      simp only [Act.put, List.setIfInBounds_toArray, List.set_cons_zero, List.set_cons_succ]
      refine take_to 5 19 (.pointer (some ⟨r, 0, none⟩)) rfl (by kernel_rfl) (by kernel_rfl) (by kernel_rfl) (fun _ _ _ h => h) rfl (by rfl) (fun w hw => by rfl) hH ?_
      simp only [Act.put, List.setIfInBounds_toArray, List.set_cons_zero, List.set_cons_succ]
      refine take_to 6 20 (.pointer (some ⟨r, 0, none⟩)) rfl (by kernel_rfl) (by kernel_rfl) (by kernel_rfl) (fun _ _ _ h => h) rfl (by rfl) (fun w hw => by rfl) hH ?_
      simp only [Act.put, List.setIfInBounds_toArray, List.set_cons_zero, List.set_cons_succ]
      refine take_to 7 21 (.pointer (some ⟨r, 1, none⟩)) rfl (by kernel_rfl) (by kernel_rfl) (by kernel_rfl) (fun _ _ _ h => h) rfl (by rfl) (fun w hw => by rfl) hH ?_
      simp only [Act.put, List.setIfInBounds_toArray, List.set_cons_zero, List.set_cons_succ]
      refine take_to 8 22 (.slice (some ⟨gF, 0, none⟩) N cF) rfl (by kernel_rfl) (by kernel_rfl) (by kernel_rfl) (fun _ _ _ h => h) rfl (by rfl) (fun w hw => op_load _ _ 58 (.tmp 21) rfl (.pointer (some ⟨r, 1, none⟩)) _ rfl (run_loadAny w r (1) 58 _ Try.isAgg58 hw.1)) hH ?_
      simp only [Act.put, List.setIfInBounds_toArray, List.set_cons_zero, List.set_cons_succ]
      refine take_to 9 23 (.int .i64 (i : Int)) rfl (by kernel_rfl) (by kernel_rfl) (by kernel_rfl) (fun _ _ _ h => h) rfl (by rfl) (fun w hw => by rfl) hH ?_
      simp only [Act.put, List.setIfInBounds_toArray, List.set_cons_zero, List.set_cons_succ]
      refine take_to 10 24 (.pointer (some ⟨gF, i * 6, none⟩)) rfl (by kernel_rfl) (by kernel_rfl) (by kernel_rfl) (fun _ _ _ h => h) rfl (by rfl) (fun w hw => op_index _ _ 58 (.tmp 22) (.tmp 23) rfl _ _ _ rfl rfl (run_index58 w gF _ _ _ hi)) hH ?_
      simp only [Act.put, List.setIfInBounds_toArray, List.set_cons_zero, List.set_cons_succ]
      refine take_to 11 25 (.pointer (some ⟨gF, i * 6 + 4, none⟩)) rfl (by kernel_rfl) (by kernel_rfl) (by kernel_rfl) (fun _ _ _ h => h) rfl (by rfl) (fun w hw => by rfl) hH ?_
      simp only [Act.put, List.setIfInBounds_toArray, List.set_cons_zero, List.set_cons_succ]
      refine take_to 12 26 (.int .i64 L) rfl (by kernel_rfl) (by kernel_rfl) (by kernel_rfl) (fun _ _ _ h => h) rfl (by rfl) (fun w hw => op_load _ _ 3 (.tmp 25) rfl (.pointer (some ⟨gF, i * 6 + 4, none⟩)) _ rfl (run_loadAny w gF (i * 6 + 4) 3 _ Try.isAgg3 hw.2)) hH ?_
      simp only [Act.put, List.setIfInBounds_toArray, List.set_cons_zero, List.set_cons_succ]
      refine wpAnyH_all (rs := [4, 13]) (by kernel_rfl) (by simp) ?_
      intro n hn
      rcases (by simpa using hn : n = 4 ∨ n = 13) with rfl | rfl
      refine op_to 18 (.slice ao m c) _ rfl rfl (by rfl) (op_load _ _ 49 (.tmp 17) rfl (.pointer (some ⟨r, 5, none⟩)) _ rfl (run_loadAny _ r 5 49 _ Try.isAgg49 c5)) ⟨hH, ?_⟩
      simp only [Act.put, List.setIfInBounds_toArray, List.set_cons_zero, List.set_cons_succ]
      refine step_to 13 27 (.slice (some ⟨w.heap.size, 0, none⟩) 1 1) (w.drew.alloc (.cells #[.int .i64 L] 3)) rfl (by kernel_rfl) rfl (by rfl) (by rw [buildSlice_op _ _ 49 1 0 (.tmp 26) rfl _ rfl]; exact Try.buildIntN L _) HS1.out ?_
      simp only [Act.put, List.setIfInBounds_toArray, List.set_cons_zero, List.set_cons_succ]
      rotate_left
      refine op_to 27 (.slice (some ⟨w.heap.size, 0, none⟩) 1 1) (w.drew.alloc (.cells #[.int .i64 L] 3)) rfl rfl (by rfl) (by rw [buildSlice_op _ _ 49 1 0 (.tmp 26) rfl _ rfl]; exact Try.buildIntN L _) ⟨HS1.out, ?_⟩
      simp only [Act.put, List.setIfInBounds_toArray, List.set_cons_zero, List.set_cons_succ]
      refine step_to 4 18 (.slice ao m c) _ rfl (by kernel_rfl) rfl (by rfl) (op_load _ _ 49 (.tmp 17) rfl (.pointer (some ⟨r, 5, none⟩)) _ rfl (run_loadAny _ r 5 49 _ Try.isAgg49 HC5.out)) HS1.out ?_
      simp only [Act.put, List.setIfInBounds_toArray, List.set_cons_zero, List.set_cons_succ]
      all_goals
        refine step_append_to 14 28 rfl (by kernel_rfl) rfl rfl (.tmp 18) (.tmp 27) 49 rfl 3 (.int .i64 0) 1 8 Try.underlying49 Try.info3 rfl (by omega) (.slice ao m c) S.fo.length (intCells S.fo) rfl HOWN.out ⟨w.heap.size, 0, none⟩ 1 1 [.int .i64 L] rfl rfl HSRC.out (by intro u hu; simp at hu; subst hu; rfl) (by have := HFL.out; simp only [maxLen]; omega) (by have := HFL.out; omega) (fun v4 w4 ra rb rc => ?_)
        obtain ⟨hR4, hO4, hF4, q1, q2, q3⟩ := H.out.forced L HO1.out ra rb rc
        have hS4 : w4.cell? ⟨r, 1, none⟩ = some (.slice (some ⟨gF, 0, none⟩) N cF) ∧ w4.cell? ⟨gF, i * 6 + 4, none⟩ = some (.int .i64 L) := ⟨(World.cell?_of_block (q3 r (by simp))).trans c1, (World.cell?_of_block (q3 gF (by simp))).trans d4⟩
        refine ⟨hS4, ?_⟩
        simp only [Act.put, List.setIfInBounds_toArray, List.set_cons_zero, List.set_cons_succ]
        obtain ⟨ao4, m4, c4, rfl⟩ := own_form ra
        refine step_to 15 29 (.pointer (some ⟨r, 0, none⟩)) w4 rfl (by kernel_rfl) rfl (by rfl) (rfl) hS4 ?_
        simp only [Act.put, List.setIfInBounds_toArray, List.set_cons_zero, List.set_cons_succ]
        refine step_to 16 30 (.pointer (some ⟨r, 5, none⟩)) w4 rfl (by kernel_rfl) rfl (by rfl) (by kernel_rfl) hS4 ?_
        simp only [Act.put, List.setIfInBounds_toArray, List.set_cons_zero, List.set_cons_succ]
        have hS5 : (w4.setCell ⟨r, 5, none⟩ (.slice ao4 m4 c4)).cell? ⟨r, 1, none⟩ = some (.slice (some ⟨gF, 0, none⟩) N cF) ∧ (w4.setCell ⟨r, 5, none⟩ (.slice ao4 m4 c4)).cell? ⟨gF, i * 6 + 4, none⟩ = some (.int .i64 L) := by
          rw [← HN.out, ← HLS.out]
          exact ⟨hR4.c1, (hR4.cells i f HF.out).2.2.2.2.2.1⟩
        refine step_store_to 17 _ rfl (by kernel_rfl) rfl (by rfl) 49 (.tmp 30) (.tmp 28) rfl _ _ rfl rfl (run_store49 w4 r 5 _ ao4 m4 c4 q1 q2) hS5 ?_
        refine wpAnyH_done (by kernel_rfl) ?_ _
        have H5 := hide hR4
        have HO5 := hide hO4
        have HF5 := hide hF4
        have b3 := hR4.c3
        have b4 := hR4.c4
        clear q1 q2 q3 ra rb rc hR4 hO4 hF4 hS4 hH HSRC HOWN HO1 HS1 HC5
        generalize w4.setCell ⟨r, 5, none⟩ (.slice ao4 m4 c4) = w5 at *
        clear w4
        go_wp2
        refine wp_region_held_drew (S := fun w' => (w'.cell? ⟨r, 1, none⟩ = some (.slice (some ⟨gF, 0, none⟩) N cF) ∧ w'.cell? ⟨gF, i * 6 + 4, none⟩ = some (.int .i64 L)) ∧ w'.cell? ⟨r, 3, none⟩ = some (.int .i64 bad)) (by kernel_rfl) ⟨hS5, b3⟩ (fun hH => ?_)
        refine take_to 0 31 (.pointer (some ⟨r, 0, none⟩)) rfl (by kernel_rfl) (by kernel_rfl) (by kernel_rfl) (fun _ _ _ h => h) rfl (by rfl) (fun w hw => by rfl) hH ?_
        simp only [Act.put, List.setIfInBounds_toArray, List.set_cons_zero, List.set_cons_succ]
        refine take_to 1 32 (.pointer (some ⟨r, 0, none⟩)) rfl (by kernel_rfl) (by kernel_rfl) (by kernel_rfl) (fun _ _ _ h => h) rfl (by rfl) (fun w hw => by rfl) hH ?_
        simp only [Act.put, List.setIfInBounds_toArray, List.set_cons_zero, List.set_cons_succ]
        refine take_to 2 33 (.pointer (some ⟨r, 1, none⟩)) rfl (by kernel_rfl) (by kernel_rfl) (by kernel_rfl) (fun _ _ _ h => h) rfl (by rfl) (fun w hw => by rfl) hH ?_
        simp only [Act.put, List.setIfInBounds_toArray, List.set_cons_zero, List.set_cons_succ]
        refine take_to 3 34 (.slice (some ⟨gF, 0, none⟩) N cF) rfl (by kernel_rfl) (by kernel_rfl) (by kernel_rfl) (fun _ _ _ h => h) rfl (by rfl) (fun w hw => op_load _ _ 58 (.tmp 33) rfl (.pointer (some ⟨r, 1, none⟩)) _ rfl (run_loadAny w r (1) 58 _ Try.isAgg58 hw.1.1)) hH ?_
        simp only [Act.put, List.setIfInBounds_toArray, List.set_cons_zero, List.set_cons_succ]
        refine take_to 4 35 (.int .i64 (i : Int)) rfl (by kernel_rfl) (by kernel_rfl) (by kernel_rfl) (fun _ _ _ h => h) rfl (by rfl) (fun w hw => by rfl) hH ?_
        simp only [Act.put, List.setIfInBounds_toArray, List.set_cons_zero, List.set_cons_succ]
        refine take_to 5 36 (.pointer (some ⟨gF, i * 6, none⟩)) rfl (by kernel_rfl) (by kernel_rfl) (by kernel_rfl) (fun _ _ _ h => h) rfl (by rfl) (fun w hw => op_index _ _ 58 (.tmp 34) (.tmp 35) rfl _ _ _ rfl rfl (run_index58 w gF _ _ _ hi)) hH ?_
        simp only [Act.put, List.setIfInBounds_toArray, List.set_cons_zero, List.set_cons_succ]
        refine take_to 6 37 (.pointer (some ⟨gF, i * 6 + 4, none⟩)) rfl (by kernel_rfl) (by kernel_rfl) (by kernel_rfl) (fun _ _ _ h => h) rfl (by rfl) (fun w hw => by rfl) hH ?_
        simp only [Act.put, List.setIfInBounds_toArray, List.set_cons_zero, List.set_cons_succ]
        refine take_to 7 38 (.int .i64 L) rfl (by kernel_rfl) (by kernel_rfl) (by kernel_rfl) (fun _ _ _ h => h) rfl (by rfl) (fun w hw => op_load _ _ 3 (.tmp 37) rfl (.pointer (some ⟨gF, i * 6 + 4, none⟩)) _ rfl (run_loadAny w gF (i * 6 + 4) 3 _ Try.isAgg3 hw.1.2)) hH ?_
        simp only [Act.put, List.setIfInBounds_toArray, List.set_cons_zero, List.set_cons_succ]
        refine take_to 8 39 (.pointer (some ⟨r, 0, none⟩)) rfl (by kernel_rfl) (by kernel_rfl) (by kernel_rfl) (fun _ _ _ h => h) rfl (by rfl) (fun w hw => by rfl) hH ?_
        simp only [Act.put, List.setIfInBounds_toArray, List.set_cons_zero, List.set_cons_succ]
        refine take_to 9 40 (.pointer (some ⟨r, 0, none⟩)) rfl (by kernel_rfl) (by kernel_rfl) (by kernel_rfl) (fun _ _ _ h => h) rfl (by rfl) (fun w hw => by rfl) hH ?_
        simp only [Act.put, List.setIfInBounds_toArray, List.set_cons_zero, List.set_cons_succ]
        refine take_to 10 41 (.pointer (some ⟨r, 3, none⟩)) rfl (by kernel_rfl) (by kernel_rfl) (by kernel_rfl) (fun _ _ _ h => h) rfl (by rfl) (fun w hw => by rfl) hH ?_
        simp only [Act.put, List.setIfInBounds_toArray, List.set_cons_zero, List.set_cons_succ]
        refine take_to 11 42 (.int .i64 bad) rfl (by kernel_rfl) (by kernel_rfl) (by kernel_rfl) (fun _ _ _ h => h) rfl (by rfl) (fun w hw => op_load _ _ 3 (.tmp 41) rfl (.pointer (some ⟨r, 3, none⟩)) _ rfl (run_loadAny w r (3) 3 _ Try.isAgg3 hw.2)) hH ?_
        simp only [Act.put, List.setIfInBounds_toArray, List.set_cons_zero, List.set_cons_succ]
        refine take_to 12 43 (.bool false) rfl (by kernel_rfl) (by kernel_rfl) (by kernel_rfl) (fun _ _ _ h => h) rfl (by rfl) (fun w hw => op_eql3 _ _ (.tmp 38) (.tmp 42) 3 rfl _ _ rfl rfl _ hbb) hH ?_
        simp only [Act.put, List.setIfInBounds_toArray, List.set_cons_zero, List.set_cons_succ]
        refine wpAnyH_done (by kernel_rfl) ?_ _
        have b0 := H5.out.c0
        have e0 : w5.cell? ⟨gF, i * 6, none⟩ = some (.int .i64 (pn : Int)) := by rw [← HPN.out]; exact (H5.out.cells i f HF.out).2.1
        obtain ⟨B, hB⟩ : ∃ B, strOf f.bs = B := ⟨_, rfl⟩
        have e1 : w5.cell? ⟨gF, i * 6 + 1, none⟩ = some (.string B) := by rw [← hB]; exact (H5.out.cells i f HF.out).2.2.1
        have bd := H5.out.dcell pn hpn6
        have H6 : Hid (RefIs (w5.drew.drew.setCell ⟨gD, pn, none⟩ (.string B)) r gD gF cD cF dx fx (.slice ao4 m4 c4) { S with fo := S.fo ++ [L], disk := S.disk.set pn f.bs } bad) := by
          rw [← hB]
          exact RefIs.setD (w := w5.drew.drew) (H5.out.stay (fun k hk => rfl)) pn hpn6 f.bs
        have HS6 : Hid ((((w5.drew.drew.setCell ⟨gD, pn, none⟩ (.string B)).cell? ⟨r, 0, none⟩ = some (.slice (some ⟨gD, 0, none⟩) 6 cD)) ∧ (w5.drew.drew.setCell ⟨gD, pn, none⟩ (.string B)).cell? ⟨r, 1, none⟩ = some (.slice (some ⟨gF, 0, none⟩) N cF)) ∧ (w5.drew.drew.setCell ⟨gD, pn, none⟩ (.string B)).cell? ⟨gF, i * 6, none⟩ = some (.int .i64 (pn : Int)) ∧ (w5.drew.drew.setCell ⟨gD, pn, none⟩ (.string B)).cell? ⟨gF, i * 6 + 1, none⟩ = some (.string B)) := by
          refine ⟨⟨H6.out.c0, ?_⟩, ?_, ?_⟩
          · rw [← HN.out]; exact H6.out.c1
          · rw [← HPN.out]; exact (H6.out.cells i f HF.out).2.1
          · have e := (H6.out.cells i f HF.out).2.2.1
            rw [hB] at e
            exact e
        clear hB hH
        go_wp2
        refine wp_region_held_drew (S := fun w' => (w'.cell? ⟨r, 0, none⟩ = some (.slice (some ⟨gD, 0, none⟩) 6 cD) ∧ w'.cell? ⟨r, 1, none⟩ = some (.slice (some ⟨gF, 0, none⟩) N cF)) ∧ w'.cell? ⟨gF, i * 6, none⟩ = some (.int .i64 (pn : Int)) ∧ w'.cell? ⟨gF, i * 6 + 1, none⟩ = some (.string B)) (by kernel_rfl) ⟨⟨b0, hS5.1⟩, e0, e1⟩ (fun hH => ?_)
        refine take_to 0 48 (.pointer (some ⟨r, 0, none⟩)) rfl (by kernel_rfl) (by kernel_rfl) (by kernel_rfl) (fun _ _ _ h => h) rfl (by rfl) (fun w hw => by rfl) hH ?_
        simp only [Act.put, List.setIfInBounds_toArray, List.set_cons_zero, List.set_cons_succ]
        refine take_to 1 49 (.pointer (some ⟨r, 0, none⟩)) rfl (by kernel_rfl) (by kernel_rfl) (by kernel_rfl) (fun _ _ _ h => h) rfl (by rfl) (fun w hw => by rfl) hH ?_
        simp only [Act.put, List.setIfInBounds_toArray, List.set_cons_zero, List.set_cons_succ]
        refine take_to 2 50 (.pointer (some ⟨r, 0, none⟩)) rfl (by kernel_rfl) (by kernel_rfl) (by kernel_rfl) (fun _ _ _ h => h) rfl (by rfl) (fun w hw => by rfl) hH ?_
        simp only [Act.put, List.setIfInBounds_toArray, List.set_cons_zero, List.set_cons_succ]
        refine take_to 3 51 (.slice (some ⟨gD, 0, none⟩) 6 cD) rfl (by kernel_rfl) (by kernel_rfl) (by kernel_rfl) (fun _ _ _ h => h) rfl (by rfl) (fun w hw => op_load _ _ 57 (.tmp 50) rfl (.pointer (some ⟨r, 0, none⟩)) _ rfl (run_loadAny w r (0) 57 _ Try.isAgg57 hw.1.1)) hH ?_
        simp only [Act.put, List.setIfInBounds_toArray, List.set_cons_zero, List.set_cons_succ]
        refine take_to 4 52 (.pointer (some ⟨r, 0, none⟩)) rfl (by kernel_rfl) (by kernel_rfl) (by kernel_rfl) (fun _ _ _ h => h) rfl (by rfl) (fun w hw => by rfl) hH ?_
        simp only [Act.put, List.setIfInBounds_toArray, List.set_cons_zero, List.set_cons_succ]
        refine take_to 5 53 (.pointer (some ⟨r, 0, none⟩)) rfl (by kernel_rfl) (by kernel_rfl) (by kernel_rfl) (fun _ _ _ h => h) rfl (by rfl) (fun w hw => by rfl) hH ?_
        simp only [Act.put, List.setIfInBounds_toArray, List.set_cons_zero, List.set_cons_succ]
        refine take_to 6 54 (.pointer (some ⟨r, 1, none⟩)) rfl (by kernel_rfl) (by kernel_rfl) (by kernel_rfl) (fun _ _ _ h => h) rfl (by rfl) (fun w hw => by rfl) hH ?_
        simp only [Act.put, List.setIfInBounds_toArray, List.set_cons_zero, List.set_cons_succ]
        refine take_to 7 55 (.slice (some ⟨gF, 0, none⟩) N cF) rfl (by kernel_rfl) (by kernel_rfl) (by kernel_rfl) (fun _ _ _ h => h) rfl (by rfl) (fun w hw => op_load _ _ 58 (.tmp 54) rfl (.pointer (some ⟨r, 1, none⟩)) _ rfl (run_loadAny w r (1) 58 _ Try.isAgg58 hw.1.2)) hH ?_
        simp only [Act.put, List.setIfInBounds_toArray, List.set_cons_zero, List.set_cons_succ]
        refine take_to 8 56 (.int .i64 (i : Int)) rfl (by kernel_rfl) (by kernel_rfl) (by kernel_rfl) (fun _ _ _ h => h) rfl (by rfl) (fun w hw => by rfl) hH ?_
        simp only [Act.put, List.setIfInBounds_toArray, List.set_cons_zero, List.set_cons_succ]
        refine take_to 9 57 (.pointer (some ⟨gF, i * 6, none⟩)) rfl (by kernel_rfl) (by kernel_rfl) (by kernel_rfl) (fun _ _ _ h => h) rfl (by rfl) (fun w hw => op_index _ _ 58 (.tmp 55) (.tmp 56) rfl _ _ _ rfl rfl (run_index58 w gF _ _ _ hi)) hH ?_
        simp only [Act.put, List.setIfInBounds_toArray, List.set_cons_zero, List.set_cons_succ]
        refine take_to 10 58 (.pointer (some ⟨gF, i * 6, none⟩)) rfl (by kernel_rfl) (by kernel_rfl) (by kernel_rfl) (fun _ _ _ h => h) rfl (by rfl) (fun w hw => by rfl) hH ?_
        simp only [Act.put, List.setIfInBounds_toArray, List.set_cons_zero, List.set_cons_succ]
        refine take_to 11 59 (.int .i64 (pn : Int)) rfl (by kernel_rfl) (by kernel_rfl) (by kernel_rfl) (fun _ _ _ h => h) rfl (by rfl) (fun w hw => op_load _ _ 3 (.tmp 58) rfl (.pointer (some ⟨gF, i * 6, none⟩)) _ rfl (run_loadAny w gF (i * 6) 3 _ Try.isAgg3 hw.2.1)) hH ?_
        simp only [Act.put, List.setIfInBounds_toArray, List.set_cons_zero, List.set_cons_succ]
        refine take_to 12 60 (.pointer (some ⟨r, 0, none⟩)) rfl (by kernel_rfl) (by kernel_rfl) (by kernel_rfl) (fun _ _ _ h => h) rfl (by rfl) (fun w hw => by rfl) hH ?_
        simp only [Act.put, List.setIfInBounds_toArray, List.set_cons_zero, List.set_cons_succ]
        refine take_to 13 61 (.pointer (some ⟨r, 0, none⟩)) rfl (by kernel_rfl) (by kernel_rfl) (by kernel_rfl) (fun _ _ _ h => h) rfl (by rfl) (fun w hw => by rfl) hH ?_
        simp only [Act.put, List.setIfInBounds_toArray, List.set_cons_zero, List.set_cons_succ]
        refine take_to 14 62 (.pointer (some ⟨r, 1, none⟩)) rfl (by kernel_rfl) (by kernel_rfl) (by kernel_rfl) (fun _ _ _ h => h) rfl (by rfl) (fun w hw => by rfl) hH ?_
        simp only [Act.put, List.setIfInBounds_toArray, List.set_cons_zero, List.set_cons_succ]
        refine take_to 15 63 (.slice (some ⟨gF, 0, none⟩) N cF) rfl (by kernel_rfl) (by kernel_rfl) (by kernel_rfl) (fun _ _ _ h => h) rfl (by rfl) (fun w hw => op_load _ _ 58 (.tmp 62) rfl (.pointer (some ⟨r, 1, none⟩)) _ rfl (run_loadAny w r (1) 58 _ Try.isAgg58 hw.1.2)) hH ?_
        simp only [Act.put, List.setIfInBounds_toArray, List.set_cons_zero, List.set_cons_succ]
        refine take_to 16 64 (.int .i64 (i : Int)) rfl (by kernel_rfl) (by kernel_rfl) (by kernel_rfl) (fun _ _ _ h => h) rfl (by rfl) (fun w hw => by rfl) hH ?_
        simp only [Act.put, List.setIfInBounds_toArray, List.set_cons_zero, List.set_cons_succ]
        refine take_to 17 65 (.pointer (some ⟨gF, i * 6, none⟩)) rfl (by kernel_rfl) (by kernel_rfl) (by kernel_rfl) (fun _ _ _ h => h) rfl (by rfl) (fun w hw => op_index _ _ 58 (.tmp 63) (.tmp 64) rfl _ _ _ rfl rfl (run_index58 w gF _ _ _ hi)) hH ?_
        simp only [Act.put, List.setIfInBounds_toArray, List.set_cons_zero, List.set_cons_succ]
        refine take_to 18 66 (.pointer (some ⟨gF, i * 6 + 1, none⟩)) rfl (by kernel_rfl) (by kernel_rfl) (by kernel_rfl) (fun _ _ _ h => h) rfl (by rfl) (fun w hw => by rfl) hH ?_
        simp only [Act.put, List.setIfInBounds_toArray, List.set_cons_zero, List.set_cons_succ]
        refine take_to 19 67 (.string B) rfl (by kernel_rfl) (by kernel_rfl) (by kernel_rfl) (fun _ _ _ h => h) rfl (by rfl) (fun w hw => op_load _ _ 9 (.tmp 66) rfl (.pointer (some ⟨gF, i * 6 + 1, none⟩)) _ rfl (run_loadAny w gF (i * 6 + 1) 9 _ Try.isAgg9 hw.2.2)) hH ?_
        simp only [Act.put, List.setIfInBounds_toArray, List.set_cons_zero, List.set_cons_succ]
        refine take_to 20 68 (.pointer (some ⟨gD, pn, none⟩)) rfl (by kernel_rfl) (by kernel_rfl) (by kernel_rfl) (fun _ _ _ h => h) rfl (by rfl) (fun w hw => op_index _ _ 57 (.tmp 51) (.tmp 59) rfl _ _ _ rfl rfl (run_index57 w gD _ _ _ hpn6)) hH ?_
        simp only [Act.put, List.setIfInBounds_toArray, List.set_cons_zero, List.set_cons_succ]
        refine step_store_to 21 _ rfl (by kernel_rfl) rfl (by rfl) 9 (.tmp 68) (.tmp 67) rfl _ _ rfl rfl (run_store9 _ gD pn _ B bd (H5.out.fzD pn)) HS6.out ?_
        refine wpAnyH_done (by kernel_rfl) ?_ _
        clear hH hS5 b0 e0 e1 bd
        have k6 : (w5.drew.drew.setCell ⟨gD, pn, none⟩ (.string B)).cell? ⟨r, 6, none⟩ = some (.int .i64 (S.wr : Int)) := H6.out.c6'
        have z6 : (w5.drew.drew.setCell ⟨gD, pn, none⟩ (.string B)).frozen? ⟨r, 6, none⟩ = false := H6.out.fzR 6
        have hwadd : IntKind.i64.wrap ((S.wr : Int) + 1) = (S.wr : Int) + 1 := by rw [IntKind.wrap_i64]; omega
        have H7 := hide (H6.out.setH S.hand (S.wr + 1) (w' := (w5.drew.drew.setCell ⟨gD, pn, none⟩ (.string B)).setCell ⟨r, 6, none⟩ (.int .i64 ((S.wr : Int) + 1))) ((Off.refl _ _).setCell _ _ (by simp)) (by rw [heap_setCell_same _ r 6 _ _ _ H6.out.head]; rfl) H6.out.hand)
        have HO7 : Hid (Off (RefFp r gD gF (.slice ao m c)) w ((w5.drew.drew.setCell ⟨gD, pn, none⟩ (.string B)).setCell ⟨r, 6, none⟩ (.int .i64 ((S.wr : Int) + 1)))) := ((HO5.out.drew.drew).setCell _ _ (.inl (by simp [RefFp]))).setCell _ _ (.inl (by simp [RefFp]))
        generalize w5.drew.drew.setCell ⟨gD, pn, none⟩ (.string B) = w6 at *
        go_wp2
        go_ret
        rw [HW.out]
        exact ⟨rfl, _, H7.out.at, HO7.out, HF5.out⟩
  · have hd' : f.dirty = false := by simpa using hd
    rw [hd'] at d2
    have HW : Hid (S.rwrote bad f = (0, S)) := by show _ = _; unfold Pl.rwrote; rw [if_neg hd]
    have H := hide h
    clear h hd hf hpg d0 d1 d3 d4 d5
    go_enter Try.func44, Try.ntmps44
    go_wp2
    go_ret
    rw [HW.out]
    exact ⟨rfl, H.out.to (Off.refl _ _)⟩
end
end Go.Proofs.Ytifoafiidplpiaa
