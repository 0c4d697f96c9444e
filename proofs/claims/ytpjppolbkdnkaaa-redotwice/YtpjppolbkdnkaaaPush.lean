/- losers.Push, and heap.Push where the heap is empty. -/
import Derived.Test.YtpjppolbkdnkaaaPop
namespace Go.Proofs.Ytpjppolbkdnkaaa
open Go.RowKit
set_option linter.unusedVariables false
set_option linter.unusedSimpArgs false

section
variable {w0 w w' : World} {R : Nat} {lg : Sv} {los wr : Value} {H : List Los} {O : List Ln} {K : List (Nat × Obj)}
theorem UndoIs.pushed (x : UndoIs w0 w R lg los wr H O K) (y : Los) {v4 : Value} {w1 w4 : World} (hw1 : Off [] w w1) (r1 : w4.ownsRow w0.heap.size 110 2 v4 (H.length + 1) (losRow H ++ losCells y)) (r2 : w1.grownBy w4 los.ownBlock)
    (r3 : ∀ k, v4.ownBlock = some k → los.ownBlock = some k ∨ w1.heap.size ≤ k) :
    UndoIs w0 (w4.setCell ⟨R, 7, none⟩ v4) R lg v4 wr (H ++ [y]) O K ∧ w4.cell? ⟨R, 7, none⟩ = some los ∧ w4.frozen? ⟨R, 7, none⟩ = false := by
  have hsz := hw1.size
  have h1 : ∀ b, b < w.heap.size → los.ownBlock ≠ some b → w4.heap[b]? = w.heap[b]? := fun b hb hn => (r2.block b (by omega) (fun e => hn e.symm)).trans (hw1.block b hb (by simp))
  have hhead := (h1 R x.lt x.n1).trans x.head
  have hR4 : v4.ownBlock ≠ some R := fun e => by
    rcases r3 R e with h | h
    · exact x.n1 h
    · have := x.lt; omega
  refine ⟨{ head := heap_setCell_same w4 R 7 _ 72 v4 hhead, heap := ?_, rows := ?_, below := ?_, r0 := x.r0, n1 := hR4, n2 := x.n2, n3 := ?_, keep := ?_ }, ?_, frozen_of_row _ _ _ _ _ hhead⟩
  · have e1 : (H ++ [y]).length = H.length + 1 := by simp
    have e2 : losRow (H ++ [y]) = losRow H ++ losCells y := by simp [losRow]
    rw [e1, e2]
    exact owns_of_blockB r1 (fun k hk => heap_setCell_other w4 _ k _ (fun e => hR4 (by have e : k = R := e; rw [hk, e])))
  · refine owns_of_blockB x.rows (fun k hk => ?_)
    exact (heap_setCell_other w4 _ k _ (fun e => x.n2 (by have e : k = R := e; rw [hk, e]))).trans (h1 k (x.rows.lt k hk).2 (fun e => x.n3 k e hk))
  · have hO : Off (R :: los.ownBlock.toList) w (w4.setCell ⟨R, 7, none⟩ v4) := ((((Off.refl _ w).trans hw1 (by simp)).grown r2 (fun k hk => .inl (by simp [hk])))).setCell _ _ (.inl (by simp))
    refine x.below.trans (hO.below x.below.size (fun k hk => ?_))
    rcases List.mem_cons.1 hk with h1 | h1
    · rw [h1]; exact x.r0
    · exact (x.heap.lt k (by simpa using h1)).1
  · intro k hk e
    rcases r3 k hk with h | h
    · exact x.n3 k h e
    · have := (x.rows.lt k e).2; omega
  · intro p hp
    obtain ⟨k1, k2, k3, k4⟩ := x.keep p hp
    have hlt := (Array.getElem?_eq_some_iff.1 k1).1
    refine ⟨((heap_setCell_other w4 _ p.1 _ (by exact k2)).trans (h1 p.1 hlt k3)).trans k1, k2, fun e => ?_, k4⟩
    rcases r3 p.1 e with h | h
    · exact k3 h
    · omega
  · rw [cell_of_row w4 R 7 _ _ _ hhead]; rfl
theorem Try.info110 : (Try.prog.info? 110).map (fun i => (i.zero, i.size, i.bytes)) = some (some (.agg #[.int .i64 0, .int .i64 0]), 2, 16) := by kernel_rfl
theorem Try.buildLos (y : Los) (W : World) : (do pure (Next.value (← Instr.buildSlice 70 1 #[(0, .agg (losCells y).toArray)])) : Sem Next).run Try.prog W = .ok (.value (.slice (some ⟨W.heap.size, 0, none⟩) 1 1)) (W.alloc (.cells (losCells y).toArray 110)) := by
  have e : (Instr.buildSlice 70 1 #[(0, .agg (losCells y).toArray)]).run Try.prog W = .ok (.slice (some ⟨W.heap.size, 0, none⟩) 1 1) (W.alloc (.cells (losCells y).toArray 110)) := by kernel_rfl
  rw [Sem.run_bind, e]; rfl
theorem run_store70 (w : World) (p k : Nat) (u : Value) (ao : Option Addr) (m c : Nat) (h : w.cell? ⟨p, k, none⟩ = some u) (hf : w.frozen? ⟨p, k, none⟩ = false) :
    (Instr.storeAt 70 (.pointer (some ⟨p, k, none⟩)) (.slice ao m c)).run Try.prog w = .ok () (w.setCell ⟨p, k, none⟩ (.slice ao m c)) := by
  simp [go_sem, h, hf]
set_option maxHeartbeats 2000000 in
set_option maxRecDepth 100000 in
theorem push_any (x : UndoIs w0 w R lg los wr H O K) (y : Los) (hH : H.length ≤ 100000) :
    Calls Try.prog 118 #[.pointer (some ⟨R, 7, none⟩), .iface 110 (.agg (losCells y).toArray)] w fun e w' => e = .returned (.tuple #[]) ∧ ∃ ao c, UndoIs w0 w' R lg (.slice ao (H.length + 1) c) wr (H ++ [y]) O K := by
  obtain ⟨ao, mo, co, hlos⟩ := own_form (owns_zero x.heap)
  subst hlos
  have HX := hide x
  have c7 := x.c7
  have HOWN : Hid ((w.drew.alloc (.cells (losCells y).toArray 110)).ownsRow 0 110 2 (.slice ao mo co) H.length (losRow H)) := owns_of_block (owns_zero x.heap) (fun b hb => Below.heap_alloc w.drew _ b (x.heap.lt b hb).2)
  have HSRC : Hid (∀ j u, (losCells y)[j]? = some u → (w.drew.alloc (.cells (losCells y).toArray 110)).cell? ((⟨w.heap.size, 0, none⟩ : Addr).add j) = some u) := src_of_block (heap_alloc_new w.drew _)
  have HO1 : Hid (Off [] w (w.drew.alloc (.cells (losCells y).toArray 110))) := ((Off.refl _ w).drew).alloc _
  have HK7 : Hid ((w.drew.alloc (.cells (losCells y).toArray 110)).cell? ⟨R, 7, none⟩ = some (.slice ao mo co)) := (World.cell?_of_block (a := ⟨R, 7, none⟩) (HO1.out.block R x.lt (by simp))).trans c7
  have hsz := x.below.size
  clear x
  go_enter Try.func118, Try.ntmps118
  go_upto_region 0 with fail
  refine wp_region_held_drew (S := fun _ => True) (by kernel_rfl) trivial (fun hH' => ?_)
  refine take_to 0 4 (.pointer (some ⟨R, 7, none⟩)) rfl (by kernel_rfl) (by kernel_rfl) (by kernel_rfl) (fun _ _ _ h => h) rfl (by rfl) (fun w hw => by rfl) hH' ?_
  simp only [Act.put, List.setIfInBounds_toArray, List.set_cons_zero, List.set_cons_succ]
  refine take_to 1 5 (.pointer (some ⟨R, 7, none⟩)) rfl (by kernel_rfl) (by kernel_rfl) (by kernel_rfl) (fun _ _ _ h => h) rfl (by rfl) (fun w hw => by rfl) hH' ?_
  simp only [Act.put, List.setIfInBounds_toArray, List.set_cons_zero, List.set_cons_succ]
  refine take_to 2 6 (.pointer (some ⟨R, 7, none⟩)) rfl (by kernel_rfl) (by kernel_rfl) (by kernel_rfl) (fun _ _ _ h => h) rfl (by rfl) (fun w hw => by rfl) hH' ?_
  simp only [Act.put, List.setIfInBounds_toArray, List.set_cons_zero, List.set_cons_succ]
  refine take_to 4 8 (.iface 110 (.agg (losCells y).toArray)) rfl (by kernel_rfl) (by kernel_rfl) (by kernel_rfl) (fun _ _ _ h => h) rfl (by rfl) (fun w hw => by rfl) hH' ?_
  simp only [Act.put, List.setIfInBounds_toArray, List.set_cons_zero, List.set_cons_succ]
  refine take_to 5 9 (.agg (losCells y).toArray) rfl (by kernel_rfl) (by kernel_rfl) (by kernel_rfl) (fun _ _ _ h => h) rfl (by rfl) (fun w hw => by kernel_rfl) hH' ?_
  simp only [Act.put, List.setIfInBounds_toArray, List.set_cons_zero, List.set_cons_succ]
  refine wpAnyH_all (rs := [3, 6]) (by kernel_rfl) (by simp) ?_
  intro n hn
  rcases (by simpa using hn : n = 3 ∨ n = 6) with rfl | rfl
  refine op_to 7 (.slice ao mo co) _ rfl rfl (by rfl) (op_load _ _ 70 (.tmp 6) rfl (.pointer (some ⟨R, 7, none⟩)) _ rfl (run_loadAny _ R 7 70 _ Try.isAgg70 c7)) ⟨trivial, ?_⟩
  simp only [Act.put, List.setIfInBounds_toArray, List.set_cons_zero, List.set_cons_succ]
  refine step_to 6 10 (.slice (some ⟨w.heap.size, 0, none⟩) 1 1) (w.drew.alloc (.cells (losCells y).toArray 110)) rfl (by kernel_rfl) rfl (by rfl) (by rw [buildSlice_op _ _ 70 1 0 (.tmp 9) rfl _ rfl]; exact Try.buildLos _ _) trivial ?_
  simp only [Act.put, List.setIfInBounds_toArray, List.set_cons_zero, List.set_cons_succ]
  rotate_left
  refine op_to 10 (.slice (some ⟨w.heap.size, 0, none⟩) 1 1) (w.drew.alloc (.cells (losCells y).toArray 110)) rfl rfl (by rfl) (by rw [buildSlice_op _ _ 70 1 0 (.tmp 9) rfl _ rfl]; exact Try.buildLos _ _) ⟨trivial, ?_⟩
  simp only [Act.put, List.setIfInBounds_toArray, List.set_cons_zero, List.set_cons_succ]
  refine step_to 3 7 (.slice ao mo co) _ rfl (by kernel_rfl) rfl (by rfl) (op_load _ _ 70 (.tmp 6) rfl (.pointer (some ⟨R, 7, none⟩)) _ rfl (run_loadAny _ R 7 70 _ Try.isAgg70 HK7.out)) trivial ?_
  simp only [Act.put, List.setIfInBounds_toArray, List.set_cons_zero, List.set_cons_succ]
  all_goals
    refine step_append_to 7 11 rfl (by kernel_rfl) rfl rfl (.tmp 7) (.tmp 10) 70 rfl 110 (.agg #[.int .i64 0, .int .i64 0]) 2 16 Try.underlying70 Try.info110 rfl (by omega) (.slice ao mo co) H.length (losRow H) rfl HOWN.out ⟨w.heap.size, 0, none⟩ 1 1 (losCells y) rfl rfl HSRC.out (by intro u hu; simp [losCells] at hu; rcases hu with rfl | rfl <;> rfl) (by simp only [maxLen]; omega) (by omega) (fun v4 w6 ra rb rc => ?_)
    obtain ⟨hI6, q1, q2⟩ := HX.out.pushed y HO1.out (owns_base ra (fun k hk => by
      rcases rc k hk with h | h
      · exact (HX.out.heap.lt k h).1
      · have := HO1.out.size; omega)) rb rc
    refine ⟨trivial, ?_⟩
    simp only [Act.put, List.setIfInBounds_toArray, List.set_cons_zero, List.set_cons_succ]
    obtain ⟨ao4, m4, c4, rfl⟩ := own_form ra
    have hm4 : m4 = H.length + 1 := by
      rcases ra.2 with ⟨h, h'⟩ | ⟨g, cap, cur, h, _⟩
      · omega
      · injection h
    subst hm4
    refine step_to 8 12 (.pointer (some ⟨R, 7, none⟩)) w6 rfl (by kernel_rfl) rfl (by rfl) (rfl) trivial ?_
    simp only [Act.put, List.setIfInBounds_toArray, List.set_cons_zero, List.set_cons_succ]
    refine step_store_to 9 _ rfl (by kernel_rfl) rfl (by rfl) 70 (.tmp 12) (.tmp 11) rfl _ _ rfl rfl (run_store70 w6 R 7 _ ao4 _ c4 q1 q2) trivial ?_
    refine wpAnyH_done (by kernel_rfl) ?_ _
    have HI7 := hide hI6
    clear hH' ra rb rc q1 q2 hI6 HSRC HOWN HO1 HK7 c7
    go_wp2
    go_end0
    exact ⟨rfl, _, _, HI7.out⟩
set_option maxHeartbeats 2000000 in
set_option maxRecDepth 100000 in
theorem heapPush_nil (x : UndoIs w0 w R lg los wr [] O K) (y : Los) :
    Calls Try.prog 51 #[.iface 108 (.pointer (some ⟨R, 7, none⟩)), .iface 110 (.agg (losCells y).toArray)] w fun e w' => e = .returned (.tuple #[]) ∧ ∃ ao c, UndoIs w0 w' R lg (.slice ao 1 c) wr [y] O K := by
  have HP := hide (push_any x y (by simp))
  have hmp := mPush ⟨R, 7, none⟩
  have HML := hide (fun W v h => mLen R W v h)
  have HUP := hide (fun W => up_zero (.iface 108 (.pointer (some ⟨R, 7, none⟩))) W)
  clear x
  go_enter Try.func51, Try.ntmps51
  go_wp2_with (first
    | (go_at_call 118; refine HP.out.mono ?_; rintro e w2 ⟨rfl, ao, c, hX2⟩; have HX2 := hide hX2; have hml := HML.out w2 _ hX2.c7; clear hX2 hmp)
    | (go_at_call 114; refine (len_los ao 1 c w2).mono ?_; rintro e w' ⟨rfl, hw⟩; have hw := hw.symm; subst hw)
    | (go_at_call 74; refine (HUP.out _).mono ?_; rintro e w3 ⟨rfl, hb3⟩; have HX3 := hide (HX2.out.stayD hb3); clear hb3))
  go_end0
  exact ⟨rfl, _, _, HX3.out⟩
end
end Go.Proofs.Ytpjppolbkdnkaaa
