/- 'read': the page whose bytes they are. -/
import Derived.Test.YtdddeneppciiiaaRecs
namespace Go.Proofs.Ytdddeneppciiiaa
open Go.RowKit
set_option linter.unusedVariables false
set_option linter.unusedSimpArgs false

theorem results_pg {fn : Func} {p u : Tmp} {ty : TypeId} (h : fn.results = #[.cell p ty, .tmp u]) (tmps : Array Value) (w : World) (g : Nat) (t : TypeId) (cs : Array Value) (fr : Nat × Nat) (d : TypeDesc)
    (hp : tmps.getD p undef = .pointer (some ⟨g, 0, none⟩)) (hg : w.heap[g]? = some (.cells cs t fr))
    (hu : Try.prog.underlying ty = some d) (hd : d.isRow = true) (hi : (Try.prog.info? ty).map (·.size) = some cs.size) :
    (results fn tmps).run Try.prog w = .ok (.tuple #[.agg cs, tmps.getD u undef]) w := by
  have hp' : tmps[p]?.getD undef = .pointer (some ⟨g, 0, none⟩) := by simpa using hp
  have hl := run_loadVar_mid (P := Try.prog) w g 0 ty cs.toList d (fun j v hv => by rw [Nat.zero_add, cell_row hg]; simpa using hv) hu hd (by rw [hi, Array.length_toList])
  simp [results, h, hp', asAddr, hl]
def ReadEnd (w : World) (bs : List UInt8) (e : Ending) (w' : World) : Prop :=
  Below w.heap.size w w' ∧ match dec bs with
  | none => e = .returned (.tuple #[pageV 0 (.slice none 0 0), .bool false])
  | some g => ∃ sv, e = .returned (.tuple #[pageV g.next sv, .bool true]) ∧ SlotsOwn w w' sv g.sl
def zeroPg : Array Value := #[.int .i64 0, .slice none 0 0]
theorem Try.built56 : Try.prog.built 56 [] = some zeroPg := by kernel_rfl
theorem Try.size56 {cs : Array Value} (h : cs.size = 2) : (Try.prog.info? 56).map (·.size) = some cs.size := by rw [h]; kernel_rfl
theorem one_zeroPg : zeroPg.all (·.oneCell') = true := by simp [zeroPg, Value.oneCell']
theorem one_pg (x : Int) (a : Option Addr) (n m : Nat) : (#[.int .i64 x, .slice a n m] : Array Value).all (·.oneCell') = true := by simp [Value.oneCell']
theorem Try.results27 : Try.f27.results = #[.cell 2 56, .tmp 3] := rfl
theorem wpList_build_is {P : Program} {ops : Array Oper} {rest : List Oper} {o : Oper} {a : Act} {w : World} {Q : Exit → Act → World → Prop} (hg : o.guard = none) (t : TypeId) (parts : Array (Nat × Operand)) (ho : o.op = .build t parts)
    (cells : Array Value) (hf : P.built t (parts.map fun (i, x) => (i, a.eval x)).toList = some cells)
    (h : wpList P ops Q rest (a.put o.dst (.agg cells)) w) : wpList P ops Q (o :: rest) a w :=
  wpList_build hg t parts ho (by rw [hf]; rfl) (by rw [hf]; exact h)
theorem op_build61 (ρ : Operand → Value) (o : Oper) (x y : Operand) (ho : o.op = .build 61 #[(0, x), (1, y)]) (b : Bool) (ao : Option Addr) (n c : Nat) (hx : ρ x = .bool b) (hy : ρ y = .slice ao n c) {w : World} : (execOp ρ o).run Try.prog w = .ok (.value (.agg #[.bool b, .slice ao n c])) w := by
  refine op_build ρ o 61 _ ho _ ?_
  have : (#[(0, x), (1, y)] : Array (Nat × Operand)).map (fun (i, x) => (i, ρ x)) = #[(0, .bool b), (1, .slice ao n c)] := by simp [hx, hy]
  rw [this]
  exact build61 b _ w _ _ _ rfl
theorem run_index54 (w : World) (g n cap i : Nat) (h : i < n) : (Instr.indexAt 54 (.slice (some ⟨g, 0, none⟩) n cap) (.int .i64 (i : Int))).run Try.prog w = .ok (.pointer (some ⟨g, i * 2, none⟩)) w := by
  have hu := Try.underlying54
  have hs := Try.sizeOf61
  simp [go_sem, hu, hs, h]
theorem run_store3 (w : World) (b o : Nat) (C : Array Value) (t : TypeId) (x : Int) (hg : w.heap[b]? = some (.cells C t (0, 0))) (ho : o < C.size) : (Instr.storeAt 3 (.pointer (some ⟨b, o, none⟩)) (.int .i64 x)).run Try.prog w = .ok () (w.setCell ⟨b, o, none⟩ (.int .i64 x)) := by
  have hc : w.cell? ⟨b, o, none⟩ = some C[o] := by rw [cell_row hg]; simp [ho]
  have hf : w.frozen? ⟨b, o, none⟩ = false := frozen_row hg
  have hs := Try.sizeOf3
  simp [go_sem, hs, hc, hf]
/-- Where 'read' is: the result's cell, the page, its slots; w the world at the call. -/
structure RdAt (w wr : World) (n nx : Nat) (S : List Slt) : Prop where
  below : Below w.heap.size w wr
  res : wr.heap[w.heap.size]? = some (.cells zeroPg 56 (0, 0))
  pg : wr.heap[w.heap.size + 1]? = some (.cells #[.int .i64 (nx : Int), .slice (some ⟨w.heap.size + 2, 0, none⟩) n n] 56 (0, 0))
  row : ∃ R, RowIn wr (w.heap.size + 2) R ∧ Recs w R (S ++ List.replicate (n - S.length) none)
  len : S.length ≤ n
theorem RdAt.drewN {w wr : World} {n nx : Nat} {S : List Slt} (h : RdAt w wr n nx S) (m : Nat) : RdAt w (wr.drewN m) n nx S := ⟨h.below.trans (below_drewN _ _ m), h.res, h.pg, h.row, h.len⟩
theorem RdAt.c1 {w wr : World} {n nx : Nat} {S : List Slt} (h : RdAt w wr n nx S) : wr.cell? ⟨w.heap.size + 1, 1, none⟩ = some (.slice (some ⟨w.heap.size + 2, 0, none⟩) n n) := by rw [cell_row h.pg]; rfl
theorem RdAt.empty {w wr : World} {n nx : Nat} {S : List Slt} (h : RdAt w wr n nx S) (hl : S.length < n) : RdAt w wr n nx (S ++ [none]) := by
  obtain ⟨R, h1, h2⟩ := h.row
  refine ⟨h.below, h.res, h.pg, ⟨R, h1, ?_⟩, by simp; omega⟩
  rw [List.length_append, List.length_singleton, List.append_assoc]
  rw [show n - S.length = 1 + (n - (S.length + 1)) by omega, ← List.replicate_append_replicate] at h2
  exact h2
theorem RdAt.full {w wr : World} {n nx : Nat} {S : List Slt} (h : RdAt w wr n nx S) (hl : S.length < n) (v : Value) (d : List UInt8) (hv : Sl w v d) :
    ∃ w', (Instr.storeAt 61 (.pointer (some ⟨w.heap.size + 2, S.length * 2, none⟩)) (.agg #[.bool true, v])).run Try.prog wr = .ok () w' ∧ RdAt w w' n nx (S ++ [some d]) := by
  obtain ⟨R, h1, h2⟩ := h.row
  have hR : R.length = n := by rw [h2.1]; simp; have := h.len; omega
  have hone : ∀ u ∈ [Value.bool true, v], u.oneCell' = true := by
    intro u hu
    simp at hu
    rcases hu with rfl | rfl
    · rfl
    · obtain ⟨ao, c, e, _⟩ := hv
      rw [e]; rfl
  have hst := run_storeAt_in (P := Try.prog) wr (w.heap.size + 2) (S.length * 2) 61 61 _ [.bool true, v] h1 (by simp [length_recCells]; omega) Try.size61 hone
  refine ⟨_, hst, ?_⟩
  have e1 : (recCells R).toArray.toList.take (S.length * 2) ++ [.bool true, v] ++ (recCells R).toArray.toList.drop (S.length * 2 + [Value.bool true, v].length) = recCells (R.set S.length (true, v)) := recCells_set R S.length true v (by omega)
  rw [e1]
  have hlt := lt_of_heap h.pg
  refine ⟨below_setRow h.below (by omega) _, ?_, ?_, ⟨R.set S.length (true, v), setRow_heap _ _ _ _ _ _ h1, ?_⟩, by simp; omega⟩
  · rw [setRow_other _ _ _ _ (by omega)]; exact h.res
  · rw [setRow_other _ _ _ _ (by omega)]; exact h.pg
  · have := h2.set S.length (true, v) (some d) ⟨rfl, hv⟩
    rw [List.set_append_right _ _ (Nat.le_refl _), Nat.sub_self, show n - S.length = 1 + (n - (S.length + 1)) by omega, ← List.replicate_append_replicate] at this
    rw [List.length_append, List.length_singleton, List.append_assoc]
    exact this
theorem RdAt.own {w wr : World} {n nx : Nat} {S : List Slt} (h : RdAt w wr n nx S) (hl : S.length = n) (hn : n ≤ 124) : SlotsOwn w wr (.slice (some ⟨w.heap.size + 2, 0, none⟩) n n) S := by
  obtain ⟨R, h1, h2⟩ := h.row
  rw [hl, Nat.sub_self, List.replicate_zero, List.append_nil] at h2
  have := h1.own (S := S) h.below (by omega) h2 (by omega)
  rw [hl] at this
  exact this
theorem RdAt.ownRow {w wr : World} {n nx : Nat} {S : List Slt} (h : RdAt w wr n nx S) (hl : S.length = n) (hn : n ≤ 124) (cs : Array Value) : SlotsOwn w (wr.setRow w.heap.size cs) (.slice (some ⟨w.heap.size + 2, 0, none⟩) n n) S := by
  obtain ⟨R, h1, h2⟩ := h.row
  rw [hl, Nat.sub_self, List.replicate_zero, List.append_nil] at h2
  have h3 : RowIn (wr.setRow w.heap.size cs) (w.heap.size + 2) R := by
    unfold RowIn
    rw [setRow_other _ _ _ _ (by omega)]
    exact h1
  have := h3.own (S := S) (below_setRow h.below (Nat.le_refl _) _) (by omega) h2 (by omega)
  rw [hl] at this
  exact this
theorem all_of_take {D : List UInt8} {p : UInt8 → Bool} (h : ∀ j, j < D.length → p (D[j]?.getD 0) = true) : D.all p = true := by
  refine List.all_eq_true.2 fun x hx => ?_
  obtain ⟨j, hj, rfl⟩ := List.getElem_of_mem hx
  have := h j hj
  rw [List.getElem?_eq_getElem hj] at this
  exact this
theorem not_all {D : List UInt8} {j : Nat} (hj : j < D.length) (h : D[j]?.getD 0 ≠ 0) : ¬ (D.all (fun b => b == 0) = true) := by
  intro ha
  have := List.all_eq_true.1 ha _ (List.getElem_mem hj)
  rw [List.getElem?_eq_getElem hj] at h
  exact h (by simpa using this)
set_option maxHeartbeats 2000000 in
set_option maxRecDepth 100000 in
theorem read_any {w : World} {v : Value} {bs : List UInt8} (h : Sl w v bs) :
    Calls Try.prog 27 #[v] w fun e w' => ReadEnd w bs e w' := by
  obtain ⟨ao, c, rfl, hc1, hc2⟩ := h.len
  simp only [maxLen] at hc2
  have hB0 : Below w.heap.size w ((w.alloc (.cells zeroPg 56)).alloc (.cells zeroPg 56)) := ((Below.refl _ w).alloc (Nat.le_refl _) _).alloc (by simp) _
  have hQ0 : ((w.alloc (.cells zeroPg 56)).alloc (.cells zeroPg 56)).heap[w.heap.size]? = some (.cells zeroPg 56 (0, 0)) := by
    rw [Below.heap_alloc _ _ _ (by simp)]
    exact heap_alloc_new _ _
  have hG0 : ((w.alloc (.cells zeroPg 56)).alloc (.cells zeroPg 56)).heap[w.heap.size + 1]? = some (.cells zeroPg 56 (0, 0)) := by
    have h := heap_alloc_new (w.alloc (.cells zeroPg 56)) (.cells zeroPg 56)
    rw [show (w.alloc (.cells zeroPg 56)).heap.size = w.heap.size + 1 by simp] at h
    exact h
  have hz0 : ((w.alloc (.cells zeroPg 56)).alloc (.cells zeroPg 56)).heap.size = w.heap.size + 2 := by simp
  unfold zeroPg at hB0 hQ0 hG0 hz0
  by_cases hlen : bs.length ≠ 504
  · have HD : Hid (dec bs = none) := by unfold dec; rw [Hid, if_pos hlen]
    have HQ := hide hQ0
    have HBE := hide hB0
    have hne : ¬ ((bs.length : Int) = 504) := by omega
    clear h hlen hQ0 hG0 hB0 hz0
    generalize bs.length = L at *
    go_enter Try.func27, Try.ntmps27
    go_wp2
    refine wp_scope_fwd 1 ?_
    go_wp2
    go_step3
    refine ⟨_, rfl, ?_⟩
    go_wp2_with (first
      | (refine wpList_build_is rfl 56 _ rfl zeroPg Try.built56 ?_)
      | (refine wpList_store_row rfl 56 _ _ rfl w.heap.size zeroPg rfl rfl 56 _ HQ.out (Try.size56 rfl) rfl one_zeroPg ?_))
    rw [Exit.jumps_ret]
    refine bodyPost_ret (v := .tuple #[.agg zeroPg, .bool false]) (results_pg Try.results27 _ _ w.heap.size 56 zeroPg (0, 0) _ rfl (setRow_heap _ _ _ _ _ _ HQ.out) Try.underlying56 rfl (Try.size56 rfl)) rfl ?_
    refine ⟨below_setRow HBE.out (Nat.le_refl _) _, ?_⟩
    rw [HD.out]
    rfl
  · have hlen : bs.length = 504 := Classical.not_not.1 hlen
    have HD0 : Hid (dec bs = if 124 < beval (bs.take 2) then none else cont bs (beval ((bs.drop 2).take 4)) (beval (bs.take 2)) [] 504) := by unfold dec; rw [Hid, if_neg (by simp [hlen])]
    have HSL := hide h
    have HN2 : Hid (∀ W, Below w.heap.size w W → Calls Try.prog 42 #[.slice ao 2 c] W fun e w' => e = .returned (.int .i64 (beval (bs.take 2) : Nat)) ∧ w' = W) := fun W hb => number_any ((h.to 2 (by omega)).belowW hb) (by simp; omega)
    have HN4 : Hid (∀ W, Below w.heap.size w W → Calls Try.prog 42 #[.slice (cutAt ao c 2) 4 (c - 2)] W fun e w' => e = .returned (.int .i64 (beval ((bs.drop 2).take 4) : Nat)) ∧ w' = W) := fun W hb => number_any ((h.mid 2 4 (by omega)).belowW hb) (by simp; omega)
    have hb2 : beval (bs.take 2) < 65536 := by have := beval_lt (bs.take 2); rwa [List.length_take, Nat.min_eq_left (by omega)] at this
    have hb4 : beval ((bs.drop 2).take 4) < 4294967296 := by have := beval_lt ((bs.drop 2).take 4); rwa [List.length_take, List.length_drop, Nat.min_eq_left (by omega)] at this
    have HNW : Hid (∀ W k, 6 + 4 * (k + 1) ≤ 504 → Below w.heap.size w W → Calls Try.prog 42 #[.slice (cutAt ao c (6 + 4 * k)) 2 (c - (6 + 4 * k))] W fun e w' => e = .returned (.int .i64 (whe bs k : Nat)) ∧ w' = W) := fun W k hk hb => number_any ((h.mid (6 + 4 * k) 2 (by omega)).belowW hb) (by simp; omega)
    have HNS : Hid (∀ W k, 6 + 4 * (k + 1) ≤ 504 → Below w.heap.size w W → Calls Try.prog 42 #[.slice (cutAt ao c (8 + 4 * k)) 2 (c - (8 + 4 * k))] W fun e w' => e = .returned (.int .i64 (szo bs k : Nat)) ∧ w' = W) := fun W k hk hb => number_any ((h.mid (8 + 4 * k) 2 (by omega)).belowW hb) (by simp; omega)
    have HWL : Hid (∀ k, whe bs k < 65536) := fun k => by
      have := beval_lt ((bs.drop (6 + 4 * k)).take 2)
      exact Nat.lt_of_lt_of_le this (Nat.le_trans (Nat.pow_le_pow_right (by omega) (List.length_take_le _ _)) (by decide))
    have HSZ : Hid (∀ k, szo bs k < 65536) := fun k => by
      have := beval_lt ((bs.drop (8 + 4 * k)).take 2)
      exact Nat.lt_of_lt_of_le this (Nat.le_trans (Nat.pow_le_pow_right (by omega) (List.length_take_le _ _)) (by decide))
    rw [hlen] at hc1
    rw [hlen]
    have Hlen := hide hlen
    clear h hlen
    generalize beval (bs.take 2) = n at *
    generalize beval ((bs.drop 2).take 4) = nx at *
    go_enter Try.func27, Try.ntmps27
    go_wp2
    refine wp_scope_fwd 1 ?_
    go_wp2
    have HB0 := hide hB0
    have HQ0 := hide hQ0
    have HG0 := hide hG0
    clear hB0 hQ0 hG0
    generalize (w.alloc (.cells #[.int .i64 0, .slice none 0 0] 56)).alloc (.cells #[.int .i64 0, .slice none 0 0] 56) = W0 at *
    have hf0 : W0.frozen? ⟨w.heap.size + 1, 0, none⟩ = false := frozen_row HG0.out
    refine wp_region_held_drew (S := fun _ => True) (by kernel_rfl) trivial (fun hH => ?_)
    refine take_to 0 17 (.slice ao 504 c) rfl (by kernel_rfl) (by kernel_rfl) (by kernel_rfl) (fun _ _ _ h => h) rfl (by rfl) (fun w hw => by rfl) hH ?_
    simp only [Act.put, List.setIfInBounds_toArray, List.set_cons_zero, List.set_cons_succ]
    refine take_to 1 18 (.slice ao 2 c) rfl (by kernel_rfl) (by kernel_rfl) (by kernel_rfl) (fun _ _ _ h => h) rfl (by rfl) (fun w hw => op_slice _ _ 23 (.tmp 17) none (some (.const (.int .i64 2))) none rfl _ _ none (some (.int .i64 2)) rfl rfl rfl rfl (run_cut_to w ao 504 c 2 (by omega))) hH ?_
    simp only [Act.put, List.setIfInBounds_toArray, List.set_cons_zero, List.set_cons_succ]
    refine take_to 3 20 (.slice ao 504 c) rfl (by kernel_rfl) (by kernel_rfl) (by kernel_rfl) (fun _ _ _ h => h) rfl (by rfl) (fun w hw => by rfl) hH ?_
    simp only [Act.put, List.setIfInBounds_toArray, List.set_cons_zero, List.set_cons_succ]
    refine take_to 4 21 (.slice (cutAt ao c 2) 4 (c - 2)) rfl (by kernel_rfl) (by kernel_rfl) (by kernel_rfl) (fun _ _ _ h => h) rfl (by rfl) (fun w hw => op_slice _ _ 23 (.tmp 20) (some (.const (.int .i64 2))) (some (.const (.int .i64 6))) none rfl _ _ (some (.int .i64 2)) (some (.int .i64 6)) rfl rfl rfl rfl (run_cut_mid w ao 504 c 2 6 (by omega) (by omega))) hH ?_
    simp only [Act.put, List.setIfInBounds_toArray, List.set_cons_zero, List.set_cons_succ]
    refine step_call1_to 2 19 42 rfl (by kernel_rfl) rfl (by rfl) (.tmp 18) _ rfl _ rfl Try.enters42 (HN2.out W0.drew (HB0.out.trans (below_drewN _ _ 1))) ?_
    rintro e W1 ⟨rfl, hw1⟩
    subst hw1
    refine ⟨_, rfl, trivial, ?_⟩
    simp only [Act.put, List.setIfInBounds_toArray, List.set_cons_zero, List.set_cons_succ]
    refine step_call1_to 5 22 42 rfl (by kernel_rfl) rfl (by rfl) (.tmp 21) _ rfl _ rfl Try.enters42 (HN4.out W0.drew (HB0.out.trans (below_drewN _ _ 1))) ?_
    rintro e W1 ⟨rfl, hw1⟩
    subst hw1
    refine ⟨_, rfl, trivial, ?_⟩
    simp only [Act.put, List.setIfInBounds_toArray, List.set_cons_zero, List.set_cons_succ]
    refine step_to 6 5 (.int .i64 (n : Int)) W0.drew rfl (by kernel_rfl) rfl (by rfl) (rfl) trivial ?_
    simp only [Act.put, List.setIfInBounds_toArray, List.set_cons_zero, List.set_cons_succ]
    refine step_to 7 23 (.pointer (some ⟨w.heap.size + 1, 0, none⟩)) W0.drew rfl (by kernel_rfl) rfl (by rfl) (rfl) trivial ?_
    simp only [Act.put, List.setIfInBounds_toArray, List.set_cons_zero, List.set_cons_succ]
    refine step_store_to 8 (W0.drew.setCell ⟨w.heap.size + 1, 0, none⟩ (.int .i64 (nx : Int))) rfl (by kernel_rfl) rfl (by rfl) 3 (.tmp 23) (.tmp 22) rfl _ _ rfl rfl (run_store3 W0.drew (w.heap.size + 1) 0 zeroPg 56 _ HG0.out (by decide)) trivial ?_
    refine wpAnyH_done (by kernel_rfl) ?_ _
    have HG1 : Hid ((W0.drew.setCell ⟨w.heap.size + 1, 0, none⟩ (.int .i64 (nx : Int))).heap[w.heap.size + 1]? = some (.cells #[.int .i64 (nx : Int), .slice none 0 0] 56 (0, 0))) := heap_set_same (w := W0.drew) _ HG0.out
    have HQ1 : Hid ((W0.drew.setCell ⟨w.heap.size + 1, 0, none⟩ (.int .i64 (nx : Int))).heap[w.heap.size]? = some (.cells zeroPg 56 (0, 0))) := (Below.heap_setCell _ _ _ _ (by simp)).trans HQ0.out
    have HB1 : Hid (Below w.heap.size w (W0.drew.setCell ⟨w.heap.size + 1, 0, none⟩ (.int .i64 (nx : Int)))) := (HB0.out.trans (below_drewN _ _ 1)).setCell (by simp) _
    have hz1 : (W0.drew.setCell ⟨w.heap.size + 1, 0, none⟩ (.int .i64 (nx : Int))).heap.size = w.heap.size + 2 := by rw [← hz0]; simp [World.setCell]
    generalize W0.drew.setCell ⟨w.heap.size + 1, 0, none⟩ (.int .i64 (nx : Int)) = W1 at *
    clear hH HG0 HQ0 HB0 hf0 hz0 HN2 HN4
    by_cases hn : 124 < n
    · have HD : Hid (dec bs = none) := by rw [Hid, HD0.out, if_pos hn]
      have HQ := hide HQ1.out
      have HBE := hide HB1.out
      clear HD0 HNW HNS
      go_wp2
      go_step3
      refine ⟨_, rfl, ?_⟩
      go_wp2_with (first
        | (refine wpList_build_is rfl 56 _ rfl zeroPg Try.built56 ?_)
        | (refine wpList_store_row rfl 56 _ _ rfl w.heap.size zeroPg rfl rfl 56 _ HQ.out (Try.size56 rfl) rfl one_zeroPg ?_))
      rw [Exit.jumps_ret]
      refine bodyPost_ret (v := .tuple #[.agg zeroPg, .bool false]) (results_pg Try.results27 _ _ w.heap.size 56 zeroPg (0, 0) _ rfl (setRow_heap _ _ _ _ _ _ HQ.out) Try.underlying56 rfl (Try.size56 rfl)) rfl ?_
      refine ⟨below_setRow HBE.out (Nat.le_refl _) _, ?_⟩
      rw [HD.out]
      rfl
    · have HD1 : Hid (dec bs = cont bs nx n [] 504) := by rw [Hid, HD0.out, if_neg hn]
      have hmk := fun W => makeRecs n (by omega) W
      clear HD0
      have hc11 : (W1.alloc (.cells (recCells (List.replicate n (false, .slice none 0 0))).toArray 61)).cell? ⟨w.heap.size + 1, 1, none⟩ = some (.slice none 0 0) := by
        rw [cell_alloc _ _ (by rw [hz1]; simp), cell_row HG1.out]; rfl
      have hf11 : (W1.alloc (.cells (recCells (List.replicate n (false, .slice none 0 0))).toArray 61)).frozen? ⟨w.heap.size + 1, 1, none⟩ = false := by
        refine frozen_row (C := #[.int .i64 (nx : Int), .slice none 0 0]) (t := 56) ?_
        rw [Below.heap_alloc _ _ _ (by rw [hz1]; simp)]; exact HG1.out
      have hq1 : (W1.setCell ⟨w.heap.size + 1, 1, none⟩ (.slice (some ⟨w.heap.size + 2, 0, none⟩) n n)).heap.size = w.heap.size + 2 := by rw [← hz1]; simp [World.setCell]
      have HA0 : Hid (RdAt w ((W1.setCell ⟨w.heap.size + 1, 1, none⟩ (.slice (some ⟨w.heap.size + 2, 0, none⟩) n n)).alloc (.cells (recCells (List.replicate n (false, .slice none 0 0))).toArray 61)) n nx []) := by
        refine ⟨(HB1.out.setCell (by simp) _).alloc (by omega) _, ?_, ?_, ⟨List.replicate n (false, .slice none 0 0), ?_, ?_⟩, by simp⟩
        · rw [Below.heap_alloc _ _ _ (by omega), Below.heap_setCell _ _ _ _ (by simp)]; exact HQ1.out
        · rw [Below.heap_alloc _ _ _ (by omega)]
          exact heap_set_same (C := #[.int .i64 (nx : Int), .slice none 0 0]) _ HG1.out
        · have := heap_alloc_new (W1.setCell ⟨w.heap.size + 1, 1, none⟩ (.slice (some ⟨w.heap.size + 2, 0, none⟩) n n)) (.cells (recCells (List.replicate n (false, .slice none 0 0))).toArray 61)
          rw [hq1] at this
          exact this
        · simpa using recs_none w n
      clear hq1
      clear HB1 HQ1 HG1
      go_wp2
      go_loopw [33, 7] (fun i lo wr => ∃ (k lw : Nat) (S : List Slt), k ≤ n ∧ i = .int .i64 (k : Int) ∧ lo = .int .i64 (lw : Int) ∧ S.length = k ∧ 6 + 4 * n ≤ lw ∧ lw ≤ 504 ∧ dec bs = cont bs nx n S lw ∧ RdAt w wr n nx S) (fun i _ _ => n - (intOf i).toNat)
      case atStart => exact ⟨0, 504, [], Nat.zero_le _, rfl, rfl, rfl, by omega, by omega, HD1.out, HA0.out⟩
      case round =>
        obtain ⟨k, lw, S, hk, rfl, rfl, hS, hl1, hl2, hdc, hA⟩ := hrel
        have HA := hide hA
        have HDC := hide hdc
        have HS := hide hS
        clear hA hdc hS HA0 HD1 hc11 hf11 hmk
        by_cases hlt : k < n
        · have HW1 := hide (fun m => HNW.out (wr.drewN m) k (by omega) (HA.out.drewN m).below)
          have HZ1 := hide (fun m => HNS.out (wr.drewN m) k (by omega) (HA.out.drewN m).below)
          have hwb := HWL.out k
          have hzb := HSZ.out k
          have HCW : Hid ((szo bs k = 0 ∧ whe bs k ≠ 0) ∨ (szo bs k ≠ 0 ∧ (480 < szo bs k - 1 ∨ whe bs k < 6 + 4 * n ∨ whe bs k + (szo bs k - 1) ≠ lw)) → dec bs = none) := fun hx => by
            rw [HDC.out]
            exact cont_wrong (by rw [HS.out]; exact hlt) (by rw [HS.out]; exact hx)
          have HCN : Hid (szo bs k = 0 → whe bs k = 0 → dec bs = cont bs nx n (S ++ [none]) lw) := fun h1 h2 => by
            rw [HDC.out]
            exact cont_none (by rw [HS.out]; exact hlt) (by rw [HS.out]; exact h1) (by rw [HS.out]; exact h2)
          have HCS : Hid (szo bs k ≠ 0 → szo bs k - 1 ≤ 480 → 6 + 4 * n ≤ whe bs k → whe bs k + (szo bs k - 1) = lw → dec bs = cont bs nx n (S ++ [some ((bs.drop (whe bs k)).take (szo bs k - 1))]) (whe bs k)) := fun h0 h1 h2 h3 => by
            rw [HDC.out]
            have := cont_some (bs := bs) (nx := nx) (n := n) (S := S) (low := lw) (by rw [HS.out]; exact hlt) (by rw [HS.out]; exact h0) (by rw [HS.out]; exact h1) (by rw [HS.out]; exact h2) (by rw [HS.out]; exact h3)
            rw [HS.out] at this
            exact this
          have HSD : Hid (∀ z, whe bs k + z ≤ 504 → Sl w (.slice (cutAt ao c (whe bs k)) z (c - whe bs k)) ((bs.drop (whe bs k)).take z)) := fun z hz => HSL.out.mid (whe bs k) z (by rw [Hlen.out]; exact hz)
          have add1 : IntKind.i64.wrap (6 + (k : Int) * 4 + 2) = 6 + (k : Int) * 4 + 2 := by rw [IntKind.wrap_i64]; omega
          have add2 : IntKind.i64.wrap (6 + (k : Int) * 4 + 4) = 6 + (k : Int) * 4 + 4 := by rw [IntKind.wrap_i64]; omega
          have HCA : Hid (∀ u, (Instr.sliceAt 23 (.slice ao 504 c) (some (.int .i64 (6 + (k : Int) * 4))) (some (.int .i64 (6 + (k : Int) * 4 + 2))) none).run Try.prog u = .ok (.slice (cutAt ao c (6 + 4 * k)) 2 (c - (6 + 4 * k))) u) := fun u => by
            have := run_cut_mid u ao 504 c (6 + 4 * k) (8 + 4 * k) (by omega) (by omega)
            rw [show 8 + 4 * k - (6 + 4 * k) = 2 by omega, show ((6 + 4 * k : Nat) : Int) = 6 + (k : Int) * 4 by omega, show ((8 + 4 * k : Nat) : Int) = 6 + (k : Int) * 4 + 2 by omega] at this
            exact this
          have HCB : Hid (∀ u, (Instr.sliceAt 23 (.slice ao 504 c) (some (.int .i64 (6 + (k : Int) * 4 + 2))) (some (.int .i64 (6 + (k : Int) * 4 + 4))) none).run Try.prog u = .ok (.slice (cutAt ao c (8 + 4 * k)) 2 (c - (8 + 4 * k))) u) := fun u => by
            have := run_cut_mid u ao 504 c (8 + 4 * k) (10 + 4 * k) (by omega) (by omega)
            rw [show 10 + 4 * k - (8 + 4 * k) = 2 by omega, show ((8 + 4 * k : Nat) : Int) = 6 + (k : Int) * 4 + 2 by omega, show ((10 + 4 * k : Nat) : Int) = 6 + (k : Int) * 4 + 4 by omega] at this
            exact this
          clear HNW HNS HWL HSZ HDC
          generalize whe bs k = a at *
          generalize szo bs k = z at *
          have subz : IntKind.i64.wrap ((z : Int) - 1) = (z : Int) - 1 := by rw [IntKind.wrap_i64]; omega
          go_wp2
          refine wp_region_held_drew (S := fun _ => True) (by kernel_rfl) trivial (fun hH => ?_)
          refine take_to 0 39 (.slice ao 504 c) rfl (by kernel_rfl) (by kernel_rfl) (by kernel_rfl) (fun _ _ _ h => h) rfl (by rfl) (fun w hw => by rfl) hH ?_
          simp only [Act.put, List.setIfInBounds_toArray, List.set_cons_zero, List.set_cons_succ]
          refine take_to 1 40 (.int .i64 (6 + (k : Int) * 4)) rfl (by kernel_rfl) (by kernel_rfl) (by kernel_rfl) (fun _ _ _ h => h) rfl (by rfl) (fun w hw => by rfl) hH ?_
          simp only [Act.put, List.setIfInBounds_toArray, List.set_cons_zero, List.set_cons_succ]
          refine take_to 2 41 (.int .i64 (6 + (k : Int) * 4)) rfl (by kernel_rfl) (by kernel_rfl) (by kernel_rfl) (fun _ _ _ h => h) rfl (by rfl) (fun w hw => by rfl) hH ?_
          simp only [Act.put, List.setIfInBounds_toArray, List.set_cons_zero, List.set_cons_succ]
          refine take_to 3 42 (.int .i64 (6 + (k : Int) * 4 + 2)) rfl (by kernel_rfl) (by kernel_rfl) (by kernel_rfl) (fun _ _ _ h => h) rfl (by rfl) (fun w hw => op_add3 _ _ (.tmp 41) (.const (.int .i64 2)) 3 rfl _ _ rfl rfl _ add1) hH ?_
          simp only [Act.put, List.setIfInBounds_toArray, List.set_cons_zero, List.set_cons_succ]
          refine take_to 4 43 (.slice (cutAt ao c (6 + 4 * k)) 2 (c - (6 + 4 * k))) rfl (by kernel_rfl) (by kernel_rfl) (by kernel_rfl) (fun _ _ _ h => h) rfl (by rfl) (fun w hw => op_slice _ _ 23 (.tmp 39) (some (.tmp 40)) (some (.tmp 42)) none rfl _ _ (some (.int .i64 (6 + (k : Int) * 4))) (some (.int .i64 (6 + (k : Int) * 4 + 2))) rfl rfl rfl rfl (HCA.out w)) hH ?_
          simp only [Act.put, List.setIfInBounds_toArray, List.set_cons_zero, List.set_cons_succ]
          refine take_to 6 45 (.slice ao 504 c) rfl (by kernel_rfl) (by kernel_rfl) (by kernel_rfl) (fun _ _ _ h => h) rfl (by rfl) (fun w hw => by rfl) hH ?_
          simp only [Act.put, List.setIfInBounds_toArray, List.set_cons_zero, List.set_cons_succ]
          refine take_to 7 46 (.int .i64 (6 + (k : Int) * 4)) rfl (by kernel_rfl) (by kernel_rfl) (by kernel_rfl) (fun _ _ _ h => h) rfl (by rfl) (fun w hw => by rfl) hH ?_
          simp only [Act.put, List.setIfInBounds_toArray, List.set_cons_zero, List.set_cons_succ]
          refine take_to 8 47 (.int .i64 (6 + (k : Int) * 4 + 2)) rfl (by kernel_rfl) (by kernel_rfl) (by kernel_rfl) (fun _ _ _ h => h) rfl (by rfl) (fun w hw => op_add3 _ _ (.tmp 46) (.const (.int .i64 2)) 3 rfl _ _ rfl rfl _ add1) hH ?_
          simp only [Act.put, List.setIfInBounds_toArray, List.set_cons_zero, List.set_cons_succ]
          refine take_to 9 48 (.int .i64 (6 + (k : Int) * 4)) rfl (by kernel_rfl) (by kernel_rfl) (by kernel_rfl) (fun _ _ _ h => h) rfl (by rfl) (fun w hw => by rfl) hH ?_
          simp only [Act.put, List.setIfInBounds_toArray, List.set_cons_zero, List.set_cons_succ]
          refine take_to 10 49 (.int .i64 (6 + (k : Int) * 4 + 4)) rfl (by kernel_rfl) (by kernel_rfl) (by kernel_rfl) (fun _ _ _ h => h) rfl (by rfl) (fun w hw => op_add3 _ _ (.tmp 48) (.const (.int .i64 4)) 3 rfl _ _ rfl rfl _ add2) hH ?_
          simp only [Act.put, List.setIfInBounds_toArray, List.set_cons_zero, List.set_cons_succ]
          refine take_to 11 50 (.slice (cutAt ao c (8 + 4 * k)) 2 (c - (8 + 4 * k))) rfl (by kernel_rfl) (by kernel_rfl) (by kernel_rfl) (fun _ _ _ h => h) rfl (by rfl) (fun w hw => op_slice _ _ 23 (.tmp 45) (some (.tmp 47)) (some (.tmp 49)) none rfl _ _ (some (.int .i64 (6 + (k : Int) * 4 + 2))) (some (.int .i64 (6 + (k : Int) * 4 + 4))) rfl rfl rfl rfl (HCB.out w)) hH ?_
          simp only [Act.put, List.setIfInBounds_toArray, List.set_cons_zero, List.set_cons_succ]
          refine step_call1_to 5 44 42 rfl (by kernel_rfl) rfl (by rfl) (.tmp 43) _ rfl _ rfl Try.enters42 (HW1.out 1) ?_
          rintro e W1 ⟨rfl, hw1⟩
          subst hw1
          refine ⟨_, rfl, trivial, ?_⟩
          simp only [Act.put, List.setIfInBounds_toArray, List.set_cons_zero, List.set_cons_succ]
          refine step_call1_to 12 51 42 rfl (by kernel_rfl) rfl (by rfl) (.tmp 50) _ rfl _ rfl Try.enters42 (HZ1.out 1) ?_
          rintro e W1 ⟨rfl, hw1⟩
          subst hw1
          refine ⟨_, rfl, trivial, ?_⟩
          simp only [Act.put, List.setIfInBounds_toArray, List.set_cons_zero, List.set_cons_succ]
          refine take_to 13 52 (.int .i64 ((z : Int) - 1)) rfl (by kernel_rfl) (by kernel_rfl) (by kernel_rfl) (fun _ _ _ h => h) rfl (by rfl) (fun w hw => op_sub3 _ _ (.tmp 51) (.const (.int .i64 1)) 3 rfl _ _ rfl rfl _ subz) trivial ?_
          simp only [Act.put, List.setIfInBounds_toArray, List.set_cons_zero, List.set_cons_succ]
          refine step_to 14 10 (.int .i64 (a : Int)) (wr.drewN 1) rfl (by kernel_rfl) rfl (by rfl) (rfl) trivial ?_
          simp only [Act.put, List.setIfInBounds_toArray, List.set_cons_zero, List.set_cons_succ]
          refine step_to 15 11 (.int .i64 ((z : Int) - 1)) (wr.drewN 1) rfl (by kernel_rfl) rfl (by rfl) (rfl) trivial ?_
          simp only [Act.put, List.setIfInBounds_toArray, List.set_cons_zero, List.set_cons_succ]
          refine wpAnyH_done (by kernel_rfl) ?_ _
          clear hH HW1 HZ1 HCA HCB
          by_cases hz : z = 0
          · subst hz
            by_cases ha : a = 0
            · subst ha
              have HDN := hide (HCN.out rfl rfl)
              have HAN := hide ((HA.out.drewN 1).empty (by rw [HS.out]; exact hlt))
              clear HCN HCW HCS HA HSD
              go_wp2
              go_roundw
              case rel => exact ⟨k + 1, lw, S ++ [none], by omega, by go_num, rfl, by rw [List.length_append, HS.out]; rfl, hl1, hl2, HDN.out, HAN.out⟩
              case measure => simp [intOf]; omega
            · have HD := hide (HCW.out (.inl ⟨rfl, ha⟩))
              have HQ := hide (HA.out.drewN 1).res
              have HBE := hide (HA.out.drewN 1).below
              have hane : ¬ ((a : Int) = 0) := by omega
              clear HCN HCW HCS HA HSD
              go_wp2
              go_step3
              refine ⟨_, rfl, ?_⟩
              go_wp2_with (first
                | (refine wpList_build_is rfl 56 _ rfl zeroPg Try.built56 ?_)
                | (refine wpList_store_row rfl 56 _ _ rfl w.heap.size zeroPg rfl rfl 56 _ HQ.out (Try.size56 rfl) rfl one_zeroPg ?_))
              rw [Exit.jumps_ret]
              refine bodyPost_ret (v := .tuple #[.agg zeroPg, .bool false]) (results_pg Try.results27 _ _ w.heap.size 56 zeroPg (0, 0) _ rfl (setRow_heap _ _ _ _ _ _ HQ.out) Try.underlying56 rfl (Try.size56 rfl)) rfl ?_
              refine ⟨below_setRow HBE.out (Nat.le_refl _) _, ?_⟩
              rw [HD.out]
              rfl
          · obtain ⟨y, rfl⟩ : ∃ y, z = y + 1 := ⟨z - 1, by omega⟩
            have hy1 : ((y + 1 : Nat) : Int) - 1 = (y : Int) := by omega
            simp only [Nat.add_sub_cancel] at HCW HCS
            rw [hy1]
            by_cases h480 : 480 < y
            · have HD := hide (HCW.out (.inr ⟨by omega, .inl h480⟩))
              have HQ := hide (HA.out.drewN 1).res
              have HBE := hide (HA.out.drewN 1).below
              clear HCN HCW HCS HA HSD
              go_wp2
              go_step3
              refine ⟨_, rfl, ?_⟩
              go_wp2_with (first
                | (refine wpList_build_is rfl 56 _ rfl zeroPg Try.built56 ?_)
                | (refine wpList_store_row rfl 56 _ _ rfl w.heap.size zeroPg rfl rfl 56 _ HQ.out (Try.size56 rfl) rfl one_zeroPg ?_))
              rw [Exit.jumps_ret]
              refine bodyPost_ret (v := .tuple #[.agg zeroPg, .bool false]) (results_pg Try.results27 _ _ w.heap.size 56 zeroPg (0, 0) _ rfl (setRow_heap _ _ _ _ _ _ HQ.out) Try.underlying56 rfl (Try.size56 rfl)) rfl ?_
              refine ⟨below_setRow HBE.out (Nat.le_refl _) _, ?_⟩
              rw [HD.out]
              rfl
            · by_cases hta : a < 6 + 4 * n
              · have HD := hide (HCW.out (.inr ⟨by omega, .inr (.inl hta)⟩))
                have HQ := hide (HA.out.drewN 1).res
                have HBE := hide (HA.out.drewN 1).below
                have hlo : (a : Int) < 6 + (n : Int) * 4 := by omega
                clear HCN HCW HCS HA HSD
                go_wp2
                go_step3
                refine ⟨_, rfl, ?_⟩
                go_wp2_with (first
                  | (refine wpList_build_is rfl 56 _ rfl zeroPg Try.built56 ?_)
                  | (refine wpList_store_row rfl 56 _ _ rfl w.heap.size zeroPg rfl rfl 56 _ HQ.out (Try.size56 rfl) rfl one_zeroPg ?_))
                rw [Exit.jumps_ret]
                refine bodyPost_ret (v := .tuple #[.agg zeroPg, .bool false]) (results_pg Try.results27 _ _ w.heap.size 56 zeroPg (0, 0) _ rfl (setRow_heap _ _ _ _ _ _ HQ.out) Try.underlying56 rfl (Try.size56 rfl)) rfl ?_
                refine ⟨below_setRow HBE.out (Nat.le_refl _) _, ?_⟩
                rw [HD.out]
                rfl
              · have hlo : ¬ ((a : Int) < 6 + (n : Int) * 4) := by omega
                by_cases hsum : a + y ≠ lw
                · have HD := hide (HCW.out (.inr ⟨by omega, .inr (.inr hsum)⟩))
                  have HQ := hide (HA.out.drewN 1).res
                  have HBE := hide (HA.out.drewN 1).below
                  have hne : ¬ ((a : Int) + (y : Int) = (lw : Int)) := by omega
                  clear HCN HCW HCS HA HSD
                  go_wp2
                  go_step3
                  refine ⟨_, rfl, ?_⟩
                  go_wp2_with (first
                    | (refine wpList_build_is rfl 56 _ rfl zeroPg Try.built56 ?_)
                    | (refine wpList_store_row rfl 56 _ _ rfl w.heap.size zeroPg rfl rfl 56 _ HQ.out (Try.size56 rfl) rfl one_zeroPg ?_))
                  rw [Exit.jumps_ret]
                  refine bodyPost_ret (v := .tuple #[.agg zeroPg, .bool false]) (results_pg Try.results27 _ _ w.heap.size 56 zeroPg (0, 0) _ rfl (setRow_heap _ _ _ _ _ _ HQ.out) Try.underlying56 rfl (Try.size56 rfl)) rfl ?_
                  refine ⟨below_setRow HBE.out (Nat.le_refl _) _, ?_⟩
                  rw [HD.out]
                  rfl
                · have hsum : a + y = lw := Classical.not_not.1 hsum
                  have heq : (a : Int) + (y : Int) = (lw : Int) := by omega
                  have HDS := hide (HCS.out (by omega) (by omega) (by omega) hsum)
                  have HV := hide (HSD.out y (by omega))
                  have HAn := hide (HA.out.drewN 1)
                  clear HCN HCW HCS HSD HA
                  go_wp2
                  have sl1 := HAn.out.c1
                  generalize wr.drewN 1 = wn at *
                  have HAd := hide (HAn.out.drewN 1)
                  obtain ⟨W5, hst, hA5⟩ := HAd.out.full (by rw [HS.out]; exact hlt) _ _ HV.out
                  rw [HS.out] at hst
                  refine wp_region_held_drew (S := fun w' => w'.cell? ⟨w.heap.size + 1, 1, none⟩ = some (.slice (some ⟨w.heap.size + 2, 0, none⟩) n n)) (by kernel_rfl) sl1 (fun hH => ?_)
                  refine take_to 0 73 (.pointer (some ⟨w.heap.size + 1, 1, none⟩)) rfl (by kernel_rfl) (by kernel_rfl) (by kernel_rfl) (fun _ _ _ h => h) rfl (by rfl) (fun w hw => by rfl) hH ?_
                  simp only [Act.put, List.setIfInBounds_toArray, List.set_cons_zero, List.set_cons_succ]
                  refine take_to 1 74 (.slice (some ⟨w.heap.size + 2, 0, none⟩) n n) rfl (by kernel_rfl) (by kernel_rfl) (by kernel_rfl) (fun _ _ _ h => h) rfl (by rfl) (fun w' hw => op_load _ _ 54 (.tmp 73) rfl (.pointer (some ⟨w.heap.size + 1, 1, none⟩)) _ rfl (run_loadAny w' (w.heap.size + 1) 1 54 _ Try.isAgg54 hw)) hH ?_
                  simp only [Act.put, List.setIfInBounds_toArray, List.set_cons_zero, List.set_cons_succ]
                  refine take_to 2 75 (.int .i64 (k : Int)) rfl (by kernel_rfl) (by kernel_rfl) (by kernel_rfl) (fun _ _ _ h => h) rfl (by rfl) (fun w hw => by rfl) hH ?_
                  simp only [Act.put, List.setIfInBounds_toArray, List.set_cons_zero, List.set_cons_succ]
                  refine take_to 3 76 (.slice ao 504 c) rfl (by kernel_rfl) (by kernel_rfl) (by kernel_rfl) (fun _ _ _ h => h) rfl (by rfl) (fun w hw => by rfl) hH ?_
                  simp only [Act.put, List.setIfInBounds_toArray, List.set_cons_zero, List.set_cons_succ]
                  refine take_to 4 77 (.int .i64 (a : Int)) rfl (by kernel_rfl) (by kernel_rfl) (by kernel_rfl) (fun _ _ _ h => h) rfl (by rfl) (fun w hw => by rfl) hH ?_
                  simp only [Act.put, List.setIfInBounds_toArray, List.set_cons_zero, List.set_cons_succ]
                  refine take_to 5 78 (.int .i64 (lw : Int)) rfl (by kernel_rfl) (by kernel_rfl) (by kernel_rfl) (fun _ _ _ h => h) rfl (by rfl) (fun w hw => by rfl) hH ?_
                  simp only [Act.put, List.setIfInBounds_toArray, List.set_cons_zero, List.set_cons_succ]
                  refine take_to 6 79 (.slice (cutAt ao c a) y (c - a)) rfl (by kernel_rfl) (by kernel_rfl) (by kernel_rfl) (fun _ _ _ h => h) rfl (by rfl) (fun w' hw => op_slice _ _ 23 (.tmp 76) (some (.tmp 77)) (some (.tmp 78)) none rfl _ _ (some (.int .i64 (a : Int))) (some (.int .i64 (lw : Int))) rfl rfl rfl rfl (by have := run_cut_mid w' ao 504 c a lw (by omega) (by omega); rwa [show lw - a = y by omega] at this)) hH ?_
                  simp only [Act.put, List.setIfInBounds_toArray, List.set_cons_zero, List.set_cons_succ]
                  refine take_to 7 80 (.agg #[.bool true, .slice (cutAt ao c a) y (c - a)]) rfl (by kernel_rfl) (by kernel_rfl) (by kernel_rfl) (fun _ _ _ h => h) rfl (by rfl) (fun w hw => op_build61 _ _ (.const (.bool true)) (.tmp 79) rfl true _ _ _ rfl rfl) hH ?_
                  simp only [Act.put, List.setIfInBounds_toArray, List.set_cons_zero, List.set_cons_succ]
                  refine take_to 8 81 (.pointer (some ⟨w.heap.size + 2, k * 2, none⟩)) rfl (by kernel_rfl) (by kernel_rfl) (by kernel_rfl) (fun _ _ _ h => h) rfl (by rfl) (fun w' hw => op_index _ _ 54 (.tmp 74) (.tmp 75) rfl _ _ _ rfl rfl (run_index54 w' _ _ _ _ hlt)) hH ?_
                  simp only [Act.put, List.setIfInBounds_toArray, List.set_cons_zero, List.set_cons_succ]
                  refine step_store_to 9 W5 rfl (by kernel_rfl) rfl (by rfl) 61 (.tmp 81) (.tmp 80) rfl _ _ rfl rfl hst hA5.c1 ?_
                  refine wpAnyH_done (by kernel_rfl) ?_ _
                  clear hH HAn HAd hst sl1
                  go_wp2
                  go_roundw
                  case rel => exact ⟨k + 1, a, S ++ [some ((bs.drop a).take y)], by omega, by go_num, rfl, by rw [List.length_append, HS.out]; rfl, by omega, by omega, HDS.out, hA5⟩
                  case measure => simp [intOf]; omega
        · have hkn : k = n := by omega
          subst hkn
          have HDF : Hid (dec bs = fin bs nx S lw) := by rw [Hid, HDC.out, ← cont_end, HS.out]
          have HOWN := hide (HA.out.own HS.out (by omega))
          have HND := hide (needed_any HOWN.out.at nx)
          have q0 : wr.cell? ⟨w.heap.size + 1, 0, none⟩ = some (.int .i64 (nx : Int)) := by rw [cell_row HA.out.pg]; rfl
          have q1 := HA.out.c1
          clear HDC HNW HNS HWL HSZ
          rw [HS.out] at HND
          unfold pageV at HND
          have HA2F : Hid (∀ W2, Below wr.heap.size wr W2 → RdAt w W2 k nx S) := fun W2 hB2 => by
            obtain ⟨R, h1, h2⟩ := HA.out.row
            have hz1 := lt_of_heap HA.out.pg
            have hz2 := lt_of_heap h1
            exact ⟨HA.out.below.trans (hB2.mono HA.out.below.size), (hB2.block _ (by omega)).trans HA.out.res, (hB2.block _ (by omega)).trans HA.out.pg, ⟨R, (hB2.block _ hz2).trans h1, h2⟩, HA.out.len⟩
          clear HA HOWN
          by_cases hnd : need S k ≠ k
          · have HD : Hid (dec bs = none) := by rw [Hid, HDF.out]; unfold fin; rw [HS.out, if_pos hnd]
            have hne : ¬ ((need S k : Nat) : Int) = (k : Int) := by omega
            have hne2 : ¬ (need S k = k) := hnd
            clear HDF hnd
            generalize need S k = m at *
            go_wp2_with (go_at_call 32; refine HND.out.mono ?_; rintro e W2 ⟨rfl, hB2⟩)
            have HQ := hide (HA2F.out W2 hB2).res
            have HBE := hide (HA2F.out W2 hB2).below
            clear hB2
            go_step3
            refine ⟨_, rfl, ?_⟩
            go_wp2_with (first
              | (refine wpList_build_is rfl 56 _ rfl zeroPg Try.built56 ?_)
              | (refine wpList_store_row rfl 56 _ _ rfl w.heap.size zeroPg rfl rfl 56 _ HQ.out (Try.size56 rfl) rfl one_zeroPg ?_))
            rw [Exit.jumps_ret]
            refine bodyPost_ret (v := .tuple #[.agg zeroPg, .bool false]) (results_pg Try.results27 _ _ w.heap.size 56 zeroPg (0, 0) _ rfl (setRow_heap _ _ _ _ _ _ HQ.out) Try.underlying56 rfl (Try.size56 rfl)) rfl ?_
            refine ⟨below_setRow HBE.out (Nat.le_refl _) _, ?_⟩
            rw [HD.out]
            rfl
          · have hnd : need S k = k := Classical.not_not.1 hnd
            rw [hnd] at HND
            have HDG : Hid (dec bs = if ((bs.drop (6 + 4 * k)).take (lw - (6 + 4 * k))).all (fun b => b == 0) = true then some ⟨nx, S⟩ else none) := by rw [Hid, HDF.out]; unfold fin; rw [HS.out, if_neg (by simp [hnd])]
            obtain ⟨u, hu⟩ : ∃ u, lw = 6 + 4 * k + u := ⟨lw - (6 + 4 * k), by omega⟩
            subst hu
            rw [show 6 + 4 * k + u - (6 + 4 * k) = u by omega] at HDG
            have HSM0 := hide (HSL.out.mid (6 + 4 * k) u (by rw [Hlen.out]; omega))
            have hcut : ∀ W, (Instr.sliceAt 23 (.slice ao 504 c) (some (.int .i64 (6 + (k : Int) * 4))) (some (.int .i64 ((6 + 4 * k + u : Nat) : Int))) none).run Try.prog W = .ok (.slice (cutAt ao c (6 + 4 * k)) u (c - (6 + 4 * k))) W := fun W => by
              have := run_cut_mid W ao 504 c (6 + 4 * k) (6 + 4 * k + u) (by omega) (by omega)
              rw [show 6 + 4 * k + u - (6 + 4 * k) = u by omega, show ((6 + 4 * k : Nat) : Int) = 6 + (k : Int) * 4 by omega] at this
              exact this
            have HDL : Hid (((bs.drop (6 + 4 * k)).take u).length = u) := by rw [Hid, List.length_take, List.length_drop, Hlen.out]; omega
            clear HDF hnd
            generalize (bs.drop (6 + 4 * k)).take u = D at *
            generalize hT : ((6 + 4 * k + u : Nat) : Int) = T at *
            go_wp2_with (go_at_call 32; refine HND.out.mono ?_; rintro e W2 ⟨rfl, hB2⟩)
            have HA2 := hide (HA2F.out W2 hB2)
            have HSM := hide (HSM0.out.belowW HA2.out.below)
            clear hB2 HA2F HND q0 q1 HSM0
            go_loop [93] (fun i => ∃ j : Nat, j ≤ u ∧ i = .int .i64 (j : Int) ∧ ∀ x, x < j → D[x]?.getD 0 = 0) (fun i => u - (intOf i).toNat)
            case atStart => exact ⟨0, Nat.zero_le _, rfl, fun x hx => absurd hx (Nat.not_lt_zero _)⟩
            case round =>
              obtain ⟨j, hj, rfl, hall⟩ := hrel
              have HALL := hide hall
              clear hall
              by_cases hju : j < u
              · obtain ⟨pg, po, hco, hcell⟩ := HSM.out.get j (by rw [HDL.out]; exact hju)
                rw [List.getD_eq_getElem?_getD] at hcell
                rw [hco]
                by_cases hb : D[j]?.getD 0 = 0
                · rw [hb] at hcell
                  have hcell : W2.cell? ⟨pg, po + j, none⟩ = some (.int .u8 0) := hcell
                  have HB0 := hide hb
                  clear hb
                  go_wp2
                  go_round
                  case rel =>
                    refine ⟨j + 1, by omega, by go_num, fun x hx => ?_⟩
                    rcases Nat.lt_or_ge x j with h | h
                    · exact HALL.out x h
                    · have : x = j := by omega
                      subst this; exact HB0.out
                  case measure => simp [intOf]; omega
                · have HD : Hid (dec bs = none) := by rw [Hid, HDG.out, if_neg (not_all (by rw [HDL.out]; exact hju) hb)]
                  have HQ := hide HA2.out.res
                  have HBE := hide HA2.out.below
                  have hne : ¬ (((D[j]?.getD 0).toNat : Int) = 0) := fun h0 => hb (by
                    have h1 : (D[j]?.getD 0).toNat = 0 := by omega
                    exact UInt8.toNat_inj.1 h1)
                  clear HDG HA2 hb
                  generalize (D[j]?.getD 0).toNat = bb at *
                  go_wp2
                  go_step3
                  refine ⟨_, rfl, ?_⟩
                  go_wp2_with (first
                    | (refine wpList_build_is rfl 56 _ rfl zeroPg Try.built56 ?_)
                    | (refine wpList_store_row rfl 56 _ _ rfl w.heap.size zeroPg rfl rfl 56 _ HQ.out (Try.size56 rfl) rfl one_zeroPg ?_))
                  rw [Exit.jumps_ret]
                  refine bodyPost_ret (v := .tuple #[.agg zeroPg, .bool false]) (results_pg Try.results27 _ _ w.heap.size 56 zeroPg (0, 0) _ rfl (setRow_heap _ _ _ _ _ _ HQ.out) Try.underlying56 rfl (Try.size56 rfl)) rfl ?_
                  refine ⟨below_setRow HBE.out (Nat.le_refl _) _, ?_⟩
                  rw [HD.out]
                  rfl
              · have hju : j = u := by omega
                subst hju
                have HDD : Hid (dec bs = some ⟨nx, S⟩) := by
                  rw [Hid, HDG.out, if_pos (all_of_take (fun x hx => by have := HALL.out x (by rw [← HDL.out]; exact hx); simp [this]))]
                have HOWN2 := hide (HA2.out.ownRow HS.out (by omega) #[.int .i64 (nx : Int), .slice (some ⟨w.heap.size + 2, 0, none⟩) k k])
                have q0 : W2.cell? ⟨w.heap.size + 1, 0, none⟩ = some (.int .i64 (nx : Int)) := by rw [cell_row HA2.out.pg]; rfl
                have q1 := HA2.out.c1
                have HR2 := hide HA2.out.res
                have HBL := hide HA2.out.below
                have HPG := hide HA2.out.pg
                clear HDG HALL
                go_wp2_with (refine wpList_store_row rfl 56 _ _ rfl w.heap.size #[.int .i64 (nx : Int), .slice (some ⟨w.heap.size + 2, 0, none⟩) k k] rfl rfl 56 _ HR2.out (Try.size56 rfl) rfl (one_pg _ _ _ _) ?_)
                rw [Exit.jumps_ret]
                refine bodyPost_ret (v := .tuple #[.agg #[.int .i64 (nx : Int), .slice (some ⟨w.heap.size + 2, 0, none⟩) k k], .bool true]) (results_pg Try.results27 _ _ w.heap.size 56 _ (0, 0) _ rfl (setRow_heap _ _ _ _ _ _ HR2.out) Try.underlying56 rfl (Try.size56 rfl)) rfl ?_
                refine ⟨below_setRow HBL.out (Nat.le_refl _) _, ?_⟩
                rw [HDD.out]
                refine ⟨_, rfl, ?_⟩
                exact HOWN2.out
end Go.Proofs.Ytdddeneppciiiaa
