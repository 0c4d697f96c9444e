/- Modes: known, modes, Fits, Join; the document's. -/
import Derived.Test.YtffjdjbjkjefoaaSteps
namespace Go.Proofs.Ytffjdjbjkjefoaa
open Go.RowKit
set_option linter.unusedVariables false
set_option linter.unusedSimpArgs false

set_option maxHeartbeats 400000 in
theorem known_any (n : Int) (w : World) : Calls Try.prog 37 #[.int .i64 n] w fun e w' => e = .returned (.int .i64 (known n)) ∧ w' = w := by
  have hc : (n < 1 ∧ known n = 0) ∨ (¬ n < 1 ∧ 5 < n ∧ known n = 0) ∨ (¬ n < 1 ∧ ¬ 5 < n ∧ known n = n) := by
    unfold known
    split <;> omega
  have hc := hide hc
  generalize known n = c at *
  rcases hc.out with ⟨h, rfl⟩ | ⟨h, h', rfl⟩ | ⟨h, h', rfl⟩
  all_goals
    clear hc
    go_enter Try.func37, Try.ntmps37
    go_wp2
    go_ret
    exact ⟨rfl, rfl⟩
def fitRow (l : List Bool) : List Value := l.map Value.bool
def joinRow (l : List Int) : List Value := l.map (Value.int .i64)
def modeCells : List Value :=
  fitRow [false, false, false, false, false, false] ++ joinRow [0, 1, 2, 3, 4, 5] ++ (fitRow [false, true, true, true, true, false] ++ joinRow [1, 1, 2, 3, 4, 5]) ++
  (fitRow [false, true, true, false, false, false] ++ joinRow [2, 2, 2, 4, 4, 5]) ++ (fitRow [false, true, false, true, false, false] ++ joinRow [3, 3, 4, 3, 4, 5]) ++
  (fitRow [false, true, false, false, false, false] ++ joinRow [4, 4, 4, 4, 4, 5]) ++ (fitRow [false, false, false, false, false, false] ++ joinRow [5, 5, 5, 5, 5, 5])
theorem one_modeCells : ∀ v ∈ modeCells, v.oneCell' = true := by
  intro v hv
  have : modeCells.all (·.oneCell') = true := by rfl
  exact List.all_eq_true.1 this v hv
theorem Try.size75 : (Try.prog.info? 75).map (·.size) = some modeCells.length := by kernel_rfl
theorem Try.zeros75 : Try.zeroCells75.size = 72 := by kernel_rfl
theorem setRow_heap (w : World) (b : Nat) (C D : Array Value) (t : TypeId) (fr : Nat × Nat) (h : w.heap[b]? = some (.cells C t fr)) : (w.setRow b D).heap[b]? = some (.cells D t fr) := by
  simp [World.setRow, Array.getElem?_modify, h]
theorem results_one {fn : Func} {p : Tmp} {ty : TypeId} (h : fn.results = #[.cell p ty]) (tmps : Array Value) (w : World) (g : Nat) (t : TypeId) (cs : Array Value) (fr : Nat × Nat) (d : TypeDesc)
    (hp : tmps.getD p undef = .pointer (some ⟨g, 0, none⟩)) (hg : w.heap[g]? = some (.cells cs t fr))
    (hu : Try.prog.underlying ty = some d) (hd : d.isRow = true) (hi : (Try.prog.info? ty).map (·.size) = some cs.size) :
    (results fn tmps).run Try.prog w = .ok (.agg cs) w := by
  have hp' : tmps[p]?.getD undef = .pointer (some ⟨g, 0, none⟩) := by simpa using hp
  have hl := run_loadVar_mid (P := Try.prog) w g 0 ty cs.toList d (fun j v hv => by rw [Nat.zero_add, cell_row hg]; simpa using hv) hu hd (by rw [hi, Array.length_toList])
  simp [results, h, hp', asAddr, hl]
set_option maxHeartbeats 1000000 in
set_option maxRecDepth 100000 in
theorem modes_any (w : World) : Calls Try.prog 36 #[] w fun e w' => e = .returned (.agg modeCells.toArray) ∧ Below w.heap.size w w' := by
  have hg : (w.alloc (.cells Try.zeroCells75 75)).heap[w.heap.size]? = some (.cells Try.zeroCells75 75 (0, 0)) := (MapKept.heap_alloc w (.cells Try.zeroCells75 75)).1
  have hr := run_storeAt_in (P := Try.prog) (w.alloc (.cells Try.zeroCells75 75)) w.heap.size 0 75 75 Try.zeroCells75 modeCells hg (by rw [Try.zeros75]; decide) Try.size75 one_modeCells
  have hg2 := setRow_heap _ _ _ (Try.zeroCells75.toList.take 0 ++ modeCells ++ Try.zeroCells75.toList.drop (0 + modeCells.length)).toArray _ _ hg
  have he : (Try.zeroCells75.toList.take 0 ++ modeCells ++ Try.zeroCells75.toList.drop (0 + modeCells.length)).toArray = modeCells.toArray := by
    rw [List.drop_of_length_le (by rw [Array.length_toList, Try.zeros75]; decide)]
    simp
  rw [he] at hr hg2
  have HR := hide hr
  have HG := hide hg2
  clear hr hg2 he
  go_enter Try.func36, Try.ntmps36
  go_wp2_with (refine wpList_store_in rfl 75 (.tmp 0) (.tmp 17) rfl rfl w.heap.size 0 modeCells _ rfl (by kernel_rfl) HR.out ?_)
  refine bodyPost_ret (v := .agg modeCells.toArray) (results_one Try.results36 _ _ w.heap.size 75 modeCells.toArray (0, 0) _ rfl HG.out Try.underlying75 rfl (by kernel_rfl)) rfl ?_
  exact ⟨rfl, below_setRow ((Below.refl _ w).alloc (Nat.le_refl _) _) (Nat.le_refl _) _⟩
theorem step_call0_to {P : Program} {ops : Array Oper} {Q : Exit → Act → World → Prop} {md : Region.Mode} {S : World → Prop} {o : Oper} {fuel : Nat} {listed : Array Bool} {a : Act} {w : World} {R : Ending → World → Prop} (j dst f : Nat) (hj : ops[j]? = some o)
    (hr : Region.ready md ops listed = [j]) (hd : o.dst = some dst) (hw : Region.wanted o (yielded ops a.tmps) = true) (ts : Array TypeId) (hop : o.op = Op.call { callee := Callee.value (Operand.func f), args := #[], argTypes := ts })
    (hcf : ∀ args w, (callFunc f args).run P w = .ok (.enter f args) w) (hc : Calls P f #[] w R)
    (hK : ∀ e w', R e w' → ∃ v, e = .returned v ∧ S w' ∧ wpAnyH P md ops Q S fuel (listed.setIfInBounds j true) (a.put (some dst) v) w') : wpAnyH P md ops Q S (fuel + 1) listed a w := by
  refine step_by j hj hr (fun K hK' => ?_)
  rw [if_pos hw]
  have hrun : (execOp a.eval o).run P w = .ok (.enter f #[]) w := by
    have hff : a.eval (.func f) = .func (.func f) #[] #[] := rfl
    unfold execOp
    simp [hop, resolve, hff, Deferred.ofValue, invoke]
    exact hcf _ _
  unfold Oper.wp
  rw [hrun, Oper.upon_enter]
  refine hc.mono ?_
  intro e w' hR
  obtain ⟨v, rfl, hS, hW⟩ := hK e w' hR
  show K (a.put o.dst v) w'
  rw [hd]
  exact hK' _ _ hS hW
def modeRow (k : Nat) : Value := .agg (((modeCells.drop (12 * k)).take 12).toArray)
def fitsV (k : Nat) : Value := .agg (((modeCells.drop (12 * k)).take 6).toArray)
def joinV (k : Nat) : Value := .agg (((modeCells.drop (12 * k + 6)).take 6).toArray)
theorem op_mode (ρ : Operand → Value) (o : Oper) (x y : Operand) (ho : o.op = .index 75 x y) (k : Nat) (hk : k < 6) (hx : ρ x = .agg modeCells.toArray) (hy : ρ y = .int .i64 (k : Int)) {w : World} : (execOp ρ o).run Try.prog w = .ok (.value (modeRow k)) w := by
  unfold execOp
  simp only [ho, hx, hy]
  clear hx hy
  have hk' : k = 0 ∨ k = 1 ∨ k = 2 ∨ k = 3 ∨ k = 4 ∨ k = 5 := by omega
  rcases hk' with rfl | rfl | rfl | rfl | rfl | rfl <;> (show _ = _; kernel_rfl)
theorem op_fitsV (ρ : Operand → Value) (o : Oper) (x : Operand) (ho : o.op = .field 74 x 0) (k : Nat) (hk : k < 6) (hx : ρ x = modeRow k) {w : World} : (execOp ρ o).run Try.prog w = .ok (.value (fitsV k)) w := by
  unfold execOp
  simp only [ho, hx]
  clear hx
  have hk' : k = 0 ∨ k = 1 ∨ k = 2 ∨ k = 3 ∨ k = 4 ∨ k = 5 := by omega
  rcases hk' with rfl | rfl | rfl | rfl | rfl | rfl <;> (show _ = _; kernel_rfl)
theorem op_joinV (ρ : Operand → Value) (o : Oper) (x : Operand) (ho : o.op = .field 74 x 1) (k : Nat) (hk : k < 6) (hx : ρ x = modeRow k) {w : World} : (execOp ρ o).run Try.prog w = .ok (.value (joinV k)) w := by
  unfold execOp
  simp only [ho, hx]
  clear hx
  have hk' : k = 0 ∨ k = 1 ∨ k = 2 ∨ k = 3 ∨ k = 4 ∨ k = 5 := by omega
  rcases hk' with rfl | rfl | rfl | rfl | rfl | rfl <;> (show _ = _; kernel_rfl)
theorem op_fitsAt (ρ : Operand → Value) (o : Oper) (x y : Operand) (ho : o.op = .index 71 x y) (k j : Nat) (hk : k < 6) (hj : j < 6) (hx : ρ x = fitsV k) (hy : ρ y = .int .i64 (j : Int)) {w : World} : (execOp ρ o).run Try.prog w = .ok (.value (.bool (fits6 k j))) w := by
  unfold execOp
  simp only [ho, hx, hy]
  clear hx hy
  have hk' : k = 0 ∨ k = 1 ∨ k = 2 ∨ k = 3 ∨ k = 4 ∨ k = 5 := by omega
  have hj' : j = 0 ∨ j = 1 ∨ j = 2 ∨ j = 3 ∨ j = 4 ∨ j = 5 := by omega
  rcases hk' with rfl | rfl | rfl | rfl | rfl | rfl <;> rcases hj' with rfl | rfl | rfl | rfl | rfl | rfl <;> (show _ = _; kernel_rfl)
theorem op_joinAt (ρ : Operand → Value) (o : Oper) (x y : Operand) (ho : o.op = .index 72 x y) (k j : Nat) (hk : k < 6) (hj : j < 6) (hx : ρ x = joinV k) (hy : ρ y = .int .i64 (j : Int)) {w : World} : (execOp ρ o).run Try.prog w = .ok (.value (.int .i64 (join6 k j))) w := by
  unfold execOp
  simp only [ho, hx, hy]
  clear hx hy
  have hk' : k = 0 ∨ k = 1 ∨ k = 2 ∨ k = 3 ∨ k = 4 ∨ k = 5 := by omega
  have hj' : j = 0 ∨ j = 1 ∨ j = 2 ∨ j = 3 ∨ j = 4 ∨ j = 5 := by omega
  rcases hk' with rfl | rfl | rfl | rfl | rfl | rfl <;> rcases hj' with rfl | rfl | rfl | rfl | rfl | rfl <;> (show _ = _; kernel_rfl)
theorem known_nat (n : Int) : ∃ k : Nat, k < 6 ∧ known n = (k : Int) ∧ (known n).toNat = k := by
  rcases known_cases n with h | h | h | h | h | h <;> rw [h]
  · exact ⟨0, by omega, rfl, rfl⟩
  · exact ⟨1, by omega, rfl, rfl⟩
  · exact ⟨2, by omega, rfl, rfl⟩
  · exact ⟨3, by omega, rfl, rfl⟩
  · exact ⟨4, by omega, rfl, rfl⟩
  · exact ⟨5, by omega, rfl, rfl⟩
set_option maxHeartbeats 1000000 in
theorem fits_any (a b : Int) (w : World) : Calls Try.prog 15 #[.int .i64 a, .int .i64 b] w fun e w' => e = .returned (.bool (fits a b)) ∧ Below w.heap.size w w' := by
  obtain ⟨i, hi, ei, ti⟩ := known_nat a
  obtain ⟨j, hj, ej, tj⟩ := known_nat b
  have HA : Hid (∀ w, Calls Try.prog 37 #[.int .i64 a] w fun e w' => e = .returned (.int .i64 (i : Int)) ∧ w' = w) := fun w => by rw [← ei]; exact known_any a w
  have HB : Hid (∀ w, Calls Try.prog 37 #[.int .i64 b] w fun e w' => e = .returned (.int .i64 (j : Int)) ∧ w' = w) := fun w => by rw [← ej]; exact known_any b w
  have hres : fits a b = fits6 i j := by unfold fits; rw [ti, tj]
  rw [hres]
  clear hres ei ti ej tj
  have HM : Hid (∀ w, Calls Try.prog 36 #[] w fun e w' => e = .returned (.agg modeCells.toArray) ∧ Below w.heap.size w w') := modes_any
  go_enter Try.func15, Try.ntmps15
  go_upto_region 1 with fail
  refine wp_region_held_drew (S := fun w' => Below w.heap.size w w') (by kernel_rfl) (below_drewN _ _ 1) (fun hH => ?_)
  refine take_to 1 6 (.int .i64 a) rfl (by kernel_rfl) (by kernel_rfl) (by kernel_rfl) (fun _ _ _ h => h) rfl (by rfl) (fun w hw => by rfl) hH ?_
  simp only [Act.put, List.setIfInBounds_toArray, List.set_cons_zero, List.set_cons_succ]
  refine take_to 5 10 (.int .i64 b) rfl (by kernel_rfl) (by kernel_rfl) (by kernel_rfl) (fun _ _ _ h => h) rfl (by rfl) (fun w hw => by rfl) hH ?_
  simp only [Act.put, List.setIfInBounds_toArray, List.set_cons_zero, List.set_cons_succ]
  refine step_call0_to 0 5 36 rfl (by kernel_rfl) rfl (by rfl) _ rfl Try.enters36 (HM.out _) ?_
  rintro e w1 ⟨rfl, h1⟩
  have h1 := hH.trans (h1.mono hH.size)
  refine ⟨_, rfl, h1, ?_⟩
  simp only [Act.put, List.setIfInBounds_toArray, List.set_cons_zero, List.set_cons_succ]
  refine step_call1_to 2 7 37 rfl (by kernel_rfl) rfl (by rfl) (.tmp 6) _ rfl _ rfl Try.enters37 (HA.out _) ?_
  rintro e w2 ⟨rfl, rfl⟩
  refine ⟨_, rfl, h1, ?_⟩
  simp only [Act.put, List.setIfInBounds_toArray, List.set_cons_zero, List.set_cons_succ]
  refine take_to 3 8 (modeRow i) rfl (by kernel_rfl) (by kernel_rfl) (by kernel_rfl) (fun _ _ _ h => h) rfl (by rfl) (fun w hw => op_mode _ _ (.tmp 5) (.tmp 7) rfl i hi rfl rfl) h1 ?_
  simp only [Act.put, List.setIfInBounds_toArray, List.set_cons_zero, List.set_cons_succ]
  refine take_to 4 9 (fitsV i) rfl (by kernel_rfl) (by kernel_rfl) (by kernel_rfl) (fun _ _ _ h => h) rfl (by rfl) (fun w hw => op_fitsV _ _ (.tmp 8) rfl i hi rfl) h1 ?_
  simp only [Act.put, List.setIfInBounds_toArray, List.set_cons_zero, List.set_cons_succ]
  refine step_call1_to 6 11 37 rfl (by kernel_rfl) rfl (by rfl) (.tmp 10) _ rfl _ rfl Try.enters37 (HB.out _) ?_
  rintro e w3 ⟨rfl, rfl⟩
  refine ⟨_, rfl, h1, ?_⟩
  simp only [Act.put, List.setIfInBounds_toArray, List.set_cons_zero, List.set_cons_succ]
  refine take_to 7 12 (.bool (fits6 i j)) rfl (by kernel_rfl) (by kernel_rfl) (by kernel_rfl) (fun _ _ _ h => h) rfl (by rfl) (fun w hw => op_fitsAt _ _ (.tmp 9) (.tmp 11) rfl i j hi hj rfl rfl) h1 ?_
  simp only [Act.put, List.setIfInBounds_toArray, List.set_cons_zero, List.set_cons_succ]
  refine take_to 8 4 (.bool (fits6 i j)) rfl (by kernel_rfl) (by kernel_rfl) (by kernel_rfl) (fun _ _ _ h => h) rfl (by rfl) (fun w hw => by rfl) h1 ?_
  simp only [Act.put, List.setIfInBounds_toArray, List.set_cons_zero, List.set_cons_succ]
  refine wpAnyH_done (by kernel_rfl) ?_ _
  go_wp2
  go_ret
  exact ⟨rfl, h1⟩
set_option maxHeartbeats 1000000 in
theorem join_any (a b : Int) (w : World) : Calls Try.prog 17 #[.int .i64 a, .int .i64 b] w fun e w' => e = .returned (.int .i64 (join a b)) ∧ Below w.heap.size w w' := by
  obtain ⟨i, hi, ei, ti⟩ := known_nat a
  obtain ⟨j, hj, ej, tj⟩ := known_nat b
  have HA : Hid (∀ w, Calls Try.prog 37 #[.int .i64 a] w fun e w' => e = .returned (.int .i64 (i : Int)) ∧ w' = w) := fun w => by rw [← ei]; exact known_any a w
  have HB : Hid (∀ w, Calls Try.prog 37 #[.int .i64 b] w fun e w' => e = .returned (.int .i64 (j : Int)) ∧ w' = w) := fun w => by rw [← ej]; exact known_any b w
  have hres : join a b = join6 i j := by unfold join; rw [ti, tj]
  rw [hres]
  clear hres ei ti ej tj
  have HM : Hid (∀ w, Calls Try.prog 36 #[] w fun e w' => e = .returned (.agg modeCells.toArray) ∧ Below w.heap.size w w') := modes_any
  go_enter Try.func17, Try.ntmps17
  go_upto_region 1 with fail
  refine wp_region_held_drew (S := fun w' => Below w.heap.size w w') (by kernel_rfl) (below_drewN _ _ 1) (fun hH => ?_)
  refine take_to 1 6 (.int .i64 a) rfl (by kernel_rfl) (by kernel_rfl) (by kernel_rfl) (fun _ _ _ h => h) rfl (by rfl) (fun w hw => by rfl) hH ?_
  simp only [Act.put, List.setIfInBounds_toArray, List.set_cons_zero, List.set_cons_succ]
  refine take_to 5 10 (.int .i64 b) rfl (by kernel_rfl) (by kernel_rfl) (by kernel_rfl) (fun _ _ _ h => h) rfl (by rfl) (fun w hw => by rfl) hH ?_
  simp only [Act.put, List.setIfInBounds_toArray, List.set_cons_zero, List.set_cons_succ]
  refine step_call0_to 0 5 36 rfl (by kernel_rfl) rfl (by rfl) _ rfl Try.enters36 (HM.out _) ?_
  rintro e w1 ⟨rfl, h1⟩
  have h1 := hH.trans (h1.mono hH.size)
  refine ⟨_, rfl, h1, ?_⟩
  simp only [Act.put, List.setIfInBounds_toArray, List.set_cons_zero, List.set_cons_succ]
  refine step_call1_to 2 7 37 rfl (by kernel_rfl) rfl (by rfl) (.tmp 6) _ rfl _ rfl Try.enters37 (HA.out _) ?_
  rintro e w2 ⟨rfl, rfl⟩
  refine ⟨_, rfl, h1, ?_⟩
  simp only [Act.put, List.setIfInBounds_toArray, List.set_cons_zero, List.set_cons_succ]
  refine take_to 3 8 (modeRow i) rfl (by kernel_rfl) (by kernel_rfl) (by kernel_rfl) (fun _ _ _ h => h) rfl (by rfl) (fun w hw => op_mode _ _ (.tmp 5) (.tmp 7) rfl i hi rfl rfl) h1 ?_
  simp only [Act.put, List.setIfInBounds_toArray, List.set_cons_zero, List.set_cons_succ]
  refine take_to 4 9 (joinV i) rfl (by kernel_rfl) (by kernel_rfl) (by kernel_rfl) (fun _ _ _ h => h) rfl (by rfl) (fun w hw => op_joinV _ _ (.tmp 8) rfl i hi rfl) h1 ?_
  simp only [Act.put, List.setIfInBounds_toArray, List.set_cons_zero, List.set_cons_succ]
  refine step_call1_to 6 11 37 rfl (by kernel_rfl) rfl (by rfl) (.tmp 10) _ rfl _ rfl Try.enters37 (HB.out _) ?_
  rintro e w3 ⟨rfl, rfl⟩
  refine ⟨_, rfl, h1, ?_⟩
  simp only [Act.put, List.setIfInBounds_toArray, List.set_cons_zero, List.set_cons_succ]
  refine take_to 7 12 (.int .i64 (join6 i j)) rfl (by kernel_rfl) (by kernel_rfl) (by kernel_rfl) (fun _ _ _ h => h) rfl (by rfl) (fun w hw => op_joinAt _ _ (.tmp 9) (.tmp 11) rfl i j hi hj rfl rfl) h1 ?_
  simp only [Act.put, List.setIfInBounds_toArray, List.set_cons_zero, List.set_cons_succ]
  refine take_to 8 4 (.int .i64 (join6 i j)) rfl (by kernel_rfl) (by kernel_rfl) (by kernel_rfl) (fun _ _ _ h => h) rfl (by rfl) (fun w hw => by rfl) h1 ?_
  simp only [Act.put, List.setIfInBounds_toArray, List.set_cons_zero, List.set_cons_succ]
  refine wpAnyH_done (by kernel_rfl) ?_ _
  go_wp2
  go_ret
  exact ⟨rfl, h1⟩
end Go.Proofs.Ytffjdjbjkjefoaa
