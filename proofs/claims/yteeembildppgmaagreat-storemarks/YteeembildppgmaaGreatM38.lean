/- A part of it: SStart SRest. -/
import Derived.Test.YteeembildppgmaaGreatM37
import Derived.Test.YteeembildppgmaaGreatM29
import Derived.Test.YteeembildppgmaaGreatM23
namespace Go.Proofs.YteeembildppgmaaGreat
open Go.RowKit
set_option linter.unusedVariables false
set_option linter.unusedSimpArgs false
theorem op_alloc99 (ρ : Operand → Value) (o : Oper) (ho : o.op = .alloc 99) (w : World) : (execOp ρ o).run Tryz.prog w = .ok (.value (.pointer (some ⟨w.heap.size, 0, none⟩))) (w.alloc (.cells #[.int .i64 0, .int .i64 0, .int .i64 0, .int .i64 0] 99)) := by
  unfold execOp
  rw [ho]
  kernel_rfl
theorem Tryz.isAgg24 (w : World) : (isAgg 24).run Tryz.prog w = .ok false w := by kernel_rfl
theorem Tryz.enters105 (args : Array Value) (w : World) : (callFunc 105 args).run Tryz.prog w = .ok (.enter 105 args) w := by kernel_rfl
theorem Tryz.enters113 (args : Array Value) (w : World) : (callFunc 113 args).run Tryz.prog w = .ok (.enter 113 args) w := by kernel_rfl
theorem Tryz.enters112 (args : Array Value) (w : World) : (callFunc 112 args).run Tryz.prog w = .ok (.enter 112 args) w := by kernel_rfl
theorem op_call2_to {P : Program} {ops : Array Oper} {Q : Exit → Act → World → Prop} {o : Oper} {a : Act} {w : World} {K : Act → World → Prop} {i : Nat} {R : Ending → World → Prop} (dst f : Nat) (hi : ops[i]? = some o)
    (hd : o.dst = some dst) (hw : Region.wanted o (yielded ops a.tmps) = true) (x y : Operand) (ts : Array TypeId) (hop : o.op = Op.call { callee := Callee.value (Operand.func f), args := #[x, y], argTypes := ts })
    (vx vy : Value) (hx : a.eval x = vx) (hy : a.eval y = vy) (hcf : ∀ args w, (callFunc f args).run P w = .ok (.enter f args) w) (hc : Calls P f #[vx, vy] w R)
    (hK : ∀ e w', R e w' → ∃ v, e = .returned v ∧ K (a.put (some dst) v) w') : wpOp P ops Q i K a w := by
  refine wpOp_step hi (fun K' hK' => ?_)
  rw [if_pos hw]
  have hrun : (execOp a.eval o).run P w = .ok (.enter f #[vx, vy]) w := by
    have hff : a.eval (.func f) = .func (.func f) #[] #[] := rfl
    unfold execOp
    simp [hop, resolve, hff, Deferred.ofValue, invoke, hx, hy]
    exact hcf _ _
  unfold Oper.wp
  rw [hrun, Oper.upon_enter]
  refine hc.mono ?_
  intro e w' hR
  obtain ⟨v, rfl, hW⟩ := hK e w' hR
  show K' (a.put o.dst v) w'
  rw [hd]
  exact hK' _ _ hW
theorem run_store99 (w : World) (q : Nat) (a0 a1 a2 a3 b0 b1 b2 b3 : Int) (h : w.heap[q]? = some (.cells #[.int .i64 a0, .int .i64 a1, .int .i64 a2, .int .i64 a3] 99 (0, 0))) : (Instr.storeAt 99 (.pointer (some ⟨q, 0, none⟩)) (.agg #[.int .i64 b0, .int .i64 b1, .int .i64 b2, .int .i64 b3])).run Tryz.prog w = .ok () (w.setRow q #[.int .i64 b0, .int .i64 b1, .int .i64 b2, .int .i64 b3]) := by
  have := run_storeVar_row (P := Tryz.prog) w q 99 99 _ #[.int .i64 b0, .int .i64 b1, .int .i64 b2, .int .i64 b3] h (by kernel_rfl) (by simp) (by simp [Value.oneCell'])
  simp [Instr.storeAt, Instr.sureAddr, this]
theorem run_load99 (w : World) (q : Nat) (a0 a1 a2 a3 : Int) (h : w.heap[q]? = some (.cells #[.int .i64 a0, .int .i64 a1, .int .i64 a2, .int .i64 a3] 99 (0, 0))) : (Instr.loadAt 99 (.pointer (some ⟨q, 0, none⟩))).run Tryz.prog w = .ok (.agg #[.int .i64 a0, .int .i64 a1, .int .i64 a2, .int .i64 a3]) w :=
  run_loadAt_mid w q 0 99 [.int .i64 a0, .int .i64 a1, .int .i64 a2, .int .i64 a3] _ (fun j v hv => by rw [Nat.zero_add, cell_of_row w q j _ _ _ h]; simpa using hv) Tryz.underlying99 rfl (by kernel_rfl)
theorem blk_sec {w : World} {g : Nat} {bs : List UInt8} {cur : Array Value} (h : BlkAt w g 128 bs cur) (hl : bs.length = 128) : w.heap[g]? = some (.cells (secCells bs).toArray 5 (0, 0)) := by
  have h1 := h.pre
  rw [hl, List.take_of_length_le (by rw [Array.length_toList, h.size]; exact Nat.le_refl _)] at h1
  rw [h.blk, ← h1]
section
variable {w0 w w' : World} {s : Nat} {c : Cf} {xs tb : List Nat} {ov : Value} {ps : List Nat} {uvs : List Value} {S : St}
set_option maxHeartbeats 2000000 in
set_option maxRecDepth 100000 in
theorem startAt_none (h : StIs w0 w s c xs tb ov ps uvs S) (hh : S.R.held = []) (hd : dirtL S.pool.fs = []) (st : Nat) (h1 : S.R.start ≤ st) (h2 : st ≤ S.R.fin) (h3 : st ≤ 2199023255552) (hm : S.master < 2199023255552) (hc : S.commits < 4611686018427387904) (hn : S.next < 4611686018427387904) :
    Calls Tryz.prog 81 #[.pointer (some ⟨s, 0, none⟩), .int .i64 (st : Int)] w fun e w' => e = .returned (.int .i64 0) ∧ StIs w0 w' s c xs tb ov ps uvs { S.setR { S.R with start := st, held := [] } with master := S.master + 1 } ∧ Kept (tb ++ xs) w w' := by
  obtain ⟨M, hM⟩ : ∃ M, M = S.master + 1 := ⟨_, rfl⟩
  have HQ := hide hM
  clear hM
  obtain ⟨bl, vs, gp, D, hP, hB⟩ := h.asRing
  have HD := hide (dirty_any hP (by rw [hd]; simp))
  have HH := hide hh
  have HDD := hide hd
  have HN := hide (And.intro h1 (And.intro h2 (And.intro h3 (And.intro hm (And.intro hc hn)))))
  have c2 := h.c2
  have H := hide h
  clear h hP hB hh hd h1 h2 h3 hm hc hn
  go_enter Tryz.func81, Tryz.ntmps81
  go_wp2_with (go_at_call 89; refine HD.out.mono ?_; rintro e W1 ⟨v, d, rfl, ⟨ao, cc, rfl, _⟩, hp, _, hB1⟩; rw [HDD.out] at hp; obtain rfl := List.perm_nil.1 hp; have H1 := hide (H.out.belowW hB1); have HB1 := hide hB1; clear hp hB1)
  refine wp_loop_rounds 1 ?_
  rw [rounds_succ]
  go_wp2_with fail
  have HAD : Hid (IntKind.i64.wrap ((S.master : Int) + 1) = (M : Int)) := by show _ = _; rw [IntKind.wrap_i64]; have := HN.out.2.2.2.1; have := HQ.out; omega
  have HSL : Hid (∀ W, Below W1.heap.size W1 W → W.cell? ⟨s, 7, none⟩ = some (.int .i64 (S.master : Int)) ∧ W.cell? ⟨s, 5, none⟩ = some (.int .i64 (S.next : Int))) := fun W hb => ⟨(H1.out.belowW hb).c7, (H1.out.belowW hb).c5⟩
  refine wp_region_held_drew (S := fun w' => w'.cell? ⟨s, 7, none⟩ = some (.int .i64 (S.master : Int)) ∧ w'.cell? ⟨s, 5, none⟩ = some (.int .i64 (S.next : Int))) (by kernel_rfl) (HSL.out _ (below_drewN _ _ 1)) (fun hH => ?_)
  refine take_to 0 34 (.pointer (some ⟨s, 0, none⟩)) rfl (by kernel_rfl) (by kernel_rfl) (by kernel_rfl) (fun _ _ _ h => h) rfl (by rfl) (fun w hw => by rfl) hH ?_
  simp only [Act.put, List.setIfInBounds_toArray, List.set_cons_zero, List.set_cons_succ]
  refine take_to 1 35 (.pointer (some ⟨s, 0, none⟩)) rfl (by kernel_rfl) (by kernel_rfl) (by kernel_rfl) (fun _ _ _ h => h) rfl (by rfl) (fun w hw => by rfl) hH ?_
  simp only [Act.put, List.setIfInBounds_toArray, List.set_cons_zero, List.set_cons_succ]
  refine take_to 2 36 (.pointer (some ⟨s, 7, none⟩)) rfl (by kernel_rfl) (by kernel_rfl) (by kernel_rfl) (fun _ _ _ h => h) rfl (by rfl) (fun w hw => by rfl) hH ?_
  simp only [Act.put, List.setIfInBounds_toArray, List.set_cons_zero, List.set_cons_succ]
  refine take_to 3 37 (.int .i64 (S.master : Int)) rfl (by kernel_rfl) (by kernel_rfl) (by kernel_rfl) (fun _ _ _ h => h) rfl (by rfl) (fun w hw => op_load _ _ 3 (.tmp 36) rfl (.pointer (some ⟨s, 7, none⟩)) _ rfl (run_loadAny w s 7 3 _ Tryz.isAgg3 hw.1)) hH ?_
  simp only [Act.put, List.setIfInBounds_toArray, List.set_cons_zero, List.set_cons_succ]
  refine take_to 4 38 (.int .i64 (M : Int)) rfl (by kernel_rfl) (by kernel_rfl) (by kernel_rfl) (fun _ _ _ h => h) rfl (by rfl) (fun w hw => op_add3 _ _ (.tmp 37) _ 3 rfl _ 1 rfl rfl _ HAD.out) hH ?_
  simp only [Act.put, List.setIfInBounds_toArray, List.set_cons_zero, List.set_cons_succ]
  refine take_to 5 39 (.int .i64 (st : Int)) rfl (by kernel_rfl) (by kernel_rfl) (by kernel_rfl) (fun _ _ _ h => h) rfl (by rfl) (fun w hw => by rfl) hH ?_
  simp only [Act.put, List.setIfInBounds_toArray, List.set_cons_zero, List.set_cons_succ]
  refine take_to 6 40 (.pointer (some ⟨s, 0, none⟩)) rfl (by kernel_rfl) (by kernel_rfl) (by kernel_rfl) (fun _ _ _ h => h) rfl (by rfl) (fun w hw => by rfl) hH ?_
  simp only [Act.put, List.setIfInBounds_toArray, List.set_cons_zero, List.set_cons_succ]
  refine take_to 7 41 (.int .i64 (st : Int)) rfl (by kernel_rfl) (by kernel_rfl) (by kernel_rfl) (fun _ _ _ h => h) rfl (by rfl) (fun w hw => by rfl) hH ?_
  simp only [Act.put, List.setIfInBounds_toArray, List.set_cons_zero, List.set_cons_succ]
  refine take_to 9 43 (.pointer (some ⟨s, 0, none⟩)) rfl (by kernel_rfl) (by kernel_rfl) (by kernel_rfl) (fun _ _ _ h => h) rfl (by rfl) (fun w hw => by rfl) hH ?_
  simp only [Act.put, List.setIfInBounds_toArray, List.set_cons_zero, List.set_cons_succ]
  refine take_to 10 44 (.pointer (some ⟨s, 0, none⟩)) rfl (by kernel_rfl) (by kernel_rfl) (by kernel_rfl) (fun _ _ _ h => h) rfl (by rfl) (fun w hw => by rfl) hH ?_
  simp only [Act.put, List.setIfInBounds_toArray, List.set_cons_zero, List.set_cons_succ]
  refine take_to 11 45 (.pointer (some ⟨s, 5, none⟩)) rfl (by kernel_rfl) (by kernel_rfl) (by kernel_rfl) (fun _ _ _ h => h) rfl (by rfl) (fun w hw => by rfl) hH ?_
  simp only [Act.put, List.setIfInBounds_toArray, List.set_cons_zero, List.set_cons_succ]
  refine take_to 12 46 (.int .i64 (S.next : Int)) rfl (by kernel_rfl) (by kernel_rfl) (by kernel_rfl) (fun _ _ _ h => h) rfl (by rfl) (fun w hw => op_load _ _ 3 (.tmp 45) rfl (.pointer (some ⟨s, 5, none⟩)) _ rfl (run_loadAny w s 5 3 _ Tryz.isAgg3 hw.2)) hH ?_
  simp only [Act.put, List.setIfInBounds_toArray, List.set_cons_zero, List.set_cons_succ]
  have HB0 : Below W1.heap.size W1 W1.drew := below_drewN _ _ 1
  have HH1 : StIs w0 W1.drew s c xs tb ov ps uvs S := H1.out.belowW HB0
  generalize W1.drew = U0 at hH HB0 HH1 ⊢
  refine wpAnyH_all (rs := [8, 14]) (by kernel_rfl) (by simp) ?_
  intro m hm
  rcases (by simpa using hm : m = 8 ∨ m = 14) with rfl | rfl
  · refine op_call2_to 42 112 rfl rfl (by rfl) (.tmp 40) (.tmp 41) _ rfl (.pointer (some ⟨s, 0, none⟩)) (.int .i64 (st : Int)) (by rfl) (by rfl) Tryz.enters112 (commitsAhead_none HH1 HH.out (st : Int)) ?_
    rintro e U ⟨rfl, hbU⟩
    have hb1 : Below W1.heap.size W1 U := HB0.trans (hbU.mono HB0.size)
    have hH := HSL.out _ hb1
    refine ⟨_, rfl, hH, ?_⟩
    simp only [Act.put, List.setIfInBounds_toArray, List.set_cons_zero, List.set_cons_succ]
    refine take_to 13 47 (.agg #[.int .i64 (M : Int), .int .i64 (st : Int), .int .i64 (S.commits : Int), .int .i64 (S.next : Int)]) rfl (by kernel_rfl) (by kernel_rfl) (by kernel_rfl) (fun _ _ _ h => h) rfl (by rfl) (fun w hw => by kernel_rfl) hH ?_
    simp only [Act.put, List.setIfInBounds_toArray, List.set_cons_zero, List.set_cons_succ]
    have hz : (U.alloc (.cells #[.int .i64 0, .int .i64 0, .int .i64 0, .int .i64 0] 99)).heap[U.heap.size]? = some (.cells #[.int .i64 0, .int .i64 0, .int .i64 0, .int .i64 0] 99 (0, 0)) := World.alloc_heap_new _ _
    have hb2 : Below W1.heap.size W1 (U.alloc (.cells #[.int .i64 0, .int .i64 0, .int .i64 0, .int .i64 0] 99)) := hb1.trans (((Off.refl [] U).alloc _).below hb1.size (by simp))
    refine step_to 14 8 (.pointer (some ⟨U.heap.size, 0, none⟩)) (U.alloc (.cells #[.int .i64 0, .int .i64 0, .int .i64 0, .int .i64 0] 99)) rfl (by kernel_rfl) rfl (by rfl) (op_alloc99 _ _ rfl _) (HSL.out _ hb2) ?_
    simp only [Act.put, List.setIfInBounds_toArray, List.set_cons_zero, List.set_cons_succ]
    have hb3 : Below W1.heap.size W1 ((U.alloc (.cells #[.int .i64 0, .int .i64 0, .int .i64 0, .int .i64 0] 99)).setRow U.heap.size #[.int .i64 (M : Int), .int .i64 (st : Int), .int .i64 (S.commits : Int), .int .i64 (S.next : Int)]) := hb2.trans (((Off.refl [U.heap.size] _).setRow _ _ (.inl (by simp))).below (Nat.le_trans hb1.size (by simp)) (by simp; exact hb1.size))
    refine step_store_to 15 ((U.alloc (.cells #[.int .i64 0, .int .i64 0, .int .i64 0, .int .i64 0] 99)).setRow U.heap.size #[.int .i64 (M : Int), .int .i64 (st : Int), .int .i64 (S.commits : Int), .int .i64 (S.next : Int)]) rfl (by kernel_rfl) rfl (by rfl) 99 (.tmp 8) (.tmp 47) rfl (.pointer (some ⟨U.heap.size, 0, none⟩)) (.agg #[.int .i64 (M : Int), .int .i64 (st : Int), .int .i64 (S.commits : Int), .int .i64 (S.next : Int)]) rfl rfl (run_store99 _ _ _ _ _ _ _ _ _ _ hz) (HSL.out _ hb3) ?_
    refine wpAnyH_done (by kernel_rfl) ?_ _
    have hm0 : W1.heap.size ≤ U.heap.size := hb1.size
    have HM : ((U.alloc (.cells #[.int .i64 0, .int .i64 0, .int .i64 0, .int .i64 0] 99)).setRow U.heap.size #[.int .i64 (M : Int), .int .i64 (st : Int), .int .i64 (S.commits : Int), .int .i64 (S.next : Int)]).heap[U.heap.size]? = some (.cells #[.int .i64 (M : Int), .int .i64 (st : Int), .int .i64 (S.commits : Int), .int .i64 (S.next : Int)] 99 (0, 0)) := setRow_heap _ _ _ _ _ _ hz
    generalize (U.alloc (.cells #[.int .i64 0, .int .i64 0, .int .i64 0, .int .i64 0] 99)).setRow U.heap.size #[.int .i64 (M : Int), .int .i64 (st : Int), .int .i64 (S.commits : Int), .int .i64 (S.next : Int)] = W3 at hb3 HM ⊢
    generalize U.heap.size = m at hm0 HM ⊢
    clear hz hb2 hb1 hbU hH HH1 HB0
    have hmx : m < W3.heap.size := (Array.getElem?_eq_some_iff.1 HM).1
    have H3 : Hid (StIs w0 W3 s c (m :: xs) tb ov ps uvs S) := H1.out.mindNew hb3 (by intro k hk; simp only [List.mem_cons] at hk; rcases hk with rfl | hk; exact .inr ⟨hm0, hmx⟩; exact .inl hk)
    have HB3 := hide hb3
    have HMM := hide (And.intro HM hmx)
    have HRM : Hid ((M : Int).tmod 2 = ((M % 2 : Nat) : Int)) := by show _ = _; rw [Int.tmod_eq_emod_of_nonneg (by omega)]; omega
    have HBD : Hid (M < 4611686018427387904 ∧ st < 4611686018427387904 ∧ S.commits < 4611686018427387904 ∧ S.next < 4611686018427387904) := by show _ ∧ _; have := HN.out; have := HQ.out; omega
    clear HM hmx hb3 hm0
    go_wp2_with fail
    refine wp_region_held_drew (S := fun w' => w'.cell? ⟨s, 0, none⟩ = some (.pointer (some ⟨c.p, 0, none⟩)) ∧ w'.heap[m]? = some (.cells #[.int .i64 (M : Int), .int .i64 (st : Int), .int .i64 (S.commits : Int), .int .i64 (S.next : Int)] 99 (0, 0))) (by kernel_rfl) ⟨(H3.out.belowW (below_drewN _ _ 1)).c0, HMM.out.1⟩ (fun hH => ?_)
    have HB30 : Below W3.heap.size W3 W3.drew := below_drewN _ _ 1
    have H30 : StIs w0 W3.drew s c (m :: xs) tb ov ps uvs S := H3.out.belowW HB30
    have HM0 : W3.drew.heap[m]? = some (.cells #[.int .i64 (M : Int), .int .i64 (st : Int), .int .i64 (S.commits : Int), .int .i64 (S.next : Int)] 99 (0, 0)) := HMM.out.1
    have hmx : m < W3.drew.heap.size := HMM.out.2
    generalize W3.drew = X0 at hH HB30 H30 HM0 hmx ⊢
    refine take_to 0 48 (.pointer (some ⟨s, 0, none⟩)) rfl (by kernel_rfl) (by kernel_rfl) (by kernel_rfl) (fun _ _ _ h => h) rfl (by rfl) (fun w hw => by rfl) hH ?_
    simp only [Act.put, List.setIfInBounds_toArray, List.set_cons_zero, List.set_cons_succ]
    refine take_to 1 49 (.pointer (some ⟨s, 0, none⟩)) rfl (by kernel_rfl) (by kernel_rfl) (by kernel_rfl) (fun _ _ _ h => h) rfl (by rfl) (fun w hw => by rfl) hH ?_
    simp only [Act.put, List.setIfInBounds_toArray, List.set_cons_zero, List.set_cons_succ]
    refine take_to 2 50 (.pointer (some ⟨s, 0, none⟩)) rfl (by kernel_rfl) (by kernel_rfl) (by kernel_rfl) (fun _ _ _ h => h) rfl (by rfl) (fun w hw => by rfl) hH ?_
    simp only [Act.put, List.setIfInBounds_toArray, List.set_cons_zero, List.set_cons_succ]
    refine take_to 3 51 (.pointer (some ⟨s, 0, none⟩)) rfl (by kernel_rfl) (by kernel_rfl) (by kernel_rfl) (fun _ _ _ h => h) rfl (by rfl) (fun w hw => by rfl) hH ?_
    simp only [Act.put, List.setIfInBounds_toArray, List.set_cons_zero, List.set_cons_succ]
    refine take_to 4 52 (.pointer (some ⟨c.p, 0, none⟩)) rfl (by kernel_rfl) (by kernel_rfl) (by kernel_rfl) (fun _ _ _ h => h) rfl (by rfl) (fun w hw => op_load _ _ 24 (.tmp 51) rfl (.pointer (some ⟨s, 0, none⟩)) _ rfl (run_loadAny w s 0 24 _ Tryz.isAgg24 hw.1)) hH ?_
    simp only [Act.put, List.setIfInBounds_toArray, List.set_cons_zero, List.set_cons_succ]
    refine take_to 5 53 (.pointer (some ⟨m, 0, none⟩)) rfl (by kernel_rfl) (by kernel_rfl) (by kernel_rfl) (fun _ _ _ h => h) rfl (by rfl) (fun w hw => by rfl) hH ?_
    simp only [Act.put, List.setIfInBounds_toArray, List.set_cons_zero, List.set_cons_succ]
    refine take_to 6 54 (.int .i64 (M : Int)) rfl (by kernel_rfl) (by kernel_rfl) (by kernel_rfl) (fun _ _ _ h => h) rfl (by rfl) (fun w hw => op_load _ _ 3 (.tmp 53) rfl (.pointer (some ⟨m, 0, none⟩)) _ rfl (run_loadAny w m 0 3 _ Tryz.isAgg3 (by rw [cell_of_row w m 0 _ _ _ hw.2]; rfl))) hH ?_
    simp only [Act.put, List.setIfInBounds_toArray, List.set_cons_zero, List.set_cons_succ]
    refine take_to 7 55 (.int .i64 ((M % 2 : Nat) : Int)) rfl (by kernel_rfl) (by kernel_rfl) (by kernel_rfl) (fun _ _ _ h => h) rfl (by rfl) (fun w hw => op_rem3 _ _ (.tmp 54) _ 3 rfl _ 2 rfl rfl _ (by omega) (HRM.out)) hH ?_
    simp only [Act.put, List.setIfInBounds_toArray, List.set_cons_zero, List.set_cons_succ]
    refine take_to 8 56 (.agg #[.int .i64 (M : Int), .int .i64 (st : Int), .int .i64 (S.commits : Int), .int .i64 (S.next : Int)]) rfl (by kernel_rfl) (by kernel_rfl) (by kernel_rfl) (fun _ _ _ h => h) rfl (by rfl) (fun w hw => op_load _ _ 99 (.tmp 8) rfl (.pointer (some ⟨m, 0, none⟩)) _ rfl (run_load99 w m _ _ _ _ hw.2)) hH ?_
    simp only [Act.put, List.setIfInBounds_toArray, List.set_cons_zero, List.set_cons_succ]
    refine step_call1_to 9 57 105 rfl (by kernel_rfl) rfl (by rfl) (.tmp 56) _ rfl _ rfl Tryz.enters105 (sector_any X0 M st S.commits S.next HBD.out.1 HBD.out.2.1 HBD.out.2.2.1 HBD.out.2.2.2) ?_
    rintro e U9 ⟨g, rfl, hg0, ⟨cur, hblk⟩, hb9⟩
    have hgl : g < U9.heap.size := (Array.getElem?_eq_some_iff.1 hblk.blk).1
    have h9 : StIs w0 U9 s c (g :: m :: xs) tb ov ps uvs S := H30.mindNew hb9 (by intro k hk; simp only [List.mem_cons] at hk ⊢; rcases hk with rfl | rfl | hk; exact .inr ⟨hg0, hgl⟩; exact .inl (.inl rfl); exact .inl (.inr hk))
    have hM9 := (hb9.block m hmx).trans HM0
    have hH9 := And.intro h9.c0 hM9
    obtain ⟨bl9, vs9, gp9, D9, hP9, hB9⟩ := h9.asRing
    have hsec := blk_sec hblk (length_mkSec M st S.commits S.next 4)
    refine ⟨_, rfl, hH9, ?_⟩
    simp only [Act.put, List.setIfInBounds_toArray, List.set_cons_zero, List.set_cons_succ]
    refine step_call3_to 10 58 113 rfl (by kernel_rfl) rfl (by rfl) (.tmp 52) (.tmp 55) (.tmp 57) _ rfl _ _ _ rfl rfl rfl Tryz.enters113 (bk_dwrite hB9 (M % 2) g 128 _ 5 (0, 0) (Nat.mod_lt _ (by omega)) (length_mkSec M st S.commits S.next 4) hsec (by simp)) ?_
    rintro e U10 ⟨rfl, ⟨fp1, hmid⟩, hk10⟩
    have c10 : U10.cell? ⟨s, 0, none⟩ = some (.pointer (some ⟨c.p, 0, none⟩)) := (World.cell?_of_block (a := ⟨s, 0, none⟩) (hk10.2 s (by simp))).trans h9.c0
    have hH10 := And.intro c10 ((hk10.2 m (by simp)).trans hM9)
    refine ⟨_, rfl, hH10, ?_⟩
    simp only [Act.put, List.setIfInBounds_toArray, List.set_cons_zero, List.set_cons_succ]
    refine step_call2_to 11 59 51 rfl (by kernel_rfl) rfl (by rfl) (.tmp 48) (.tmp 58) _ rfl _ _ rfl rfl Tryz.enters51 (heed_ok U10 s) ?_
    rintro e w9 ⟨rfl, hw9⟩
    rw [hw9]
    refine ⟨_, rfl, hH10, ?_⟩
    simp only [Act.put, List.setIfInBounds_toArray, List.set_cons_zero, List.set_cons_succ]
    refine step_to 12 9 (.int .i64 0) U10 rfl (by kernel_rfl) rfl (by rfl) rfl hH10 ?_
    simp only [Act.put, List.setIfInBounds_toArray, List.set_cons_zero, List.set_cons_succ]
    refine wpAnyH_done (by kernel_rfl) ?_ _
    have HSY := hide (bk_dsync hmid)
    have H9 := hide h9
    have HP9 := hide (And.intro hP9 (And.intro hM9 (And.intro hb9 (And.intro hk10 HB30))))
    clear hmid h9 hP9 hM9 hB9 hk10 hH9 hH10 hH hblk hsec hw9 hb9 HB30 H30 HM0 hmx hg0 hgl
    go_upto_region 15 with (first
      | (go_at_call 114; refine HSY.out.mono ?_; rintro e U12 ⟨rfl, ⟨D12, hB12⟩, hk12⟩
         have h12 : StIs w0 U12 s c (g :: m :: xs) tb ov ps uvs S := (H9.out.ofRing HP9.out.1 hB12 hk12).1
         have k12 := (H9.out.ofRing HP9.out.1 hB12 hk12).2
         have H12 := hide h12
         have HK12 := hide k12
         clear hB12 hk12 h12 k12 HSY)
      | (go_at_call 51; refine (heed_ok _ s).mono ?_; rintro e w9 ⟨rfl, hw9⟩; have hw9 := hw9.symm; subst hw9))
    have m12 : U12.heap[m]? = some (.cells #[.int .i64 (M : Int), .int .i64 (st : Int), .int .i64 (S.commits : Int), .int .i64 (S.next : Int)] 99 (0, 0)) := (HK12.out.2 m (by simp)).trans HP9.out.2.1
    have d0 : U12.cell? ⟨m, 0, none⟩ = some (.int .i64 (M : Int)) := by rw [cell_of_row U12 m 0 _ _ _ m12]; rfl
    have z7 := H12.out.fz 7
    have s7 := H12.out.c7
    have h13 := H12.out.setS (w' := U12.setCell ⟨s, 7, none⟩ (.int .i64 (M : Int))) (S' := { S with master := M }) rfl rfl ((Off.refl _ U12).setCell _ _ (by simp)) (by rw [heap_setCell_same U12 s 7 _ _ _ H12.out.head]; rfl)
    have c1 := h13.c1
    obtain ⟨bl13, vs13, gp13, D13, hP13, hB13⟩ := h13.asRing
    have HT := hide (trim_ok st hB13.rg HN.out.1 HN.out.2.1 HN.out.2.2.1)
    have H13 := hide h13
    have HP13 := hide (And.intro hP13 hB13)
    have HU13 : Hid (∀ k, k ≠ s → (U12.setCell ⟨s, 7, none⟩ (.int .i64 (M : Int))).heap[k]? = U12.heap[k]?) := fun k hk => Below.heap_setCell _ _ _ _ hk
    have HZ13 : Hid (U12.heap.size ≤ (U12.setCell ⟨s, 7, none⟩ (.int .i64 (M : Int))).heap.size) := (((Off.refl [s] U12).setCell _ _ (by simp)).size)
    clear h13 hP13 hB13 m12 c10
    go_upto_region 16 with fail
    generalize U12.setCell ⟨s, 7, none⟩ (.int .i64 (M : Int)) = U13 at *
    go_wp2_with (go_at_call 115; refine HT.out.mono ?_; rintro e U14 ⟨rfl, hR, hO⟩; have HF := hide (And.intro hR hO); clear hR hO)
    go_ret
    obtain ⟨hB14, hk14⟩ := HP13.out.2.ring HF.out.2 HF.out.1 (fun k hk => .inl hk) rfl rfl rfl
    obtain ⟨h14, k14⟩ := H13.out.ofRing HP13.out.1 hB14 hk14
    have h15 := h14.mind (ys := xs) (by intro k hk; simp [hk])
    have key : ∀ (M' : Nat) (l : List UInt8), M' = M → l = [] → StIs w0 U14 s c xs tb ov ps uvs { S.setR { S.R with start := st, held := l } with master := M } → StIs w0 U14 s c xs tb ov ps uvs { S.setR { S.R with start := st, held := [] } with master := M' } := fun M' l e1 e2 h => by subst e1; subst e2; exact h
    refine ⟨rfl, key _ (S.R.held.drop (st - S.R.start)) HQ.out.symm (by rw [HH.out]; simp) h15, ?_⟩
    have z1 := HB1.out.size
    have z3 := HB3.out.size
    have z0 := HP9.out.2.2.2.2.size
    have z9 := HP9.out.2.2.1.size
    have z12 := HK12.out.1
    have z13 := HZ13.out
    have z14 := k14.1
    refine ⟨by omega, fun k hk => ?_⟩
    have l0 : k < w.heap.size := H.out.lts (by simp only [List.mem_cons]; exact .inr hk)
    have hks : k ≠ s := fun e => H.out.sx (by rw [← e]; exact hk)
    have hk9 : k ∈ s :: (tb ++ g :: m :: xs) := by simp only [List.mem_cons, List.mem_append] at hk ⊢; rcases hk with hk | hk; exact .inr (.inl hk); exact .inr (.inr (.inr (.inr hk)))
    exact (k14.2 k hk9).trans ((HU13.out k hks).trans ((HK12.out.2 k hk9).trans ((HP9.out.2.2.1.block k (by omega)).trans ((HP9.out.2.2.2.2.block k (by omega)).trans ((HB3.out.block k (by omega)).trans (HB1.out.block k l0))))))
  · have hz : (U0.alloc (.cells #[.int .i64 0, .int .i64 0, .int .i64 0, .int .i64 0] 99)).heap[U0.heap.size]? = some (.cells #[.int .i64 0, .int .i64 0, .int .i64 0, .int .i64 0] 99 (0, 0)) := World.alloc_heap_new _ _
    have hb1 : Below W1.heap.size W1 (U0.alloc (.cells #[.int .i64 0, .int .i64 0, .int .i64 0, .int .i64 0] 99)) := HB0.trans (((Off.refl [] U0).alloc _).below HB0.size (by simp))
    refine op_to 8 (.pointer (some ⟨U0.heap.size, 0, none⟩)) (U0.alloc (.cells #[.int .i64 0, .int .i64 0, .int .i64 0, .int .i64 0] 99)) rfl rfl (by rfl) (op_alloc99 _ _ rfl _) ⟨HSL.out _ hb1, ?_⟩
    simp only [Act.put, List.setIfInBounds_toArray, List.set_cons_zero, List.set_cons_succ]
    have hl1 : U0.heap.size < (U0.alloc (.cells #[.int .i64 0, .int .i64 0, .int .i64 0, .int .i64 0] 99)).heap.size := by simp
    have hm0 : W1.heap.size ≤ U0.heap.size := HB0.size
    generalize U0.alloc (.cells #[.int .i64 0, .int .i64 0, .int .i64 0, .int .i64 0] 99) = V at hz hb1 hl1 ⊢
    generalize U0.heap.size = m at hm0 hz hl1 ⊢
    refine step_call2_to 8 42 112 rfl (by kernel_rfl) rfl (by rfl) (.tmp 40) (.tmp 41) _ rfl (.pointer (some ⟨s, 0, none⟩)) (.int .i64 (st : Int)) (by rfl) (by rfl) Tryz.enters112 (commitsAhead_none (H1.out.belowW hb1) HH.out (st : Int)) ?_
    rintro e U ⟨rfl, hbU⟩
    have hb2 : Below W1.heap.size W1 U := hb1.trans (hbU.mono hb1.size)
    have hH := HSL.out _ hb2
    refine ⟨_, rfl, hH, ?_⟩
    simp only [Act.put, List.setIfInBounds_toArray, List.set_cons_zero, List.set_cons_succ]
    refine take_to 13 47 (.agg #[.int .i64 (M : Int), .int .i64 (st : Int), .int .i64 (S.commits : Int), .int .i64 (S.next : Int)]) rfl (by kernel_rfl) (by kernel_rfl) (by kernel_rfl) (fun _ _ _ h => h) rfl (by rfl) (fun w hw => by kernel_rfl) hH ?_
    simp only [Act.put, List.setIfInBounds_toArray, List.set_cons_zero, List.set_cons_succ]
    have hz := (hbU.block m hl1).trans hz
    have hb3 : Below W1.heap.size W1 (U.setRow m #[.int .i64 (M : Int), .int .i64 (st : Int), .int .i64 (S.commits : Int), .int .i64 (S.next : Int)]) := hb2.trans (((Off.refl [m] _).setRow _ _ (.inl (by simp))).below hb2.size (by simp; exact hm0))
    refine step_store_to 15 (U.setRow m #[.int .i64 (M : Int), .int .i64 (st : Int), .int .i64 (S.commits : Int), .int .i64 (S.next : Int)]) rfl (by kernel_rfl) rfl (by rfl) 99 (.tmp 8) (.tmp 47) rfl (.pointer (some ⟨m, 0, none⟩)) (.agg #[.int .i64 (M : Int), .int .i64 (st : Int), .int .i64 (S.commits : Int), .int .i64 (S.next : Int)]) rfl rfl (run_store99 _ _ _ _ _ _ _ _ _ _ hz) (HSL.out _ hb3) ?_
    refine wpAnyH_done (by kernel_rfl) ?_ _
    have HM : (U.setRow m #[.int .i64 (M : Int), .int .i64 (st : Int), .int .i64 (S.commits : Int), .int .i64 (S.next : Int)]).heap[m]? = some (.cells #[.int .i64 (M : Int), .int .i64 (st : Int), .int .i64 (S.commits : Int), .int .i64 (S.next : Int)] 99 (0, 0)) := setRow_heap _ _ _ _ _ _ hz
    generalize U.setRow m #[.int .i64 (M : Int), .int .i64 (st : Int), .int .i64 (S.commits : Int), .int .i64 (S.next : Int)] = W3 at hb3 HM ⊢
    clear hz hb2 hb1 hbU hH HH1 HB0 hl1
    have hmx : m < W3.heap.size := (Array.getElem?_eq_some_iff.1 HM).1
    have H3 : Hid (StIs w0 W3 s c (m :: xs) tb ov ps uvs S) := H1.out.mindNew hb3 (by intro k hk; simp only [List.mem_cons] at hk; rcases hk with rfl | hk; exact .inr ⟨hm0, hmx⟩; exact .inl hk)
    have HB3 := hide hb3
    have HMM := hide (And.intro HM hmx)
    have HRM : Hid ((M : Int).tmod 2 = ((M % 2 : Nat) : Int)) := by show _ = _; rw [Int.tmod_eq_emod_of_nonneg (by omega)]; omega
    have HBD : Hid (M < 4611686018427387904 ∧ st < 4611686018427387904 ∧ S.commits < 4611686018427387904 ∧ S.next < 4611686018427387904) := by show _ ∧ _; have := HN.out; have := HQ.out; omega
    clear HM hmx hb3 hm0
    go_wp2_with fail
    refine wp_region_held_drew (S := fun w' => w'.cell? ⟨s, 0, none⟩ = some (.pointer (some ⟨c.p, 0, none⟩)) ∧ w'.heap[m]? = some (.cells #[.int .i64 (M : Int), .int .i64 (st : Int), .int .i64 (S.commits : Int), .int .i64 (S.next : Int)] 99 (0, 0))) (by kernel_rfl) ⟨(H3.out.belowW (below_drewN _ _ 1)).c0, HMM.out.1⟩ (fun hH => ?_)
    have HB30 : Below W3.heap.size W3 W3.drew := below_drewN _ _ 1
    have H30 : StIs w0 W3.drew s c (m :: xs) tb ov ps uvs S := H3.out.belowW HB30
    have HM0 : W3.drew.heap[m]? = some (.cells #[.int .i64 (M : Int), .int .i64 (st : Int), .int .i64 (S.commits : Int), .int .i64 (S.next : Int)] 99 (0, 0)) := HMM.out.1
    have hmx : m < W3.drew.heap.size := HMM.out.2
    generalize W3.drew = X0 at hH HB30 H30 HM0 hmx ⊢
    refine take_to 0 48 (.pointer (some ⟨s, 0, none⟩)) rfl (by kernel_rfl) (by kernel_rfl) (by kernel_rfl) (fun _ _ _ h => h) rfl (by rfl) (fun w hw => by rfl) hH ?_
    simp only [Act.put, List.setIfInBounds_toArray, List.set_cons_zero, List.set_cons_succ]
    refine take_to 1 49 (.pointer (some ⟨s, 0, none⟩)) rfl (by kernel_rfl) (by kernel_rfl) (by kernel_rfl) (fun _ _ _ h => h) rfl (by rfl) (fun w hw => by rfl) hH ?_
    simp only [Act.put, List.setIfInBounds_toArray, List.set_cons_zero, List.set_cons_succ]
    refine take_to 2 50 (.pointer (some ⟨s, 0, none⟩)) rfl (by kernel_rfl) (by kernel_rfl) (by kernel_rfl) (fun _ _ _ h => h) rfl (by rfl) (fun w hw => by rfl) hH ?_
    simp only [Act.put, List.setIfInBounds_toArray, List.set_cons_zero, List.set_cons_succ]
    refine take_to 3 51 (.pointer (some ⟨s, 0, none⟩)) rfl (by kernel_rfl) (by kernel_rfl) (by kernel_rfl) (fun _ _ _ h => h) rfl (by rfl) (fun w hw => by rfl) hH ?_
    simp only [Act.put, List.setIfInBounds_toArray, List.set_cons_zero, List.set_cons_succ]
    refine take_to 4 52 (.pointer (some ⟨c.p, 0, none⟩)) rfl (by kernel_rfl) (by kernel_rfl) (by kernel_rfl) (fun _ _ _ h => h) rfl (by rfl) (fun w hw => op_load _ _ 24 (.tmp 51) rfl (.pointer (some ⟨s, 0, none⟩)) _ rfl (run_loadAny w s 0 24 _ Tryz.isAgg24 hw.1)) hH ?_
    simp only [Act.put, List.setIfInBounds_toArray, List.set_cons_zero, List.set_cons_succ]
    refine take_to 5 53 (.pointer (some ⟨m, 0, none⟩)) rfl (by kernel_rfl) (by kernel_rfl) (by kernel_rfl) (fun _ _ _ h => h) rfl (by rfl) (fun w hw => by rfl) hH ?_
    simp only [Act.put, List.setIfInBounds_toArray, List.set_cons_zero, List.set_cons_succ]
    refine take_to 6 54 (.int .i64 (M : Int)) rfl (by kernel_rfl) (by kernel_rfl) (by kernel_rfl) (fun _ _ _ h => h) rfl (by rfl) (fun w hw => op_load _ _ 3 (.tmp 53) rfl (.pointer (some ⟨m, 0, none⟩)) _ rfl (run_loadAny w m 0 3 _ Tryz.isAgg3 (by rw [cell_of_row w m 0 _ _ _ hw.2]; rfl))) hH ?_
    simp only [Act.put, List.setIfInBounds_toArray, List.set_cons_zero, List.set_cons_succ]
    refine take_to 7 55 (.int .i64 ((M % 2 : Nat) : Int)) rfl (by kernel_rfl) (by kernel_rfl) (by kernel_rfl) (fun _ _ _ h => h) rfl (by rfl) (fun w hw => op_rem3 _ _ (.tmp 54) _ 3 rfl _ 2 rfl rfl _ (by omega) (HRM.out)) hH ?_
    simp only [Act.put, List.setIfInBounds_toArray, List.set_cons_zero, List.set_cons_succ]
    refine take_to 8 56 (.agg #[.int .i64 (M : Int), .int .i64 (st : Int), .int .i64 (S.commits : Int), .int .i64 (S.next : Int)]) rfl (by kernel_rfl) (by kernel_rfl) (by kernel_rfl) (fun _ _ _ h => h) rfl (by rfl) (fun w hw => op_load _ _ 99 (.tmp 8) rfl (.pointer (some ⟨m, 0, none⟩)) _ rfl (run_load99 w m _ _ _ _ hw.2)) hH ?_
    simp only [Act.put, List.setIfInBounds_toArray, List.set_cons_zero, List.set_cons_succ]
    refine step_call1_to 9 57 105 rfl (by kernel_rfl) rfl (by rfl) (.tmp 56) _ rfl _ rfl Tryz.enters105 (sector_any X0 M st S.commits S.next HBD.out.1 HBD.out.2.1 HBD.out.2.2.1 HBD.out.2.2.2) ?_
    rintro e U9 ⟨g, rfl, hg0, ⟨cur, hblk⟩, hb9⟩
    have hgl : g < U9.heap.size := (Array.getElem?_eq_some_iff.1 hblk.blk).1
    have h9 : StIs w0 U9 s c (g :: m :: xs) tb ov ps uvs S := H30.mindNew hb9 (by intro k hk; simp only [List.mem_cons] at hk ⊢; rcases hk with rfl | rfl | hk; exact .inr ⟨hg0, hgl⟩; exact .inl (.inl rfl); exact .inl (.inr hk))
    have hM9 := (hb9.block m hmx).trans HM0
    have hH9 := And.intro h9.c0 hM9
    obtain ⟨bl9, vs9, gp9, D9, hP9, hB9⟩ := h9.asRing
    have hsec := blk_sec hblk (length_mkSec M st S.commits S.next 4)
    refine ⟨_, rfl, hH9, ?_⟩
    simp only [Act.put, List.setIfInBounds_toArray, List.set_cons_zero, List.set_cons_succ]
    refine step_call3_to 10 58 113 rfl (by kernel_rfl) rfl (by rfl) (.tmp 52) (.tmp 55) (.tmp 57) _ rfl _ _ _ rfl rfl rfl Tryz.enters113 (bk_dwrite hB9 (M % 2) g 128 _ 5 (0, 0) (Nat.mod_lt _ (by omega)) (length_mkSec M st S.commits S.next 4) hsec (by simp)) ?_
    rintro e U10 ⟨rfl, ⟨fp1, hmid⟩, hk10⟩
    have c10 : U10.cell? ⟨s, 0, none⟩ = some (.pointer (some ⟨c.p, 0, none⟩)) := (World.cell?_of_block (a := ⟨s, 0, none⟩) (hk10.2 s (by simp))).trans h9.c0
    have hH10 := And.intro c10 ((hk10.2 m (by simp)).trans hM9)
    refine ⟨_, rfl, hH10, ?_⟩
    simp only [Act.put, List.setIfInBounds_toArray, List.set_cons_zero, List.set_cons_succ]
    refine step_call2_to 11 59 51 rfl (by kernel_rfl) rfl (by rfl) (.tmp 48) (.tmp 58) _ rfl _ _ rfl rfl Tryz.enters51 (heed_ok U10 s) ?_
    rintro e w9 ⟨rfl, hw9⟩
    rw [hw9]
    refine ⟨_, rfl, hH10, ?_⟩
    simp only [Act.put, List.setIfInBounds_toArray, List.set_cons_zero, List.set_cons_succ]
    refine step_to 12 9 (.int .i64 0) U10 rfl (by kernel_rfl) rfl (by rfl) rfl hH10 ?_
    simp only [Act.put, List.setIfInBounds_toArray, List.set_cons_zero, List.set_cons_succ]
    refine wpAnyH_done (by kernel_rfl) ?_ _
    have HSY := hide (bk_dsync hmid)
    have H9 := hide h9
    have HP9 := hide (And.intro hP9 (And.intro hM9 (And.intro hb9 (And.intro hk10 HB30))))
    clear hmid h9 hP9 hM9 hB9 hk10 hH9 hH10 hH hblk hsec hw9 hb9 HB30 H30 HM0 hmx hg0 hgl
    go_upto_region 15 with (first
      | (go_at_call 114; refine HSY.out.mono ?_; rintro e U12 ⟨rfl, ⟨D12, hB12⟩, hk12⟩
         have h12 : StIs w0 U12 s c (g :: m :: xs) tb ov ps uvs S := (H9.out.ofRing HP9.out.1 hB12 hk12).1
         have k12 := (H9.out.ofRing HP9.out.1 hB12 hk12).2
         have H12 := hide h12
         have HK12 := hide k12
         clear hB12 hk12 h12 k12 HSY)
      | (go_at_call 51; refine (heed_ok _ s).mono ?_; rintro e w9 ⟨rfl, hw9⟩; have hw9 := hw9.symm; subst hw9))
    have m12 : U12.heap[m]? = some (.cells #[.int .i64 (M : Int), .int .i64 (st : Int), .int .i64 (S.commits : Int), .int .i64 (S.next : Int)] 99 (0, 0)) := (HK12.out.2 m (by simp)).trans HP9.out.2.1
    have d0 : U12.cell? ⟨m, 0, none⟩ = some (.int .i64 (M : Int)) := by rw [cell_of_row U12 m 0 _ _ _ m12]; rfl
    have z7 := H12.out.fz 7
    have s7 := H12.out.c7
    have h13 := H12.out.setS (w' := U12.setCell ⟨s, 7, none⟩ (.int .i64 (M : Int))) (S' := { S with master := M }) rfl rfl ((Off.refl _ U12).setCell _ _ (by simp)) (by rw [heap_setCell_same U12 s 7 _ _ _ H12.out.head]; rfl)
    have c1 := h13.c1
    obtain ⟨bl13, vs13, gp13, D13, hP13, hB13⟩ := h13.asRing
    have HT := hide (trim_ok st hB13.rg HN.out.1 HN.out.2.1 HN.out.2.2.1)
    have H13 := hide h13
    have HP13 := hide (And.intro hP13 hB13)
    have HU13 : Hid (∀ k, k ≠ s → (U12.setCell ⟨s, 7, none⟩ (.int .i64 (M : Int))).heap[k]? = U12.heap[k]?) := fun k hk => Below.heap_setCell _ _ _ _ hk
    have HZ13 : Hid (U12.heap.size ≤ (U12.setCell ⟨s, 7, none⟩ (.int .i64 (M : Int))).heap.size) := (((Off.refl [s] U12).setCell _ _ (by simp)).size)
    clear h13 hP13 hB13 m12 c10
    go_upto_region 16 with fail
    generalize U12.setCell ⟨s, 7, none⟩ (.int .i64 (M : Int)) = U13 at *
    go_wp2_with (go_at_call 115; refine HT.out.mono ?_; rintro e U14 ⟨rfl, hR, hO⟩; have HF := hide (And.intro hR hO); clear hR hO)
    go_ret
    obtain ⟨hB14, hk14⟩ := HP13.out.2.ring HF.out.2 HF.out.1 (fun k hk => .inl hk) rfl rfl rfl
    obtain ⟨h14, k14⟩ := H13.out.ofRing HP13.out.1 hB14 hk14
    have h15 := h14.mind (ys := xs) (by intro k hk; simp [hk])
    have key : ∀ (M' : Nat) (l : List UInt8), M' = M → l = [] → StIs w0 U14 s c xs tb ov ps uvs { S.setR { S.R with start := st, held := l } with master := M } → StIs w0 U14 s c xs tb ov ps uvs { S.setR { S.R with start := st, held := [] } with master := M' } := fun M' l e1 e2 h => by subst e1; subst e2; exact h
    refine ⟨rfl, key _ (S.R.held.drop (st - S.R.start)) HQ.out.symm (by rw [HH.out]; simp) h15, ?_⟩
    have z1 := HB1.out.size
    have z3 := HB3.out.size
    have z0 := HP9.out.2.2.2.2.size
    have z9 := HP9.out.2.2.1.size
    have z12 := HK12.out.1
    have z13 := HZ13.out
    have z14 := k14.1
    refine ⟨by omega, fun k hk => ?_⟩
    have l0 : k < w.heap.size := H.out.lts (by simp only [List.mem_cons]; exact .inr hk)
    have hks : k ≠ s := fun e => H.out.sx (by rw [← e]; exact hk)
    have hk9 : k ∈ s :: (tb ++ g :: m :: xs) := by simp only [List.mem_cons, List.mem_append] at hk ⊢; rcases hk with hk | hk; exact .inr (.inl hk); exact .inr (.inr (.inr (.inr hk)))
    exact (k14.2 k hk9).trans ((HU13.out k hks).trans ((HK12.out.2 k hk9).trans ((HP9.out.2.2.1.block k (by omega)).trans ((HP9.out.2.2.2.2.block k (by omega)).trans ((HB3.out.block k (by omega)).trans (HB1.out.block k l0))))))
end
end Go.Proofs.YteeembildppgmaaGreat
namespace Go.Proofs.YteeembildppgmaaGreat
open Go.RowKit
set_option linter.unusedVariables false
set_option linter.unusedSimpArgs false
section
variable {w0 w w' : World} {s : Nat} {c : Cf} {xs tb : List Nat} {ov : Value} {ps : List Nat} {uvs : List Value} {S : St}
set_option maxHeartbeats 2000000 in
set_option maxRecDepth 100000 in
theorem restart_none (h : StIs w0 w s c xs tb ov ps uvs S) (hh : S.R.held = []) (hd : dirtL S.pool.fs = []) (h3 : S.R.start ≤ 2199023255552) (hm : S.master < 2199023255552) (hc : S.commits < 4611686018427387904) (hn : S.next < 4611686018427387904) :
    Calls Tryz.prog 50 #[.pointer (some ⟨s, 0, none⟩)] w fun e w' => e = .returned (.int .i64 0) ∧ StIs w0 w' s c xs tb ov ps uvs { S.setR { S.R with fin := S.R.start, held := [] } with master := S.master + 1, redone := 0 } := by
  have HL := hide (lines_none h hh)
  have H := hide h
  have HH := hide hh
  have HD := hide hd
  have HN := hide (And.intro h3 (And.intro hm (And.intro hc hn)))
  clear h hh hd h3 hm hc hn
  go_enter Tryz.func50, Tryz.ntmps50
  go_wp2
  refine wp_scope_fwd 5 ?_
  go_wp2_with (first
    | (go_at_call 65; refine HL.out.mono ?_; rintro e W1 ⟨la, lc, rfl, hB1⟩
       have HG : Hid (∀ o : Obj, (W1.alloc o).heap[W1.heap.size]? = some o) := fun o => World.alloc_heap_new W1 o
       have HB1 := hide hB1
       clear hB1)
    | (refine wpList_store_row (by rfl) 124 _ _ (by rfl) W1.heap.size #[.slice la 0 lc, .slice none 0 0, .slice none 0 0] (by rfl) (by rfl) 124 _ (HG.out _) (by kernel_rfl) (by rfl) (by simp [Value.oneCell']) ?_))
  have hff : ∀ o : Obj, (W1.alloc o).heap[W1.heap.size]? = some o := HG.out
  have hb0 : Below W1.heap.size W1 ((W1.alloc (.cells #[.slice none 0 0, .slice none 0 0, .slice none 0 0] 124)).setRow W1.heap.size #[.slice la 0 lc, .slice none 0 0, .slice none 0 0]) := (((Off.refl [] W1).alloc _).setRow _ _ (.inr (Nat.le_refl _))).below (Nat.le_refl _) (by simp)
  have hf1 : FoundAt ((W1.alloc (.cells #[.slice none 0 0, .slice none 0 0, .slice none 0 0] 124)).setRow W1.heap.size #[.slice la 0 lc, .slice none 0 0, .slice none 0 0]) W1.heap.size la lc none 0 none 0 := setRow_heap _ _ _ _ _ _ (hff _)
  generalize (W1.alloc (.cells #[.slice none 0 0, .slice none 0 0, .slice none 0 0] 124)).setRow W1.heap.size #[.slice la 0 lc, .slice none 0 0, .slice none 0 0] = X1 at hb0 hf1 ⊢
  have hfl : W1.heap.size < X1.heap.size := (Array.getElem?_eq_some_iff.1 hf1).1
  have h1 : StIs w0 X1 s c (W1.heap.size :: xs) tb ov ps uvs S := (H.out.belowW HB1.out).mindNew hb0 (by intro k hk; simp only [List.mem_cons] at hk; rcases hk with rfl | hk; exact .inr ⟨Nat.le_refl _, hfl⟩; exact .inl hk)
  have hf0 : w0.heap.size ≤ W1.heap.size := (H.out.belowW HB1.out).below.size
  have HFS : Hid (W1.heap.size ≠ s) := fun e => h1.sx (by simp [← e])
  have HF0 := hide hf0
  have HA := hide (analyze_none h1 hf1 (by simp) hf0 HN.out.2.2.1)
  clear hff hb0 hf1 hfl h1 hf0 HG HL
  generalize W1.heap.size = ff at *
  go_wp2
  go_step3
  refine ⟨_, rfl, ?_⟩
  go_wp2_with (go_at_call 77; refine HA.out.mono ?_; rintro e W2 ⟨rfl, ta, tc, da, dc, h2, hf2⟩
               have f0 : W2.cell? ⟨ff, 0, none⟩ = some (.slice la 0 lc) := by rw [cell_of_row W2 ff 0 _ _ _ hf2]; rfl
               have f1 : W2.cell? ⟨ff, 1, none⟩ = some (.slice ta 0 tc) := by rw [cell_of_row W2 ff 1 _ _ _ hf2]; rfl
               have f2 : W2.cell? ⟨ff, 2, none⟩ = some (.slice da 0 dc) := by rw [cell_of_row W2 ff 2 _ _ _ hf2]; rfl
               have H2 := hide h2
               have HF2 := hide hf2
               have HDA := hide (doAgain_none (la := la) (ta := ta) (da := da) (lc := lc) (tc := tc) (dc := dc) h2)
               clear h2 hf2 HA)
  go_step3
  refine ⟨_, rfl, ?_⟩
  go_wp2_with (go_at_call 78; refine HDA.out.mono ?_; rintro e W3 ⟨rfl, h3, hO3⟩
               have hf3 : FoundAt W3 ff la lc ta tc da dc := (hO3.block ff (Array.getElem?_eq_some_iff.1 HF2.out).1 (by simpa using HFS.out)).trans HF2.out
               have f0 : W3.cell? ⟨ff, 0, none⟩ = some (.slice la 0 lc) := by rw [cell_of_row W3 ff 0 _ _ _ hf3]; rfl
               have f1 : W3.cell? ⟨ff, 1, none⟩ = some (.slice ta 0 tc) := by rw [cell_of_row W3 ff 1 _ _ _ hf3]; rfl
               have f2 : W3.cell? ⟨ff, 2, none⟩ = some (.slice da 0 dc) := by rw [cell_of_row W3 ff 2 _ _ _ hf3]; rfl
               have H3 := hide h3
               have HF3 := hide hf3
               have HUL := hide (undoLosers_none (la := la) (ta := ta) (da := da) (lc := lc) (tc := tc) (dc := dc) W3 s)
               clear h3 hf3 hO3 HDA)
  go_step3
  refine ⟨_, rfl, ?_⟩
  go_wp2_with (go_at_call 79; refine HUL.out.mono ?_; rintro e W4 ⟨rfl, hB4⟩
               have h4 := H3.out.belowW hB4
               have hf4 : FoundAt W4 ff la lc ta tc da dc := (hB4.block ff (Array.getElem?_eq_some_iff.1 HF3.out).1).trans HF3.out
               have f0 : W4.cell? ⟨ff, 0, none⟩ = some (.slice la 0 lc) := by rw [cell_of_row W4 ff 0 _ _ _ hf4]; rfl
               have f1 : W4.cell? ⟨ff, 1, none⟩ = some (.slice ta 0 tc) := by rw [cell_of_row W4 ff 1 _ _ _ hf4]; rfl
               have f2 : W4.cell? ⟨ff, 2, none⟩ = some (.slice da 0 dc) := by rw [cell_of_row W4 ff 2 _ _ _ hf4]; rfl
               have HED := hide (endDone_none h4 la ta da lc tc dc)
               clear h4 hf4 hB4 HUL)
  go_step3
  refine ⟨_, rfl, ?_⟩
  go_wp2_with (go_at_call 80; refine HED.out.mono ?_; rintro e W5 ⟨rfl, h5, hk5⟩
               have c1 := h5.c1
               obtain ⟨bl5, vs5, gp5, D5, hP5, hB5⟩ := h5.asRing
               have HE := hide (end_any hB5.rg)
               have HST := hide (startAt_none h5 HH.out HD.out S.R.tail (by show S.R.start ≤ S.R.tail; unfold Rg.tail; omega) (Nat.le_refl _) (by show S.R.tail ≤ _; unfold Rg.tail; rw [HH.out]; exact HN.out.1) HN.out.2.1 HN.out.2.2.1 HN.out.2.2.2)
               clear h5 hk5 hP5 hB5 HED)
  go_step3
  refine ⟨_, rfl, ?_⟩
  go_wp2_with (first
    | (go_at_call 76; refine HE.out.mono ?_; rintro e w9 ⟨rfl, hw9⟩; have hw9 := hw9.symm; subst hw9)
    | (go_at_call 81; refine HST.out.mono ?_; rintro e W6 ⟨rfl, h6, hk6⟩; have H6 := hide h6; clear h6 hk6 HST))
  rw [Exit.jumps_ret]
  go_ret
  have key : ∀ t : Nat, t = S.R.start → StIs w0 W6 s c xs tb ov ps uvs { S.setR { S.R with fin := t, start := t, held := [] } with master := S.master + 1, redone := 0 } → StIs w0 W6 s c xs tb ov ps uvs { S.setR { S.R with fin := S.R.start, held := [] } with master := S.master + 1, redone := 0 } := fun t e h => by rw [e] at h; exact h
  exact ⟨rfl, key S.R.tail (by unfold Rg.tail; rw [HH.out]; rfl) (H6.out.mind (by intro k hk; simp [hk]))⟩
end
end Go.Proofs.YteeembildppgmaaGreat
