/- history: the statement that makes an update, in all its orders. -/
import Derived.Test.YtpjppolbkdnkaaaHistQ
namespace Go.Proofs.Ytpjppolbkdnkaaa
open Go.RowKit
set_option linter.unusedVariables false
set_option linter.unusedSimpArgs false

theorem own_slice {w : World} {base : Nat} {e : TypeId} {size n : Nat} {v : Value} {xs : List Value} (h : w.ownsRow base e size v n xs) : ∃ ao c, v = .slice ao n c := by
  rcases h.2 with ⟨h1, h2⟩ | ⟨g, cap, cur, h1, _⟩
  · exact ⟨none, 0, by rw [h2]; exact h1⟩
  · exact ⟨_, _, h1⟩
theorem Try.info34 : (Try.prog.info? 34).map (fun i => (i.zero, i.size, i.bytes)) = some (some (.agg (lnCells Ln.zero).toArray), 12, 160) := by kernel_rfl
section
variable {w0 w w' : World} {g4 g5 g6 : Nat} {v3 : Value} {tv : List Value} {S : Hs} {K : List (Nat × Obj)}
theorem HistIs.c4 (x : HistIs w0 w g4 g5 g6 v3 tv S K) (t : Nat) (ht : t < 5) : w.cell? ⟨g4, t, none⟩ = some (.int .i64 (S.lastAt t)) ∧ w.frozen? ⟨g4, t, none⟩ = false := by
  refine ⟨?_, frozen_of_row _ _ _ _ _ x.h4⟩
  rw [cell_of_row _ _ _ _ _ _ x.h4, List.getElem?_toArray]
  unfold intsV Hs.lastAt
  rw [List.getElem?_map, List.getD_eq_getElem?_getD, List.getElem?_eq_getElem (by rw [x.n4]; exact ht)]
  rfl
theorem HistIs.c5 (x : HistIs w0 w g4 g5 g6 v3 tv S K) (t : Nat) (ht : t < 5) : w.cell? ⟨g5, t, none⟩ = some (.bool (S.doneAt t)) ∧ w.frozen? ⟨g5, t, none⟩ = false := by
  refine ⟨?_, frozen_of_row _ _ _ _ _ x.h5⟩
  rw [cell_of_row _ _ _ _ _ _ x.h5, List.getElem?_toArray]
  unfold boolsV Hs.doneAt
  rw [List.getElem?_map, List.getD_eq_getElem?_getD, List.getElem?_eq_getElem (by rw [x.n5]; exact ht)]
  rfl
theorem HistIs.c6 (x : HistIs w0 w g4 g5 g6 v3 tv S K) (t : Nat) (ht : t < 5) : ∃ at' ct, tv[t]? = some (.slice at' (S.todoAt t).length ct) ∧ w.cell? ⟨g6, t, none⟩ = some (.slice at' (S.todoAt t).length ct) ∧ w.frozen? ⟨g6, t, none⟩ = false ∧ w.ownsRow w0.heap.size 3 1 (.slice at' (S.todoAt t).length ct) (S.todoAt t).length (intCells (S.todoAt t)) ∧ S.todo[t]? = some (S.todoAt t) := by
  obtain ⟨v, hv⟩ : ∃ v, tv[t]? = some v := ⟨_, List.getElem?_eq_getElem (by rw [x.n6]; exact ht)⟩
  have hl : S.todo[t]? = some (S.todoAt t) := by
    unfold Hs.todoAt
    rw [List.getD_eq_getElem?_getD, List.getElem?_eq_getElem (by rw [x.nt]; exact ht)]
    rfl
  have hr := x.rows t v _ hv hl
  obtain ⟨ao, c, rfl⟩ := own_slice hr
  exact ⟨ao, c, hv, by rw [cell_of_row _ _ _ _ _ _ x.h6, List.getElem?_toArray]; exact hv, frozen_of_row _ _ _ _ _ x.h6, hr, hl⟩
end
theorem row_range {w : World} {base g c : Nat} {L : List Ln} (h : w.ownsRow base 34 12 (.slice (some ⟨g, 0, none⟩) L.length c) L.length (lnRow L)) (i : Nat) (x : Ln) (hx : L[i]? = some x) : w.rangeAt g (i * 12) (lnCells x) := fun j v hv => by
  have hi := (List.getElem?_eq_some_iff.1 hx).1
  obtain ⟨g', c', cur, e, _, hg, h1, _, h3, ht⟩ := own_some h (by omega)
  injection e with e1 e2 e3
  injection e1 with e1
  injection e1 with e1 _
  subst e1
  have hj := (List.getElem?_eq_some_iff.1 hv).1
  have hj : j < 12 := by simpa [lnCells, recCells] using hj
  have hfl : ∀ y ∈ L.map lnCells, y.length = 12 := fun y hy => by obtain ⟨z, _, rfl⟩ := List.mem_map.1 hy; rfl
  have h0 := flat_get 12 (L.map lnCells) hfl i (by rw [List.length_map]; exact hi) j hj
  have hx' := (List.getElem?_eq_some_iff.1 hx).2
  rw [List.getElem_map, hx', hv] at h0
  have hrow : (lnRow L)[i * 12 + j]? = some v := by unfold lnRow; rw [List.flatMap_def]; exact h0
  rw [← ht, List.getElem?_take, if_pos (by omega)] at hrow
  rw [cell_of_row _ _ _ _ _ _ hg]
  simpa using hrow
theorem run_store3 (w : World) (p k : Nat) (u : Value) (v : Value) (h : w.cell? ⟨p, k, none⟩ = some u) (hf : w.frozen? ⟨p, k, none⟩ = false) {n : Int} (hv : v = .int .i64 n := by rfl) :
    (Instr.storeAt 3 (.pointer (some ⟨p, k, none⟩)) v).run Try.prog w = .ok () (w.setCell ⟨p, k, none⟩ v) := by
  subst hv
  simp [go_sem, h, hf]
theorem run_store30 (w : World) (p k : Nat) (u : Value) (v : Value) (h : w.cell? ⟨p, k, none⟩ = some u) (hf : w.frozen? ⟨p, k, none⟩ = false) {a : Option Addr} {n c : Nat} (hv : v = .slice a n c := by rfl) :
    (Instr.storeAt 30 (.pointer (some ⟨p, k, none⟩)) v).run Try.prog w = .ok () (w.setCell ⟨p, k, none⟩ v) := by
  subst hv
  simp [go_sem, h, hf]
theorem wrap_small (n : Int) (h1 : 0 ≤ n) (h2 : n < 1000000) : IntKind.i64.wrap n = n := by
  unfold IntKind.wrap
  have e : n % 2 ^ IntKind.i64.bits = n := Int.emod_eq_of_lt h1 (by show n < 2 ^ 64; omega)
  simp only [e]
  rw [if_neg]
  intro h
  rw [Bool.and_eq_true] at h
  have := of_decide_eq_true h.2
  have h3 : (2 : Int) ^ (IntKind.i64.bits - 1) = 9223372036854775808 := by decide
  omega
theorem wp_with_act {P : Program} {c : Code} {Q : Exit → Act → World → Prop} {a : Act} {w : World} (h : ∀ a0, a0 = a → c.wp P Q a w) : c.wp P Q a w := h a rfl
theorem op_and3 (ρ : Operand → Value) (o : Oper) (x y : Operand) (tt : TypeId) (ho : o.op = .binOp .and 3 x y tt) (n m : Int) (hx : ρ x = .int .i64 n) (hy : ρ y = .int .i64 m) {w : World} : (execOp ρ o).run Try.prog w = .ok (.value (.int .i64 (bits .and .i64 n m))) w := by
  have hu := Try.underlying3
  unfold execOp
  simp only [ho, hx, hy]
  simp [go_sem, hu]
theorem conv8 (k : Nat) (hk : k < 256) (w : World) : (convert 3 5 (.int .i64 (k : Int))).run Try.prog w = .ok (byteOf k) w := by
  have h3 := Try.underlying3
  have h5 := Try.underlying5
  have hw : IntKind.u8.wrap (k : Int) = (k : Int) := by
    unfold IntKind.wrap
    have h1 : ((k : Nat) : Int) % 2 ^ IntKind.u8.bits = (k : Int) := Int.emod_eq_of_lt (by omega) (by show (k : Int) < 2 ^ 8; omega)
    simp only [h1]
    rw [if_neg]
    simp [IntKind.signed]
  unfold byteOf
  simp [go_sem, convert, hw]
theorem buildByte (n : Int) (W : World) : (do pure (Next.value (← Instr.buildSlice 30 1 #[(0, .int .u8 n)])) : Sem Next).run Try.prog W = .ok (.value (.slice (some ⟨W.heap.size, 0, none⟩) 1 1)) (W.alloc (.cells #[.int .u8 n] 5)) := by
  have e : (Instr.buildSlice 30 1 #[(0, .int .u8 n)]).run Try.prog W = .ok (.slice (some ⟨W.heap.size, 0, none⟩) 1 1) (W.alloc (.cells #[.int .u8 n] 5)) := by kernel_rfl
  rw [Sem.run_bind, e]; rfl
theorem hb_cons {g4 g5 g6 : Nat} {v3 : Value} {tv : List Value} {K : List (Nat × Obj)} {gr : Nat} {p : Nat × Obj} (h : gr ∉ hblocks g4 g5 g6 v3 tv K) (hp : gr ≠ p.1) : gr ∉ hblocks g4 g5 g6 v3 tv (p :: K) := fun hm => by
  unfold hblocks at h hm
  simp only [List.mem_cons, List.mem_append, List.map_cons] at h hm
  rcases hm with hm | hm | hm | (hm | hm) | (hm | hm)
  · exact h (.inl hm)
  · exact h (.inr (.inl hm))
  · exact h (.inr (.inr (.inl hm)))
  · exact h (.inr (.inr (.inr (.inl (.inl hm)))))
  · exact h (.inr (.inr (.inr (.inl (.inr hm)))))
  · exact hp hm
  · exact h (.inr (.inr (.inr (.inr hm))))
/-- One store that comes up among others. -/
theorem op_store_to {P : Program} {ops : Array Oper} {Q : Exit → Act → World → Prop} {oi : Oper} {a : Act} {w : World} {K : Act → World → Prop} {i : Nat} (w' : World) (hi : ops[i]? = some oi) (hd : oi.dst = none) (hw : Region.wanted oi (yielded ops a.tmps) = true)
    (t : TypeId) (x y : Operand) (hop : oi.op = Op.store t x y) (px v : Value) (hx : a.eval x = px) (hy : a.eval y = v) (hrun : (Instr.storeAt t px v).run P w = .ok () w') (h : K a w') : wpOp P ops Q i K a w := by
  refine wpOp_step hi (fun K' hK => ?_)
  rw [if_pos hw]
  unfold Oper.wp execOp
  simp only [hop, hx, hy, Sem.run_bind, hrun, Result.andThen_ok, Sem.run_pure, Oper.upon_skip]
  rw [hd]
  exact hK _ _ h
/-- The operations of a region. -/
def opsAt (k : Nat) : Code → Option (Array Oper)
  | .region id ops _ => bif Nat.beq id k then some ops else none
  | .seq a b => match opsAt k a with | some o => some o | none => opsAt k b
  | .cond _ a b => match opsAt k a with | some o => some o | none => opsAt k b
  | .block _ a => opsAt k a
  | .loop a => opsAt k a
  | .scope a => opsAt k a
  | _ => none
def ops12 : { o : Array Oper // opsAt 12 (Try.f8.body.getD .skip) = some o } := ⟨_, rfl⟩
set_option maxHeartbeats 8000000 in
set_option maxRecDepth 100000 in
theorem region12 (w x2 : World) (g4 g5 g6 : Nat) (a3 : Option Addr) (c3 : Nat) (tv : List Value) (S : Hs) (K : List (Nat × Obj)) (k gs gr tt : Nat) (x : St) (t0 t1 t2 t3 t4 t5 t6 t9 t10 t12 t13 t14 t15 t16 t17 t18 t19 t20 t21 t22 t23 t24 t25 t26 t27 t28 t29 t30 t31 t32 t33 t34 t35 t36 t37 t38 t39 t40 t41 t42 t43 t44 t45 t46 t47 t48 t49 t50 t51 t52 t53 t54 t55 t56 t57 t58 t59 t60 t61 t62 t63 t64 t65 t66 t67 t68 t69 t70 t71 t72 t73 t74 t75 t76 t77 t78 t79 t80 t81 t82 t83 t84 t85 t86 t87 t88 t89 t90 t91 t92 t93 t94 t95 t96 t97 t98 t99 t100 t101 t102 t103 t104 t105 t106 t107 t108 t109 t110 t111 t112 t113 t114 t115 t116 t117 t118 t119 t120 t121 t122 t123 t124 t125 t126 t127 t128 t129 t130 t131 t132 t133 t134 t135 t136 t137 t138 t139 t140 t141 t142 t143 t144 : Value) (dfs : List Deferred) (hlt2 : k < 60)
    (HGS : Hid (x2.heap[gs]? = some (.cells (stCells x).toArray 66 (0, 0)))) (HG2 : Hid (x2.heap[gr]? = some (.cells (recCells { S.rec0 tt with kind := 0 }).toArray 32 (0, 0)))) (HI2 : Hid (HistIs w x2 g4 g5 g6 (.slice a3 S.L.length c3) tv S K))
    (HNR : Hid (gr ∉ hblocks g4 g5 g6 (.slice a3 S.L.length c3) tv K ∧ w.heap.size ≤ gr)) (hne1 : gs ≠ gr) (hwk : IntKind.i64.wrap ((k : Int) + 1) = ((k + 1 : Nat) : Int)) (a0 : Act) (ha0 : a0 = { tmps := #[t0, t1, t2, t3, t4, t5, t6, .int .i64 (k : Int), .pointer (some ⟨gs, 0, none⟩), t9, t10, .pointer (some ⟨gr, 0, none⟩), t12, t13, t14, t15, t16, t17, t18, t19, t20, t21, t22, t23, t24, t25, t26, t27, t28, t29, t30, t31, t32, t33, t34, t35, t36, t37, t38, t39, t40, t41, t42, t43, t44, t45, t46, t47, t48, t49, t50, t51, t52, t53, t54, t55, t56, t57, t58, t59, t60, t61, t62, t63, t64, t65, t66, t67, t68, t69, t70, t71, t72, t73, t74, t75, t76, t77, t78, t79, t80, t81, t82, t83, t84, t85, t86, t87, t88, t89, t90, t91, t92, t93, t94, t95, t96, t97, t98, t99, t100, t101, t102, t103, t104, t105, t106, t107, t108, t109, t110, t111, t112, t113, t114, t115, t116, t117, t118, t119, t120, t121, t122, t123, t124, t125, t126, t127, t128, t129, t130, t131, t132, t133, t134, t135, t136, t137, t138, t139, t140, t141, t142, t143, t144], defers := dfs }) (aa : Act) (haa : aa = { tmps := #[t0, t1, t2, t3, t4, t5, t6, .int .i64 (k : Int), .pointer (some ⟨gs, 0, none⟩), t9, t10, .pointer (some ⟨gr, 0, none⟩), t12, t13, t14, t15, t16, t17, t18, t19, t20, t21, t22, t23, t24, t25, t26, t27, t28, t29, t30, t31, t32, t33, t34, t35, t36, t37, t38, t39, t40, t41, t42, t43, t44, t45, t46, t47, t48, t49, t50, t51, t52, t53, t54, t55, t56, t57, t58, t59, t60, t61, t62, t63, t64, t65, t66, t67, t68, t69, t70, t71, t72, t73, t74, t75, t76, t77, t78, t79, t80, t81, t82, t83, t84, t85, t86, t87, t88, t89, t90, t91, t92, t93, t94, t95, t96, t97, t98, t99, t100, t101, t102, t103, t104, t105, t106, t107, t108, t109, t110, t111, t112, t113, t114, t115, t116, t117, t118, t119, t120, t121, t122, t123, t124, t125, t126, t127, t128, t129, t130, t131, t132, t133, t134, t135, t136, t137, t138, t139, t140, t141, t142, t143, t144], defers := dfs }) (ops : Array Oper) (hops : ops = ops12.1) :
    (Code.region 12 ops true).wp Try.prog (fun e a' W => e = .normal ∧ ∃ g1 g2, (HistIs w W g4 g5 g6 (.slice a3 S.L.length c3) tv S ((g1, .cells #[byteOf k] 5 (0, 0)) :: (g2, .cells #[byteOf (k + 1)] 5 (0, 0)) :: K) ∧ W.heap[gr]? = some (.cells (recCells { S.rec0 tt with kind := 2, page := bits .and .i64 x.page 3, off := bits .and .i64 x.off 7, sb := oneSv g1, sa := oneSv g2 }).toArray 32 (0, 0))) ∧ a' = ((((((((((((((((((a0.put (some 41) (.pointer (some ⟨gs, 2, none⟩))).put (some 42) (.int .i64 x.page)).put (some 43) (.int .i64 (bits .and .i64 x.page 3))).put (some 44) (.pointer (some ⟨gs, 3, none⟩))).put (some 45) (.int .i64 x.off)).put (some 46) (.int .i64 (bits .and .i64 x.off 7))).put (some 47) (.int .i64 (k : Int))).put (some 48) (byteOf k)).put (some 49) (.slice (some ⟨g1, 0, none⟩) 1 1)).put (some 50) (.int .i64 (k : Int))).put (some 51) (.int .i64 ((k + 1 : Nat) : Int))).put (some 52) (byteOf (k + 1))).put (some 53) (.slice (some ⟨g2, 0, none⟩) 1 1)).put (some 54) (.pointer (some ⟨gr, 0, none⟩))).put (some 55) (.pointer (some ⟨gr, 4, none⟩))).put (some 56) (.pointer (some ⟨gr, 5, none⟩))).put (some 57) (.pointer (some ⟨gr, 6, none⟩))).put (some 58) (.pointer (some ⟨gr, 7, none⟩)))) aa x2 := by
  rw [hops, haa]
  clear hops haa
  unfold ops12
  dsimp only
  refine wp_region_held_drew (S := fun w' => w'.heap[gs]? = some (.cells (stCells x).toArray 66 (0, 0))) (by kernel_rfl) HGS.out (fun hH' => ?_)
  refine take_to 0 41 (.pointer (some ⟨gs, 2, none⟩)) rfl (by kernel_rfl) (by kernel_rfl) (by kernel_rfl) (fun _ _ _ h => (by cases h.1)) rfl (by rfl) (fun w hw => by kernel_rfl) hH' ?_
  simp only [Act.put, List.setIfInBounds_toArray, List.set_cons_zero, List.set_cons_succ]
  refine take_to 1 42 (.int .i64 x.page) rfl (by kernel_rfl) (by kernel_rfl) (by kernel_rfl) (fun _ _ _ h => (by cases h.1)) rfl (by rfl) (fun w hw => op_load _ _ 3 (.tmp 41) rfl (.pointer (some ⟨gs, 2, none⟩)) _ rfl (run_loadAny w gs 2 3 _ Try.isAgg3 (by rw [cell_of_row _ _ _ _ _ _ hw]; rfl))) hH' ?_
  simp only [Act.put, List.setIfInBounds_toArray, List.set_cons_zero, List.set_cons_succ]
  refine take_to 2 43 (.int .i64 (bits .and .i64 x.page 3)) rfl (by kernel_rfl) (by kernel_rfl) (by kernel_rfl) (fun _ _ _ h => (by cases h.1)) rfl (by rfl) (fun w hw => op_and3 _ _ (.tmp 42) (.const (.int .i64 3)) 3 rfl _ _ rfl rfl) hH' ?_
  simp only [Act.put, List.setIfInBounds_toArray, List.set_cons_zero, List.set_cons_succ]
  refine take_to 3 44 (.pointer (some ⟨gs, 3, none⟩)) rfl (by kernel_rfl) (by kernel_rfl) (by kernel_rfl) (fun _ _ _ h => (by cases h.1)) rfl (by rfl) (fun w hw => by kernel_rfl) hH' ?_
  simp only [Act.put, List.setIfInBounds_toArray, List.set_cons_zero, List.set_cons_succ]
  refine take_to 4 45 (.int .i64 x.off) rfl (by kernel_rfl) (by kernel_rfl) (by kernel_rfl) (fun _ _ _ h => (by cases h.1)) rfl (by rfl) (fun w hw => op_load _ _ 3 (.tmp 44) rfl (.pointer (some ⟨gs, 3, none⟩)) _ rfl (run_loadAny w gs 3 3 _ Try.isAgg3 (by rw [cell_of_row _ _ _ _ _ _ hw]; rfl))) hH' ?_
  simp only [Act.put, List.setIfInBounds_toArray, List.set_cons_zero, List.set_cons_succ]
  refine take_to 5 46 (.int .i64 (bits .and .i64 x.off 7)) rfl (by kernel_rfl) (by kernel_rfl) (by kernel_rfl) (fun _ _ _ h => (by cases h.1)) rfl (by rfl) (fun w hw => op_and3 _ _ (.tmp 45) (.const (.int .i64 7)) 3 rfl _ _ rfl rfl) hH' ?_
  simp only [Act.put, List.setIfInBounds_toArray, List.set_cons_zero, List.set_cons_succ]
  refine take_to 6 47 (.int .i64 (k : Int)) rfl (by kernel_rfl) (by kernel_rfl) (by kernel_rfl) (fun _ _ _ h => (by cases h.1)) rfl (by rfl) (fun w hw => by rfl) hH' ?_
  simp only [Act.put, List.setIfInBounds_toArray, List.set_cons_zero, List.set_cons_succ]
  refine take_to 7 48 (byteOf k) rfl (by kernel_rfl) (by kernel_rfl) (by kernel_rfl) (fun _ _ _ h => (by cases h.1)) rfl (by rfl) (fun w hw => op_conv _ _ 3 5 (.tmp 47) rfl _ _ rfl (conv8 k (by omega) w)) hH' ?_
  simp only [Act.put, List.setIfInBounds_toArray, List.set_cons_zero, List.set_cons_succ]
  refine take_to 9 50 (.int .i64 (k : Int)) rfl (by kernel_rfl) (by kernel_rfl) (by kernel_rfl) (fun _ _ _ h => (by cases h.1)) rfl (by rfl) (fun w hw => by rfl) hH' ?_
  simp only [Act.put, List.setIfInBounds_toArray, List.set_cons_zero, List.set_cons_succ]
  refine take_to 10 51 (.int .i64 ((k + 1 : Nat) : Int)) rfl (by kernel_rfl) (by kernel_rfl) (by kernel_rfl) (fun _ _ _ h => (by cases h.1)) rfl (by rfl) (fun w hw => op_add3 _ _ (.tmp 50) (.const (.int .i64 1)) 3 rfl _ _ rfl rfl _ hwk) hH' ?_
  simp only [Act.put, List.setIfInBounds_toArray, List.set_cons_zero, List.set_cons_succ]
  refine take_to 11 52 (byteOf (k + 1)) rfl (by kernel_rfl) (by kernel_rfl) (by kernel_rfl) (fun _ _ _ h => (by cases h.1)) rfl (by rfl) (fun w hw => op_conv _ _ 3 5 (.tmp 51) rfl _ _ rfl (conv8 (k + 1) (by omega) w)) hH' ?_
  simp only [Act.put, List.setIfInBounds_toArray, List.set_cons_zero, List.set_cons_succ]
  refine take_to 13 54 (.pointer (some ⟨gr, 0, none⟩)) rfl (by kernel_rfl) (by kernel_rfl) (by kernel_rfl) (fun _ _ _ h => (by cases h.1)) rfl (by rfl) (fun w hw => by kernel_rfl) hH' ?_
  simp only [Act.put, List.setIfInBounds_toArray, List.set_cons_zero, List.set_cons_succ]
  have HI0 := HI2.out.stayD (w' := x2.drew) (below_drewN _ _ 1)
  have HG0 : x2.drew.heap[gr]? = some (.cells (recCells { S.rec0 tt with kind := 0 }).toArray 32 (0, 0)) := HG2.out
  generalize x2.drew = W0 at hH' HI0 HG0 ⊢
  refine wpAnyH_all (rs := [8, 12, 14]) (by kernel_rfl) (by simp) ?_
  intro n hn
  rcases (by simpa using hn : n = 8 ∨ n = 12 ∨ n = 14) with rfl | rfl | rfl
  · have HS1 : (W0.alloc (.cells #[byteOf k] 5)).heap[gs]? = some (.cells (stCells x).toArray 66 (0, 0)) := (Below.heap_alloc _ _ _ (Array.getElem?_eq_some_iff.1 hH').1).trans hH'
    refine op_to 49 (.slice (some ⟨W0.heap.size, 0, none⟩) 1 1) (W0.alloc (.cells #[byteOf k] 5)) rfl rfl (by rfl) (by rw [buildSlice_op _ _ 30 1 0 (.tmp 48) rfl _ rfl]; exact buildByte _ _) ⟨HS1, ?_⟩
    simp only [Act.put, List.setIfInBounds_toArray, List.set_cons_zero, List.set_cons_succ]
    have HI1 := HI0.addKeep ((Below.refl _ _).alloc (Nat.le_refl _) _) W0.heap.size (.cells #[byteOf k] 5) (Nat.le_refl _) (heap_alloc_new W0 _)
    have HG1 : (W0.alloc (.cells #[byteOf k] 5)).heap[gr]? = _ := (Below.heap_alloc _ _ _ (Array.getElem?_eq_some_iff.1 HG0).1).trans HG0
    have hneA : gr ≠ W0.heap.size := Nat.ne_of_lt (Array.getElem?_eq_some_iff.1 HG0).1
    generalize W0.alloc (.cells #[byteOf k] 5) = W1 at HS1 HI1 HG1 ⊢
    generalize W0.heap.size = gA at HI1 hneA ⊢
    refine wpAnyH_all (rs := [12, 14]) (by kernel_rfl) (by simp) ?_
    intro n hn
    rcases (by simpa using hn : n = 12 ∨ n = 14) with rfl | rfl
    · have HS2 : (W1.alloc (.cells #[byteOf (k + 1)] 5)).heap[gs]? = some (.cells (stCells x).toArray 66 (0, 0)) := (Below.heap_alloc _ _ _ (Array.getElem?_eq_some_iff.1 HS1).1).trans HS1
      refine op_to 53 (.slice (some ⟨W1.heap.size, 0, none⟩) 1 1) (W1.alloc (.cells #[byteOf (k + 1)] 5)) rfl rfl (by rfl) (by rw [buildSlice_op _ _ 30 1 0 (.tmp 52) rfl _ rfl]; exact buildByte _ _) ⟨HS2, ?_⟩
      simp only [Act.put, List.setIfInBounds_toArray, List.set_cons_zero, List.set_cons_succ]
      have HI2 := HI1.addKeep ((Below.refl _ _).alloc (Nat.le_refl _) _) W1.heap.size (.cells #[byteOf (k + 1)] 5) (Nat.le_refl _) (heap_alloc_new W1 _)
      have HG2 : (W1.alloc (.cells #[byteOf (k + 1)] 5)).heap[gr]? = _ := (Below.heap_alloc _ _ _ (Array.getElem?_eq_some_iff.1 HG1).1).trans HG1
      have hneB : gr ≠ W1.heap.size := Nat.ne_of_lt (Array.getElem?_eq_some_iff.1 HG1).1
      generalize W1.alloc (.cells #[byteOf (k + 1)] 5) = W2 at HS2 HI2 HG2 ⊢
      generalize W1.heap.size = gB at HI2 hneB ⊢
      have HS3 : (W2.setCell ⟨gr, 0, none⟩ (.int .i64 2)).heap[gs]? = some (.cells (stCells x).toArray 66 (0, 0)) := (heap_setCell_other W2 _ gs _ (by exact hne1)).trans HS2
      refine step_store_to 14 (W2.setCell ⟨gr, 0, none⟩ (.int .i64 2)) rfl (by kernel_rfl) rfl (by rfl) 3 (.tmp 54) (.const (.int .i64 2)) rfl (.pointer (some ⟨gr, 0, none⟩)) (.int .i64 2) rfl rfl (run_store3 W2 gr 0 _ _ (by rw [cell_of_row _ _ _ _ _ _ HG2]; rfl) (frozen_of_row _ _ _ _ _ HG2)) HS3 ?_
      have HI3 := HI2.setOther gr 0 (.int .i64 2) (hb_cons (hb_cons HNR.out.1 hneA) hneB) HNR.out.2
      have HG3 : (W2.setCell ⟨gr, 0, none⟩ (.int .i64 2)).heap[gr]? = some (.cells (recCells { S.rec0 tt with kind := 2 }).toArray 32 (0, 0)) := (heap_setCell_same W2 gr 0 _ 32 _ HG2).trans rfl
      generalize W2.setCell ⟨gr, 0, none⟩ (.int .i64 2) = W3 at HS3 HI3 HG3 ⊢
      refine take_to 15 55 (.pointer (some ⟨gr, 4, none⟩)) rfl (by kernel_rfl) (by kernel_rfl) (by kernel_rfl) (fun _ _ _ h => (by cases h.1)) rfl (by rfl) (fun w hw => by kernel_rfl) HS3 ?_
      simp only [Act.put, List.setIfInBounds_toArray, List.set_cons_zero, List.set_cons_succ]
      have HS4 : (W3.setCell ⟨gr, 4, none⟩ (.int .i64 (bits .and .i64 x.page 3))).heap[gs]? = some (.cells (stCells x).toArray 66 (0, 0)) := (heap_setCell_other W3 _ gs _ (by exact hne1)).trans HS3
      refine step_store_to 16 (W3.setCell ⟨gr, 4, none⟩ (.int .i64 (bits .and .i64 x.page 3))) rfl (by kernel_rfl) rfl (by rfl) 3 (.tmp 55) (.tmp 43) rfl (.pointer (some ⟨gr, 4, none⟩)) (.int .i64 (bits .and .i64 x.page 3)) rfl rfl (run_store3 W3 gr 4 _ _ (by rw [cell_of_row _ _ _ _ _ _ HG3]; rfl) (frozen_of_row _ _ _ _ _ HG3)) HS4 ?_
      have HI4 := HI3.setOther gr 4 (.int .i64 (bits .and .i64 x.page 3)) (hb_cons (hb_cons HNR.out.1 hneA) hneB) HNR.out.2
      have HG4 : (W3.setCell ⟨gr, 4, none⟩ (.int .i64 (bits .and .i64 x.page 3))).heap[gr]? = some (.cells (recCells { S.rec0 tt with kind := 2, page := bits .and .i64 x.page 3 }).toArray 32 (0, 0)) := (heap_setCell_same W3 gr 4 _ 32 _ HG3).trans rfl
      generalize W3.setCell ⟨gr, 4, none⟩ (.int .i64 (bits .and .i64 x.page 3)) = W4 at HS4 HI4 HG4 ⊢
      refine take_to 17 56 (.pointer (some ⟨gr, 5, none⟩)) rfl (by kernel_rfl) (by kernel_rfl) (by kernel_rfl) (fun _ _ _ h => (by cases h.1)) rfl (by rfl) (fun w hw => by kernel_rfl) HS4 ?_
      simp only [Act.put, List.setIfInBounds_toArray, List.set_cons_zero, List.set_cons_succ]
      have HS5 : (W4.setCell ⟨gr, 5, none⟩ (.int .i64 (bits .and .i64 x.off 7))).heap[gs]? = some (.cells (stCells x).toArray 66 (0, 0)) := (heap_setCell_other W4 _ gs _ (by exact hne1)).trans HS4
      refine step_store_to 18 (W4.setCell ⟨gr, 5, none⟩ (.int .i64 (bits .and .i64 x.off 7))) rfl (by kernel_rfl) rfl (by rfl) 3 (.tmp 56) (.tmp 46) rfl (.pointer (some ⟨gr, 5, none⟩)) (.int .i64 (bits .and .i64 x.off 7)) rfl rfl (run_store3 W4 gr 5 _ _ (by rw [cell_of_row _ _ _ _ _ _ HG4]; rfl) (frozen_of_row _ _ _ _ _ HG4)) HS5 ?_
      have HI5 := HI4.setOther gr 5 (.int .i64 (bits .and .i64 x.off 7)) (hb_cons (hb_cons HNR.out.1 hneA) hneB) HNR.out.2
      have HG5 : (W4.setCell ⟨gr, 5, none⟩ (.int .i64 (bits .and .i64 x.off 7))).heap[gr]? = some (.cells (recCells { S.rec0 tt with kind := 2, page := bits .and .i64 x.page 3, off := bits .and .i64 x.off 7 }).toArray 32 (0, 0)) := (heap_setCell_same W4 gr 5 _ 32 _ HG4).trans rfl
      generalize W4.setCell ⟨gr, 5, none⟩ (.int .i64 (bits .and .i64 x.off 7)) = W5 at HS5 HI5 HG5 ⊢
      refine take_to 19 57 (.pointer (some ⟨gr, 6, none⟩)) rfl (by kernel_rfl) (by kernel_rfl) (by kernel_rfl) (fun _ _ _ h => (by cases h.1)) rfl (by rfl) (fun w hw => by kernel_rfl) HS5 ?_
      simp only [Act.put, List.setIfInBounds_toArray, List.set_cons_zero, List.set_cons_succ]
      have HS6 : (W5.setCell ⟨gr, 6, none⟩ (.slice (some ⟨gA, 0, none⟩) 1 1)).heap[gs]? = some (.cells (stCells x).toArray 66 (0, 0)) := (heap_setCell_other W5 _ gs _ (by exact hne1)).trans HS5
      refine step_store_to 20 (W5.setCell ⟨gr, 6, none⟩ (.slice (some ⟨gA, 0, none⟩) 1 1)) rfl (by kernel_rfl) rfl (by rfl) 30 (.tmp 57) (.tmp 49) rfl (.pointer (some ⟨gr, 6, none⟩)) (.slice (some ⟨gA, 0, none⟩) 1 1) rfl rfl (run_store30 W5 gr 6 _ _ (by rw [cell_of_row _ _ _ _ _ _ HG5]; rfl) (frozen_of_row _ _ _ _ _ HG5)) HS6 ?_
      have HI6 := HI5.setOther gr 6 (.slice (some ⟨gA, 0, none⟩) 1 1) (hb_cons (hb_cons HNR.out.1 hneA) hneB) HNR.out.2
      have HG6 : (W5.setCell ⟨gr, 6, none⟩ (.slice (some ⟨gA, 0, none⟩) 1 1)).heap[gr]? = some (.cells (recCells { S.rec0 tt with kind := 2, page := bits .and .i64 x.page 3, off := bits .and .i64 x.off 7, sb := oneSv gA }).toArray 32 (0, 0)) := (heap_setCell_same W5 gr 6 _ 32 _ HG5).trans rfl
      generalize W5.setCell ⟨gr, 6, none⟩ (.slice (some ⟨gA, 0, none⟩) 1 1) = W6 at HS6 HI6 HG6 ⊢
      refine take_to 21 58 (.pointer (some ⟨gr, 7, none⟩)) rfl (by kernel_rfl) (by kernel_rfl) (by kernel_rfl) (fun _ _ _ h => (by cases h.1)) rfl (by rfl) (fun w hw => by kernel_rfl) HS6 ?_
      simp only [Act.put, List.setIfInBounds_toArray, List.set_cons_zero, List.set_cons_succ]
      have HS7 : (W6.setCell ⟨gr, 7, none⟩ (.slice (some ⟨gB, 0, none⟩) 1 1)).heap[gs]? = some (.cells (stCells x).toArray 66 (0, 0)) := (heap_setCell_other W6 _ gs _ (by exact hne1)).trans HS6
      refine step_store_to 22 (W6.setCell ⟨gr, 7, none⟩ (.slice (some ⟨gB, 0, none⟩) 1 1)) rfl (by kernel_rfl) rfl (by rfl) 30 (.tmp 58) (.tmp 53) rfl (.pointer (some ⟨gr, 7, none⟩)) (.slice (some ⟨gB, 0, none⟩) 1 1) rfl rfl (run_store30 W6 gr 7 _ _ (by rw [cell_of_row _ _ _ _ _ _ HG6]; rfl) (frozen_of_row _ _ _ _ _ HG6)) HS7 ?_
      have HI7 := HI6.setOther gr 7 (.slice (some ⟨gB, 0, none⟩) 1 1) (hb_cons (hb_cons HNR.out.1 hneA) hneB) HNR.out.2
      have HG7 : (W6.setCell ⟨gr, 7, none⟩ (.slice (some ⟨gB, 0, none⟩) 1 1)).heap[gr]? = some (.cells (recCells { S.rec0 tt with kind := 2, page := bits .and .i64 x.page 3, off := bits .and .i64 x.off 7, sb := oneSv gA, sa := oneSv gB }).toArray 32 (0, 0)) := (heap_setCell_same W6 gr 7 _ 32 _ HG6).trans rfl
      generalize W6.setCell ⟨gr, 7, none⟩ (.slice (some ⟨gB, 0, none⟩) 1 1) = W7 at HS7 HI7 HG7 ⊢
      refine wpAnyH_done (by kernel_rfl) ?_ _
      exact ⟨rfl, gA, gB, ⟨(HI7).swapK, HG7⟩, by rw [ha0]; kernel_rfl⟩
    · have HS8 : (W1.setCell ⟨gr, 0, none⟩ (.int .i64 2)).heap[gs]? = some (.cells (stCells x).toArray 66 (0, 0)) := (heap_setCell_other W1 _ gs _ (by exact hne1)).trans HS1
      refine op_store_to (W1.setCell ⟨gr, 0, none⟩ (.int .i64 2)) rfl rfl (by rfl) 3 (.tmp 54) (.const (.int .i64 2)) rfl (.pointer (some ⟨gr, 0, none⟩)) (.int .i64 2) rfl rfl (run_store3 W1 gr 0 _ _ (by rw [cell_of_row _ _ _ _ _ _ HG1]; rfl) (frozen_of_row _ _ _ _ _ HG1)) ⟨HS8, ?_⟩
      have HI8 := HI1.setOther gr 0 (.int .i64 2) (hb_cons HNR.out.1 hneA) HNR.out.2
      have HG8 : (W1.setCell ⟨gr, 0, none⟩ (.int .i64 2)).heap[gr]? = some (.cells (recCells { S.rec0 tt with kind := 2 }).toArray 32 (0, 0)) := (heap_setCell_same W1 gr 0 _ 32 _ HG1).trans rfl
      generalize W1.setCell ⟨gr, 0, none⟩ (.int .i64 2) = W8 at HS8 HI8 HG8 ⊢
      refine take_to 15 55 (.pointer (some ⟨gr, 4, none⟩)) rfl (by kernel_rfl) (by kernel_rfl) (by kernel_rfl) (fun _ _ _ h => (by cases h.1)) rfl (by rfl) (fun w hw => by kernel_rfl) HS8 ?_
      simp only [Act.put, List.setIfInBounds_toArray, List.set_cons_zero, List.set_cons_succ]
      refine wpAnyH_all (rs := [12, 16]) (by kernel_rfl) (by simp) ?_
      intro n hn
      rcases (by simpa using hn : n = 12 ∨ n = 16) with rfl | rfl
      · have HS9 : (W8.alloc (.cells #[byteOf (k + 1)] 5)).heap[gs]? = some (.cells (stCells x).toArray 66 (0, 0)) := (Below.heap_alloc _ _ _ (Array.getElem?_eq_some_iff.1 HS8).1).trans HS8
        refine op_to 53 (.slice (some ⟨W8.heap.size, 0, none⟩) 1 1) (W8.alloc (.cells #[byteOf (k + 1)] 5)) rfl rfl (by rfl) (by rw [buildSlice_op _ _ 30 1 0 (.tmp 52) rfl _ rfl]; exact buildByte _ _) ⟨HS9, ?_⟩
        simp only [Act.put, List.setIfInBounds_toArray, List.set_cons_zero, List.set_cons_succ]
        have HI9 := HI8.addKeep ((Below.refl _ _).alloc (Nat.le_refl _) _) W8.heap.size (.cells #[byteOf (k + 1)] 5) (Nat.le_refl _) (heap_alloc_new W8 _)
        have HG9 : (W8.alloc (.cells #[byteOf (k + 1)] 5)).heap[gr]? = _ := (Below.heap_alloc _ _ _ (Array.getElem?_eq_some_iff.1 HG8).1).trans HG8
        have hneB : gr ≠ W8.heap.size := Nat.ne_of_lt (Array.getElem?_eq_some_iff.1 HG8).1
        generalize W8.alloc (.cells #[byteOf (k + 1)] 5) = W9 at HS9 HI9 HG9 ⊢
        generalize W8.heap.size = gB at HI9 hneB ⊢
        have HS10 : (W9.setCell ⟨gr, 4, none⟩ (.int .i64 (bits .and .i64 x.page 3))).heap[gs]? = some (.cells (stCells x).toArray 66 (0, 0)) := (heap_setCell_other W9 _ gs _ (by exact hne1)).trans HS9
        refine step_store_to 16 (W9.setCell ⟨gr, 4, none⟩ (.int .i64 (bits .and .i64 x.page 3))) rfl (by kernel_rfl) rfl (by rfl) 3 (.tmp 55) (.tmp 43) rfl (.pointer (some ⟨gr, 4, none⟩)) (.int .i64 (bits .and .i64 x.page 3)) rfl rfl (run_store3 W9 gr 4 _ _ (by rw [cell_of_row _ _ _ _ _ _ HG9]; rfl) (frozen_of_row _ _ _ _ _ HG9)) HS10 ?_
        have HI10 := HI9.setOther gr 4 (.int .i64 (bits .and .i64 x.page 3)) (hb_cons (hb_cons HNR.out.1 hneA) hneB) HNR.out.2
        have HG10 : (W9.setCell ⟨gr, 4, none⟩ (.int .i64 (bits .and .i64 x.page 3))).heap[gr]? = some (.cells (recCells { S.rec0 tt with kind := 2, page := bits .and .i64 x.page 3 }).toArray 32 (0, 0)) := (heap_setCell_same W9 gr 4 _ 32 _ HG9).trans rfl
        generalize W9.setCell ⟨gr, 4, none⟩ (.int .i64 (bits .and .i64 x.page 3)) = W10 at HS10 HI10 HG10 ⊢
        refine take_to 17 56 (.pointer (some ⟨gr, 5, none⟩)) rfl (by kernel_rfl) (by kernel_rfl) (by kernel_rfl) (fun _ _ _ h => (by cases h.1)) rfl (by rfl) (fun w hw => by kernel_rfl) HS10 ?_
        simp only [Act.put, List.setIfInBounds_toArray, List.set_cons_zero, List.set_cons_succ]
        have HS11 : (W10.setCell ⟨gr, 5, none⟩ (.int .i64 (bits .and .i64 x.off 7))).heap[gs]? = some (.cells (stCells x).toArray 66 (0, 0)) := (heap_setCell_other W10 _ gs _ (by exact hne1)).trans HS10
        refine step_store_to 18 (W10.setCell ⟨gr, 5, none⟩ (.int .i64 (bits .and .i64 x.off 7))) rfl (by kernel_rfl) rfl (by rfl) 3 (.tmp 56) (.tmp 46) rfl (.pointer (some ⟨gr, 5, none⟩)) (.int .i64 (bits .and .i64 x.off 7)) rfl rfl (run_store3 W10 gr 5 _ _ (by rw [cell_of_row _ _ _ _ _ _ HG10]; rfl) (frozen_of_row _ _ _ _ _ HG10)) HS11 ?_
        have HI11 := HI10.setOther gr 5 (.int .i64 (bits .and .i64 x.off 7)) (hb_cons (hb_cons HNR.out.1 hneA) hneB) HNR.out.2
        have HG11 : (W10.setCell ⟨gr, 5, none⟩ (.int .i64 (bits .and .i64 x.off 7))).heap[gr]? = some (.cells (recCells { S.rec0 tt with kind := 2, page := bits .and .i64 x.page 3, off := bits .and .i64 x.off 7 }).toArray 32 (0, 0)) := (heap_setCell_same W10 gr 5 _ 32 _ HG10).trans rfl
        generalize W10.setCell ⟨gr, 5, none⟩ (.int .i64 (bits .and .i64 x.off 7)) = W11 at HS11 HI11 HG11 ⊢
        refine take_to 19 57 (.pointer (some ⟨gr, 6, none⟩)) rfl (by kernel_rfl) (by kernel_rfl) (by kernel_rfl) (fun _ _ _ h => (by cases h.1)) rfl (by rfl) (fun w hw => by kernel_rfl) HS11 ?_
        simp only [Act.put, List.setIfInBounds_toArray, List.set_cons_zero, List.set_cons_succ]
        have HS12 : (W11.setCell ⟨gr, 6, none⟩ (.slice (some ⟨gA, 0, none⟩) 1 1)).heap[gs]? = some (.cells (stCells x).toArray 66 (0, 0)) := (heap_setCell_other W11 _ gs _ (by exact hne1)).trans HS11
        refine step_store_to 20 (W11.setCell ⟨gr, 6, none⟩ (.slice (some ⟨gA, 0, none⟩) 1 1)) rfl (by kernel_rfl) rfl (by rfl) 30 (.tmp 57) (.tmp 49) rfl (.pointer (some ⟨gr, 6, none⟩)) (.slice (some ⟨gA, 0, none⟩) 1 1) rfl rfl (run_store30 W11 gr 6 _ _ (by rw [cell_of_row _ _ _ _ _ _ HG11]; rfl) (frozen_of_row _ _ _ _ _ HG11)) HS12 ?_
        have HI12 := HI11.setOther gr 6 (.slice (some ⟨gA, 0, none⟩) 1 1) (hb_cons (hb_cons HNR.out.1 hneA) hneB) HNR.out.2
        have HG12 : (W11.setCell ⟨gr, 6, none⟩ (.slice (some ⟨gA, 0, none⟩) 1 1)).heap[gr]? = some (.cells (recCells { S.rec0 tt with kind := 2, page := bits .and .i64 x.page 3, off := bits .and .i64 x.off 7, sb := oneSv gA }).toArray 32 (0, 0)) := (heap_setCell_same W11 gr 6 _ 32 _ HG11).trans rfl
        generalize W11.setCell ⟨gr, 6, none⟩ (.slice (some ⟨gA, 0, none⟩) 1 1) = W12 at HS12 HI12 HG12 ⊢
        refine take_to 21 58 (.pointer (some ⟨gr, 7, none⟩)) rfl (by kernel_rfl) (by kernel_rfl) (by kernel_rfl) (fun _ _ _ h => (by cases h.1)) rfl (by rfl) (fun w hw => by kernel_rfl) HS12 ?_
        simp only [Act.put, List.setIfInBounds_toArray, List.set_cons_zero, List.set_cons_succ]
        have HS13 : (W12.setCell ⟨gr, 7, none⟩ (.slice (some ⟨gB, 0, none⟩) 1 1)).heap[gs]? = some (.cells (stCells x).toArray 66 (0, 0)) := (heap_setCell_other W12 _ gs _ (by exact hne1)).trans HS12
        refine step_store_to 22 (W12.setCell ⟨gr, 7, none⟩ (.slice (some ⟨gB, 0, none⟩) 1 1)) rfl (by kernel_rfl) rfl (by rfl) 30 (.tmp 58) (.tmp 53) rfl (.pointer (some ⟨gr, 7, none⟩)) (.slice (some ⟨gB, 0, none⟩) 1 1) rfl rfl (run_store30 W12 gr 7 _ _ (by rw [cell_of_row _ _ _ _ _ _ HG12]; rfl) (frozen_of_row _ _ _ _ _ HG12)) HS13 ?_
        have HI13 := HI12.setOther gr 7 (.slice (some ⟨gB, 0, none⟩) 1 1) (hb_cons (hb_cons HNR.out.1 hneA) hneB) HNR.out.2
        have HG13 : (W12.setCell ⟨gr, 7, none⟩ (.slice (some ⟨gB, 0, none⟩) 1 1)).heap[gr]? = some (.cells (recCells { S.rec0 tt with kind := 2, page := bits .and .i64 x.page 3, off := bits .and .i64 x.off 7, sb := oneSv gA, sa := oneSv gB }).toArray 32 (0, 0)) := (heap_setCell_same W12 gr 7 _ 32 _ HG12).trans rfl
        generalize W12.setCell ⟨gr, 7, none⟩ (.slice (some ⟨gB, 0, none⟩) 1 1) = W13 at HS13 HI13 HG13 ⊢
        refine wpAnyH_done (by kernel_rfl) ?_ _
        exact ⟨rfl, gA, gB, ⟨(HI13).swapK, HG13⟩, by rw [ha0]; kernel_rfl⟩
      · have HS14 : (W8.setCell ⟨gr, 4, none⟩ (.int .i64 (bits .and .i64 x.page 3))).heap[gs]? = some (.cells (stCells x).toArray 66 (0, 0)) := (heap_setCell_other W8 _ gs _ (by exact hne1)).trans HS8
        refine op_store_to (W8.setCell ⟨gr, 4, none⟩ (.int .i64 (bits .and .i64 x.page 3))) rfl rfl (by rfl) 3 (.tmp 55) (.tmp 43) rfl (.pointer (some ⟨gr, 4, none⟩)) (.int .i64 (bits .and .i64 x.page 3)) rfl rfl (run_store3 W8 gr 4 _ _ (by rw [cell_of_row _ _ _ _ _ _ HG8]; rfl) (frozen_of_row _ _ _ _ _ HG8)) ⟨HS14, ?_⟩
        have HI14 := HI8.setOther gr 4 (.int .i64 (bits .and .i64 x.page 3)) (hb_cons HNR.out.1 hneA) HNR.out.2
        have HG14 : (W8.setCell ⟨gr, 4, none⟩ (.int .i64 (bits .and .i64 x.page 3))).heap[gr]? = some (.cells (recCells { S.rec0 tt with kind := 2, page := bits .and .i64 x.page 3 }).toArray 32 (0, 0)) := (heap_setCell_same W8 gr 4 _ 32 _ HG8).trans rfl
        generalize W8.setCell ⟨gr, 4, none⟩ (.int .i64 (bits .and .i64 x.page 3)) = W14 at HS14 HI14 HG14 ⊢
        refine take_to 17 56 (.pointer (some ⟨gr, 5, none⟩)) rfl (by kernel_rfl) (by kernel_rfl) (by kernel_rfl) (fun _ _ _ h => (by cases h.1)) rfl (by rfl) (fun w hw => by kernel_rfl) HS14 ?_
        simp only [Act.put, List.setIfInBounds_toArray, List.set_cons_zero, List.set_cons_succ]
        refine wpAnyH_all (rs := [12, 18]) (by kernel_rfl) (by simp) ?_
        intro n hn
        rcases (by simpa using hn : n = 12 ∨ n = 18) with rfl | rfl
        · have HS15 : (W14.alloc (.cells #[byteOf (k + 1)] 5)).heap[gs]? = some (.cells (stCells x).toArray 66 (0, 0)) := (Below.heap_alloc _ _ _ (Array.getElem?_eq_some_iff.1 HS14).1).trans HS14
          refine op_to 53 (.slice (some ⟨W14.heap.size, 0, none⟩) 1 1) (W14.alloc (.cells #[byteOf (k + 1)] 5)) rfl rfl (by rfl) (by rw [buildSlice_op _ _ 30 1 0 (.tmp 52) rfl _ rfl]; exact buildByte _ _) ⟨HS15, ?_⟩
          simp only [Act.put, List.setIfInBounds_toArray, List.set_cons_zero, List.set_cons_succ]
          have HI15 := HI14.addKeep ((Below.refl _ _).alloc (Nat.le_refl _) _) W14.heap.size (.cells #[byteOf (k + 1)] 5) (Nat.le_refl _) (heap_alloc_new W14 _)
          have HG15 : (W14.alloc (.cells #[byteOf (k + 1)] 5)).heap[gr]? = _ := (Below.heap_alloc _ _ _ (Array.getElem?_eq_some_iff.1 HG14).1).trans HG14
          have hneB : gr ≠ W14.heap.size := Nat.ne_of_lt (Array.getElem?_eq_some_iff.1 HG14).1
          generalize W14.alloc (.cells #[byteOf (k + 1)] 5) = W15 at HS15 HI15 HG15 ⊢
          generalize W14.heap.size = gB at HI15 hneB ⊢
          have HS16 : (W15.setCell ⟨gr, 5, none⟩ (.int .i64 (bits .and .i64 x.off 7))).heap[gs]? = some (.cells (stCells x).toArray 66 (0, 0)) := (heap_setCell_other W15 _ gs _ (by exact hne1)).trans HS15
          refine step_store_to 18 (W15.setCell ⟨gr, 5, none⟩ (.int .i64 (bits .and .i64 x.off 7))) rfl (by kernel_rfl) rfl (by rfl) 3 (.tmp 56) (.tmp 46) rfl (.pointer (some ⟨gr, 5, none⟩)) (.int .i64 (bits .and .i64 x.off 7)) rfl rfl (run_store3 W15 gr 5 _ _ (by rw [cell_of_row _ _ _ _ _ _ HG15]; rfl) (frozen_of_row _ _ _ _ _ HG15)) HS16 ?_
          have HI16 := HI15.setOther gr 5 (.int .i64 (bits .and .i64 x.off 7)) (hb_cons (hb_cons HNR.out.1 hneA) hneB) HNR.out.2
          have HG16 : (W15.setCell ⟨gr, 5, none⟩ (.int .i64 (bits .and .i64 x.off 7))).heap[gr]? = some (.cells (recCells { S.rec0 tt with kind := 2, page := bits .and .i64 x.page 3, off := bits .and .i64 x.off 7 }).toArray 32 (0, 0)) := (heap_setCell_same W15 gr 5 _ 32 _ HG15).trans rfl
          generalize W15.setCell ⟨gr, 5, none⟩ (.int .i64 (bits .and .i64 x.off 7)) = W16 at HS16 HI16 HG16 ⊢
          refine take_to 19 57 (.pointer (some ⟨gr, 6, none⟩)) rfl (by kernel_rfl) (by kernel_rfl) (by kernel_rfl) (fun _ _ _ h => (by cases h.1)) rfl (by rfl) (fun w hw => by kernel_rfl) HS16 ?_
          simp only [Act.put, List.setIfInBounds_toArray, List.set_cons_zero, List.set_cons_succ]
          have HS17 : (W16.setCell ⟨gr, 6, none⟩ (.slice (some ⟨gA, 0, none⟩) 1 1)).heap[gs]? = some (.cells (stCells x).toArray 66 (0, 0)) := (heap_setCell_other W16 _ gs _ (by exact hne1)).trans HS16
          refine step_store_to 20 (W16.setCell ⟨gr, 6, none⟩ (.slice (some ⟨gA, 0, none⟩) 1 1)) rfl (by kernel_rfl) rfl (by rfl) 30 (.tmp 57) (.tmp 49) rfl (.pointer (some ⟨gr, 6, none⟩)) (.slice (some ⟨gA, 0, none⟩) 1 1) rfl rfl (run_store30 W16 gr 6 _ _ (by rw [cell_of_row _ _ _ _ _ _ HG16]; rfl) (frozen_of_row _ _ _ _ _ HG16)) HS17 ?_
          have HI17 := HI16.setOther gr 6 (.slice (some ⟨gA, 0, none⟩) 1 1) (hb_cons (hb_cons HNR.out.1 hneA) hneB) HNR.out.2
          have HG17 : (W16.setCell ⟨gr, 6, none⟩ (.slice (some ⟨gA, 0, none⟩) 1 1)).heap[gr]? = some (.cells (recCells { S.rec0 tt with kind := 2, page := bits .and .i64 x.page 3, off := bits .and .i64 x.off 7, sb := oneSv gA }).toArray 32 (0, 0)) := (heap_setCell_same W16 gr 6 _ 32 _ HG16).trans rfl
          generalize W16.setCell ⟨gr, 6, none⟩ (.slice (some ⟨gA, 0, none⟩) 1 1) = W17 at HS17 HI17 HG17 ⊢
          refine take_to 21 58 (.pointer (some ⟨gr, 7, none⟩)) rfl (by kernel_rfl) (by kernel_rfl) (by kernel_rfl) (fun _ _ _ h => (by cases h.1)) rfl (by rfl) (fun w hw => by kernel_rfl) HS17 ?_
          simp only [Act.put, List.setIfInBounds_toArray, List.set_cons_zero, List.set_cons_succ]
          have HS18 : (W17.setCell ⟨gr, 7, none⟩ (.slice (some ⟨gB, 0, none⟩) 1 1)).heap[gs]? = some (.cells (stCells x).toArray 66 (0, 0)) := (heap_setCell_other W17 _ gs _ (by exact hne1)).trans HS17
          refine step_store_to 22 (W17.setCell ⟨gr, 7, none⟩ (.slice (some ⟨gB, 0, none⟩) 1 1)) rfl (by kernel_rfl) rfl (by rfl) 30 (.tmp 58) (.tmp 53) rfl (.pointer (some ⟨gr, 7, none⟩)) (.slice (some ⟨gB, 0, none⟩) 1 1) rfl rfl (run_store30 W17 gr 7 _ _ (by rw [cell_of_row _ _ _ _ _ _ HG17]; rfl) (frozen_of_row _ _ _ _ _ HG17)) HS18 ?_
          have HI18 := HI17.setOther gr 7 (.slice (some ⟨gB, 0, none⟩) 1 1) (hb_cons (hb_cons HNR.out.1 hneA) hneB) HNR.out.2
          have HG18 : (W17.setCell ⟨gr, 7, none⟩ (.slice (some ⟨gB, 0, none⟩) 1 1)).heap[gr]? = some (.cells (recCells { S.rec0 tt with kind := 2, page := bits .and .i64 x.page 3, off := bits .and .i64 x.off 7, sb := oneSv gA, sa := oneSv gB }).toArray 32 (0, 0)) := (heap_setCell_same W17 gr 7 _ 32 _ HG17).trans rfl
          generalize W17.setCell ⟨gr, 7, none⟩ (.slice (some ⟨gB, 0, none⟩) 1 1) = W18 at HS18 HI18 HG18 ⊢
          refine wpAnyH_done (by kernel_rfl) ?_ _
          exact ⟨rfl, gA, gB, ⟨(HI18).swapK, HG18⟩, by rw [ha0]; kernel_rfl⟩
        · have HS19 : (W14.setCell ⟨gr, 5, none⟩ (.int .i64 (bits .and .i64 x.off 7))).heap[gs]? = some (.cells (stCells x).toArray 66 (0, 0)) := (heap_setCell_other W14 _ gs _ (by exact hne1)).trans HS14
          refine op_store_to (W14.setCell ⟨gr, 5, none⟩ (.int .i64 (bits .and .i64 x.off 7))) rfl rfl (by rfl) 3 (.tmp 56) (.tmp 46) rfl (.pointer (some ⟨gr, 5, none⟩)) (.int .i64 (bits .and .i64 x.off 7)) rfl rfl (run_store3 W14 gr 5 _ _ (by rw [cell_of_row _ _ _ _ _ _ HG14]; rfl) (frozen_of_row _ _ _ _ _ HG14)) ⟨HS19, ?_⟩
          have HI19 := HI14.setOther gr 5 (.int .i64 (bits .and .i64 x.off 7)) (hb_cons HNR.out.1 hneA) HNR.out.2
          have HG19 : (W14.setCell ⟨gr, 5, none⟩ (.int .i64 (bits .and .i64 x.off 7))).heap[gr]? = some (.cells (recCells { S.rec0 tt with kind := 2, page := bits .and .i64 x.page 3, off := bits .and .i64 x.off 7 }).toArray 32 (0, 0)) := (heap_setCell_same W14 gr 5 _ 32 _ HG14).trans rfl
          generalize W14.setCell ⟨gr, 5, none⟩ (.int .i64 (bits .and .i64 x.off 7)) = W19 at HS19 HI19 HG19 ⊢
          refine take_to 19 57 (.pointer (some ⟨gr, 6, none⟩)) rfl (by kernel_rfl) (by kernel_rfl) (by kernel_rfl) (fun _ _ _ h => (by cases h.1)) rfl (by rfl) (fun w hw => by kernel_rfl) HS19 ?_
          simp only [Act.put, List.setIfInBounds_toArray, List.set_cons_zero, List.set_cons_succ]
          refine wpAnyH_all (rs := [12, 20]) (by kernel_rfl) (by simp) ?_
          intro n hn
          rcases (by simpa using hn : n = 12 ∨ n = 20) with rfl | rfl
          · have HS20 : (W19.alloc (.cells #[byteOf (k + 1)] 5)).heap[gs]? = some (.cells (stCells x).toArray 66 (0, 0)) := (Below.heap_alloc _ _ _ (Array.getElem?_eq_some_iff.1 HS19).1).trans HS19
            refine op_to 53 (.slice (some ⟨W19.heap.size, 0, none⟩) 1 1) (W19.alloc (.cells #[byteOf (k + 1)] 5)) rfl rfl (by rfl) (by rw [buildSlice_op _ _ 30 1 0 (.tmp 52) rfl _ rfl]; exact buildByte _ _) ⟨HS20, ?_⟩
            simp only [Act.put, List.setIfInBounds_toArray, List.set_cons_zero, List.set_cons_succ]
            have HI20 := HI19.addKeep ((Below.refl _ _).alloc (Nat.le_refl _) _) W19.heap.size (.cells #[byteOf (k + 1)] 5) (Nat.le_refl _) (heap_alloc_new W19 _)
            have HG20 : (W19.alloc (.cells #[byteOf (k + 1)] 5)).heap[gr]? = _ := (Below.heap_alloc _ _ _ (Array.getElem?_eq_some_iff.1 HG19).1).trans HG19
            have hneB : gr ≠ W19.heap.size := Nat.ne_of_lt (Array.getElem?_eq_some_iff.1 HG19).1
            generalize W19.alloc (.cells #[byteOf (k + 1)] 5) = W20 at HS20 HI20 HG20 ⊢
            generalize W19.heap.size = gB at HI20 hneB ⊢
            have HS21 : (W20.setCell ⟨gr, 6, none⟩ (.slice (some ⟨gA, 0, none⟩) 1 1)).heap[gs]? = some (.cells (stCells x).toArray 66 (0, 0)) := (heap_setCell_other W20 _ gs _ (by exact hne1)).trans HS20
            refine step_store_to 20 (W20.setCell ⟨gr, 6, none⟩ (.slice (some ⟨gA, 0, none⟩) 1 1)) rfl (by kernel_rfl) rfl (by rfl) 30 (.tmp 57) (.tmp 49) rfl (.pointer (some ⟨gr, 6, none⟩)) (.slice (some ⟨gA, 0, none⟩) 1 1) rfl rfl (run_store30 W20 gr 6 _ _ (by rw [cell_of_row _ _ _ _ _ _ HG20]; rfl) (frozen_of_row _ _ _ _ _ HG20)) HS21 ?_
            have HI21 := HI20.setOther gr 6 (.slice (some ⟨gA, 0, none⟩) 1 1) (hb_cons (hb_cons HNR.out.1 hneA) hneB) HNR.out.2
            have HG21 : (W20.setCell ⟨gr, 6, none⟩ (.slice (some ⟨gA, 0, none⟩) 1 1)).heap[gr]? = some (.cells (recCells { S.rec0 tt with kind := 2, page := bits .and .i64 x.page 3, off := bits .and .i64 x.off 7, sb := oneSv gA }).toArray 32 (0, 0)) := (heap_setCell_same W20 gr 6 _ 32 _ HG20).trans rfl
            generalize W20.setCell ⟨gr, 6, none⟩ (.slice (some ⟨gA, 0, none⟩) 1 1) = W21 at HS21 HI21 HG21 ⊢
            refine take_to 21 58 (.pointer (some ⟨gr, 7, none⟩)) rfl (by kernel_rfl) (by kernel_rfl) (by kernel_rfl) (fun _ _ _ h => (by cases h.1)) rfl (by rfl) (fun w hw => by kernel_rfl) HS21 ?_
            simp only [Act.put, List.setIfInBounds_toArray, List.set_cons_zero, List.set_cons_succ]
            have HS22 : (W21.setCell ⟨gr, 7, none⟩ (.slice (some ⟨gB, 0, none⟩) 1 1)).heap[gs]? = some (.cells (stCells x).toArray 66 (0, 0)) := (heap_setCell_other W21 _ gs _ (by exact hne1)).trans HS21
            refine step_store_to 22 (W21.setCell ⟨gr, 7, none⟩ (.slice (some ⟨gB, 0, none⟩) 1 1)) rfl (by kernel_rfl) rfl (by rfl) 30 (.tmp 58) (.tmp 53) rfl (.pointer (some ⟨gr, 7, none⟩)) (.slice (some ⟨gB, 0, none⟩) 1 1) rfl rfl (run_store30 W21 gr 7 _ _ (by rw [cell_of_row _ _ _ _ _ _ HG21]; rfl) (frozen_of_row _ _ _ _ _ HG21)) HS22 ?_
            have HI22 := HI21.setOther gr 7 (.slice (some ⟨gB, 0, none⟩) 1 1) (hb_cons (hb_cons HNR.out.1 hneA) hneB) HNR.out.2
            have HG22 : (W21.setCell ⟨gr, 7, none⟩ (.slice (some ⟨gB, 0, none⟩) 1 1)).heap[gr]? = some (.cells (recCells { S.rec0 tt with kind := 2, page := bits .and .i64 x.page 3, off := bits .and .i64 x.off 7, sb := oneSv gA, sa := oneSv gB }).toArray 32 (0, 0)) := (heap_setCell_same W21 gr 7 _ 32 _ HG21).trans rfl
            generalize W21.setCell ⟨gr, 7, none⟩ (.slice (some ⟨gB, 0, none⟩) 1 1) = W22 at HS22 HI22 HG22 ⊢
            refine wpAnyH_done (by kernel_rfl) ?_ _
            exact ⟨rfl, gA, gB, ⟨(HI22).swapK, HG22⟩, by rw [ha0]; kernel_rfl⟩
          · have HS23 : (W19.setCell ⟨gr, 6, none⟩ (.slice (some ⟨gA, 0, none⟩) 1 1)).heap[gs]? = some (.cells (stCells x).toArray 66 (0, 0)) := (heap_setCell_other W19 _ gs _ (by exact hne1)).trans HS19
            refine op_store_to (W19.setCell ⟨gr, 6, none⟩ (.slice (some ⟨gA, 0, none⟩) 1 1)) rfl rfl (by rfl) 30 (.tmp 57) (.tmp 49) rfl (.pointer (some ⟨gr, 6, none⟩)) (.slice (some ⟨gA, 0, none⟩) 1 1) rfl rfl (run_store30 W19 gr 6 _ _ (by rw [cell_of_row _ _ _ _ _ _ HG19]; rfl) (frozen_of_row _ _ _ _ _ HG19)) ⟨HS23, ?_⟩
            have HI23 := HI19.setOther gr 6 (.slice (some ⟨gA, 0, none⟩) 1 1) (hb_cons HNR.out.1 hneA) HNR.out.2
            have HG23 : (W19.setCell ⟨gr, 6, none⟩ (.slice (some ⟨gA, 0, none⟩) 1 1)).heap[gr]? = some (.cells (recCells { S.rec0 tt with kind := 2, page := bits .and .i64 x.page 3, off := bits .and .i64 x.off 7, sb := oneSv gA }).toArray 32 (0, 0)) := (heap_setCell_same W19 gr 6 _ 32 _ HG19).trans rfl
            generalize W19.setCell ⟨gr, 6, none⟩ (.slice (some ⟨gA, 0, none⟩) 1 1) = W23 at HS23 HI23 HG23 ⊢
            have HS24 : (W23.alloc (.cells #[byteOf (k + 1)] 5)).heap[gs]? = some (.cells (stCells x).toArray 66 (0, 0)) := (Below.heap_alloc _ _ _ (Array.getElem?_eq_some_iff.1 HS23).1).trans HS23
            refine step_to 12 53 (.slice (some ⟨W23.heap.size, 0, none⟩) 1 1) (W23.alloc (.cells #[byteOf (k + 1)] 5)) rfl (by kernel_rfl) rfl (by rfl) (by rw [buildSlice_op _ _ 30 1 0 (.tmp 52) rfl _ rfl]; exact buildByte _ _) HS24 ?_
            simp only [Act.put, List.setIfInBounds_toArray, List.set_cons_zero, List.set_cons_succ]
            have HI24 := HI23.addKeep ((Below.refl _ _).alloc (Nat.le_refl _) _) W23.heap.size (.cells #[byteOf (k + 1)] 5) (Nat.le_refl _) (heap_alloc_new W23 _)
            have HG24 : (W23.alloc (.cells #[byteOf (k + 1)] 5)).heap[gr]? = _ := (Below.heap_alloc _ _ _ (Array.getElem?_eq_some_iff.1 HG23).1).trans HG23
            have hneB : gr ≠ W23.heap.size := Nat.ne_of_lt (Array.getElem?_eq_some_iff.1 HG23).1
            generalize W23.alloc (.cells #[byteOf (k + 1)] 5) = W24 at HS24 HI24 HG24 ⊢
            generalize W23.heap.size = gB at HI24 hneB ⊢
            refine take_to 21 58 (.pointer (some ⟨gr, 7, none⟩)) rfl (by kernel_rfl) (by kernel_rfl) (by kernel_rfl) (fun _ _ _ h => (by cases h.1)) rfl (by rfl) (fun w hw => by kernel_rfl) HS24 ?_
            simp only [Act.put, List.setIfInBounds_toArray, List.set_cons_zero, List.set_cons_succ]
            have HS25 : (W24.setCell ⟨gr, 7, none⟩ (.slice (some ⟨gB, 0, none⟩) 1 1)).heap[gs]? = some (.cells (stCells x).toArray 66 (0, 0)) := (heap_setCell_other W24 _ gs _ (by exact hne1)).trans HS24
            refine step_store_to 22 (W24.setCell ⟨gr, 7, none⟩ (.slice (some ⟨gB, 0, none⟩) 1 1)) rfl (by kernel_rfl) rfl (by rfl) 30 (.tmp 58) (.tmp 53) rfl (.pointer (some ⟨gr, 7, none⟩)) (.slice (some ⟨gB, 0, none⟩) 1 1) rfl rfl (run_store30 W24 gr 7 _ _ (by rw [cell_of_row _ _ _ _ _ _ HG24]; rfl) (frozen_of_row _ _ _ _ _ HG24)) HS25 ?_
            have HI25 := HI24.setOther gr 7 (.slice (some ⟨gB, 0, none⟩) 1 1) (hb_cons (hb_cons HNR.out.1 hneA) hneB) HNR.out.2
            have HG25 : (W24.setCell ⟨gr, 7, none⟩ (.slice (some ⟨gB, 0, none⟩) 1 1)).heap[gr]? = some (.cells (recCells { S.rec0 tt with kind := 2, page := bits .and .i64 x.page 3, off := bits .and .i64 x.off 7, sb := oneSv gA, sa := oneSv gB }).toArray 32 (0, 0)) := (heap_setCell_same W24 gr 7 _ 32 _ HG24).trans rfl
            generalize W24.setCell ⟨gr, 7, none⟩ (.slice (some ⟨gB, 0, none⟩) 1 1) = W25 at HS25 HI25 HG25 ⊢
            refine wpAnyH_done (by kernel_rfl) ?_ _
            exact ⟨rfl, gA, gB, ⟨(HI25).swapK, HG25⟩, by rw [ha0]; kernel_rfl⟩
  · have HS26 : (W0.alloc (.cells #[byteOf (k + 1)] 5)).heap[gs]? = some (.cells (stCells x).toArray 66 (0, 0)) := (Below.heap_alloc _ _ _ (Array.getElem?_eq_some_iff.1 hH').1).trans hH'
    refine op_to 53 (.slice (some ⟨W0.heap.size, 0, none⟩) 1 1) (W0.alloc (.cells #[byteOf (k + 1)] 5)) rfl rfl (by rfl) (by rw [buildSlice_op _ _ 30 1 0 (.tmp 52) rfl _ rfl]; exact buildByte _ _) ⟨HS26, ?_⟩
    simp only [Act.put, List.setIfInBounds_toArray, List.set_cons_zero, List.set_cons_succ]
    have HI26 := HI0.addKeep ((Below.refl _ _).alloc (Nat.le_refl _) _) W0.heap.size (.cells #[byteOf (k + 1)] 5) (Nat.le_refl _) (heap_alloc_new W0 _)
    have HG26 : (W0.alloc (.cells #[byteOf (k + 1)] 5)).heap[gr]? = _ := (Below.heap_alloc _ _ _ (Array.getElem?_eq_some_iff.1 HG0).1).trans HG0
    have hneB : gr ≠ W0.heap.size := Nat.ne_of_lt (Array.getElem?_eq_some_iff.1 HG0).1
    generalize W0.alloc (.cells #[byteOf (k + 1)] 5) = W26 at HS26 HI26 HG26 ⊢
    generalize W0.heap.size = gB at HI26 hneB ⊢
    refine wpAnyH_all (rs := [8, 14]) (by kernel_rfl) (by simp) ?_
    intro n hn
    rcases (by simpa using hn : n = 8 ∨ n = 14) with rfl | rfl
    · have HS27 : (W26.alloc (.cells #[byteOf k] 5)).heap[gs]? = some (.cells (stCells x).toArray 66 (0, 0)) := (Below.heap_alloc _ _ _ (Array.getElem?_eq_some_iff.1 HS26).1).trans HS26
      refine op_to 49 (.slice (some ⟨W26.heap.size, 0, none⟩) 1 1) (W26.alloc (.cells #[byteOf k] 5)) rfl rfl (by rfl) (by rw [buildSlice_op _ _ 30 1 0 (.tmp 48) rfl _ rfl]; exact buildByte _ _) ⟨HS27, ?_⟩
      simp only [Act.put, List.setIfInBounds_toArray, List.set_cons_zero, List.set_cons_succ]
      have HI27 := HI26.addKeep ((Below.refl _ _).alloc (Nat.le_refl _) _) W26.heap.size (.cells #[byteOf k] 5) (Nat.le_refl _) (heap_alloc_new W26 _)
      have HG27 : (W26.alloc (.cells #[byteOf k] 5)).heap[gr]? = _ := (Below.heap_alloc _ _ _ (Array.getElem?_eq_some_iff.1 HG26).1).trans HG26
      have hneA : gr ≠ W26.heap.size := Nat.ne_of_lt (Array.getElem?_eq_some_iff.1 HG26).1
      generalize W26.alloc (.cells #[byteOf k] 5) = W27 at HS27 HI27 HG27 ⊢
      generalize W26.heap.size = gA at HI27 hneA ⊢
      have HS28 : (W27.setCell ⟨gr, 0, none⟩ (.int .i64 2)).heap[gs]? = some (.cells (stCells x).toArray 66 (0, 0)) := (heap_setCell_other W27 _ gs _ (by exact hne1)).trans HS27
      refine step_store_to 14 (W27.setCell ⟨gr, 0, none⟩ (.int .i64 2)) rfl (by kernel_rfl) rfl (by rfl) 3 (.tmp 54) (.const (.int .i64 2)) rfl (.pointer (some ⟨gr, 0, none⟩)) (.int .i64 2) rfl rfl (run_store3 W27 gr 0 _ _ (by rw [cell_of_row _ _ _ _ _ _ HG27]; rfl) (frozen_of_row _ _ _ _ _ HG27)) HS28 ?_
      have HI28 := HI27.setOther gr 0 (.int .i64 2) (hb_cons (hb_cons HNR.out.1 hneB) hneA) HNR.out.2
      have HG28 : (W27.setCell ⟨gr, 0, none⟩ (.int .i64 2)).heap[gr]? = some (.cells (recCells { S.rec0 tt with kind := 2 }).toArray 32 (0, 0)) := (heap_setCell_same W27 gr 0 _ 32 _ HG27).trans rfl
      generalize W27.setCell ⟨gr, 0, none⟩ (.int .i64 2) = W28 at HS28 HI28 HG28 ⊢
      refine take_to 15 55 (.pointer (some ⟨gr, 4, none⟩)) rfl (by kernel_rfl) (by kernel_rfl) (by kernel_rfl) (fun _ _ _ h => (by cases h.1)) rfl (by rfl) (fun w hw => by kernel_rfl) HS28 ?_
      simp only [Act.put, List.setIfInBounds_toArray, List.set_cons_zero, List.set_cons_succ]
      have HS29 : (W28.setCell ⟨gr, 4, none⟩ (.int .i64 (bits .and .i64 x.page 3))).heap[gs]? = some (.cells (stCells x).toArray 66 (0, 0)) := (heap_setCell_other W28 _ gs _ (by exact hne1)).trans HS28
      refine step_store_to 16 (W28.setCell ⟨gr, 4, none⟩ (.int .i64 (bits .and .i64 x.page 3))) rfl (by kernel_rfl) rfl (by rfl) 3 (.tmp 55) (.tmp 43) rfl (.pointer (some ⟨gr, 4, none⟩)) (.int .i64 (bits .and .i64 x.page 3)) rfl rfl (run_store3 W28 gr 4 _ _ (by rw [cell_of_row _ _ _ _ _ _ HG28]; rfl) (frozen_of_row _ _ _ _ _ HG28)) HS29 ?_
      have HI29 := HI28.setOther gr 4 (.int .i64 (bits .and .i64 x.page 3)) (hb_cons (hb_cons HNR.out.1 hneB) hneA) HNR.out.2
      have HG29 : (W28.setCell ⟨gr, 4, none⟩ (.int .i64 (bits .and .i64 x.page 3))).heap[gr]? = some (.cells (recCells { S.rec0 tt with kind := 2, page := bits .and .i64 x.page 3 }).toArray 32 (0, 0)) := (heap_setCell_same W28 gr 4 _ 32 _ HG28).trans rfl
      generalize W28.setCell ⟨gr, 4, none⟩ (.int .i64 (bits .and .i64 x.page 3)) = W29 at HS29 HI29 HG29 ⊢
      refine take_to 17 56 (.pointer (some ⟨gr, 5, none⟩)) rfl (by kernel_rfl) (by kernel_rfl) (by kernel_rfl) (fun _ _ _ h => (by cases h.1)) rfl (by rfl) (fun w hw => by kernel_rfl) HS29 ?_
      simp only [Act.put, List.setIfInBounds_toArray, List.set_cons_zero, List.set_cons_succ]
      have HS30 : (W29.setCell ⟨gr, 5, none⟩ (.int .i64 (bits .and .i64 x.off 7))).heap[gs]? = some (.cells (stCells x).toArray 66 (0, 0)) := (heap_setCell_other W29 _ gs _ (by exact hne1)).trans HS29
      refine step_store_to 18 (W29.setCell ⟨gr, 5, none⟩ (.int .i64 (bits .and .i64 x.off 7))) rfl (by kernel_rfl) rfl (by rfl) 3 (.tmp 56) (.tmp 46) rfl (.pointer (some ⟨gr, 5, none⟩)) (.int .i64 (bits .and .i64 x.off 7)) rfl rfl (run_store3 W29 gr 5 _ _ (by rw [cell_of_row _ _ _ _ _ _ HG29]; rfl) (frozen_of_row _ _ _ _ _ HG29)) HS30 ?_
      have HI30 := HI29.setOther gr 5 (.int .i64 (bits .and .i64 x.off 7)) (hb_cons (hb_cons HNR.out.1 hneB) hneA) HNR.out.2
      have HG30 : (W29.setCell ⟨gr, 5, none⟩ (.int .i64 (bits .and .i64 x.off 7))).heap[gr]? = some (.cells (recCells { S.rec0 tt with kind := 2, page := bits .and .i64 x.page 3, off := bits .and .i64 x.off 7 }).toArray 32 (0, 0)) := (heap_setCell_same W29 gr 5 _ 32 _ HG29).trans rfl
      generalize W29.setCell ⟨gr, 5, none⟩ (.int .i64 (bits .and .i64 x.off 7)) = W30 at HS30 HI30 HG30 ⊢
      refine take_to 19 57 (.pointer (some ⟨gr, 6, none⟩)) rfl (by kernel_rfl) (by kernel_rfl) (by kernel_rfl) (fun _ _ _ h => (by cases h.1)) rfl (by rfl) (fun w hw => by kernel_rfl) HS30 ?_
      simp only [Act.put, List.setIfInBounds_toArray, List.set_cons_zero, List.set_cons_succ]
      have HS31 : (W30.setCell ⟨gr, 6, none⟩ (.slice (some ⟨gA, 0, none⟩) 1 1)).heap[gs]? = some (.cells (stCells x).toArray 66 (0, 0)) := (heap_setCell_other W30 _ gs _ (by exact hne1)).trans HS30
      refine step_store_to 20 (W30.setCell ⟨gr, 6, none⟩ (.slice (some ⟨gA, 0, none⟩) 1 1)) rfl (by kernel_rfl) rfl (by rfl) 30 (.tmp 57) (.tmp 49) rfl (.pointer (some ⟨gr, 6, none⟩)) (.slice (some ⟨gA, 0, none⟩) 1 1) rfl rfl (run_store30 W30 gr 6 _ _ (by rw [cell_of_row _ _ _ _ _ _ HG30]; rfl) (frozen_of_row _ _ _ _ _ HG30)) HS31 ?_
      have HI31 := HI30.setOther gr 6 (.slice (some ⟨gA, 0, none⟩) 1 1) (hb_cons (hb_cons HNR.out.1 hneB) hneA) HNR.out.2
      have HG31 : (W30.setCell ⟨gr, 6, none⟩ (.slice (some ⟨gA, 0, none⟩) 1 1)).heap[gr]? = some (.cells (recCells { S.rec0 tt with kind := 2, page := bits .and .i64 x.page 3, off := bits .and .i64 x.off 7, sb := oneSv gA }).toArray 32 (0, 0)) := (heap_setCell_same W30 gr 6 _ 32 _ HG30).trans rfl
      generalize W30.setCell ⟨gr, 6, none⟩ (.slice (some ⟨gA, 0, none⟩) 1 1) = W31 at HS31 HI31 HG31 ⊢
      refine take_to 21 58 (.pointer (some ⟨gr, 7, none⟩)) rfl (by kernel_rfl) (by kernel_rfl) (by kernel_rfl) (fun _ _ _ h => (by cases h.1)) rfl (by rfl) (fun w hw => by kernel_rfl) HS31 ?_
      simp only [Act.put, List.setIfInBounds_toArray, List.set_cons_zero, List.set_cons_succ]
      have HS32 : (W31.setCell ⟨gr, 7, none⟩ (.slice (some ⟨gB, 0, none⟩) 1 1)).heap[gs]? = some (.cells (stCells x).toArray 66 (0, 0)) := (heap_setCell_other W31 _ gs _ (by exact hne1)).trans HS31
      refine step_store_to 22 (W31.setCell ⟨gr, 7, none⟩ (.slice (some ⟨gB, 0, none⟩) 1 1)) rfl (by kernel_rfl) rfl (by rfl) 30 (.tmp 58) (.tmp 53) rfl (.pointer (some ⟨gr, 7, none⟩)) (.slice (some ⟨gB, 0, none⟩) 1 1) rfl rfl (run_store30 W31 gr 7 _ _ (by rw [cell_of_row _ _ _ _ _ _ HG31]; rfl) (frozen_of_row _ _ _ _ _ HG31)) HS32 ?_
      have HI32 := HI31.setOther gr 7 (.slice (some ⟨gB, 0, none⟩) 1 1) (hb_cons (hb_cons HNR.out.1 hneB) hneA) HNR.out.2
      have HG32 : (W31.setCell ⟨gr, 7, none⟩ (.slice (some ⟨gB, 0, none⟩) 1 1)).heap[gr]? = some (.cells (recCells { S.rec0 tt with kind := 2, page := bits .and .i64 x.page 3, off := bits .and .i64 x.off 7, sb := oneSv gA, sa := oneSv gB }).toArray 32 (0, 0)) := (heap_setCell_same W31 gr 7 _ 32 _ HG31).trans rfl
      generalize W31.setCell ⟨gr, 7, none⟩ (.slice (some ⟨gB, 0, none⟩) 1 1) = W32 at HS32 HI32 HG32 ⊢
      refine wpAnyH_done (by kernel_rfl) ?_ _
      exact ⟨rfl, gA, gB, ⟨HI32, HG32⟩, by rw [ha0]; kernel_rfl⟩
    · have HS33 : (W26.setCell ⟨gr, 0, none⟩ (.int .i64 2)).heap[gs]? = some (.cells (stCells x).toArray 66 (0, 0)) := (heap_setCell_other W26 _ gs _ (by exact hne1)).trans HS26
      refine op_store_to (W26.setCell ⟨gr, 0, none⟩ (.int .i64 2)) rfl rfl (by rfl) 3 (.tmp 54) (.const (.int .i64 2)) rfl (.pointer (some ⟨gr, 0, none⟩)) (.int .i64 2) rfl rfl (run_store3 W26 gr 0 _ _ (by rw [cell_of_row _ _ _ _ _ _ HG26]; rfl) (frozen_of_row _ _ _ _ _ HG26)) ⟨HS33, ?_⟩
      have HI33 := HI26.setOther gr 0 (.int .i64 2) (hb_cons HNR.out.1 hneB) HNR.out.2
      have HG33 : (W26.setCell ⟨gr, 0, none⟩ (.int .i64 2)).heap[gr]? = some (.cells (recCells { S.rec0 tt with kind := 2 }).toArray 32 (0, 0)) := (heap_setCell_same W26 gr 0 _ 32 _ HG26).trans rfl
      generalize W26.setCell ⟨gr, 0, none⟩ (.int .i64 2) = W33 at HS33 HI33 HG33 ⊢
      refine take_to 15 55 (.pointer (some ⟨gr, 4, none⟩)) rfl (by kernel_rfl) (by kernel_rfl) (by kernel_rfl) (fun _ _ _ h => (by cases h.1)) rfl (by rfl) (fun w hw => by kernel_rfl) HS33 ?_
      simp only [Act.put, List.setIfInBounds_toArray, List.set_cons_zero, List.set_cons_succ]
      refine wpAnyH_all (rs := [8, 16]) (by kernel_rfl) (by simp) ?_
      intro n hn
      rcases (by simpa using hn : n = 8 ∨ n = 16) with rfl | rfl
      · have HS34 : (W33.alloc (.cells #[byteOf k] 5)).heap[gs]? = some (.cells (stCells x).toArray 66 (0, 0)) := (Below.heap_alloc _ _ _ (Array.getElem?_eq_some_iff.1 HS33).1).trans HS33
        refine op_to 49 (.slice (some ⟨W33.heap.size, 0, none⟩) 1 1) (W33.alloc (.cells #[byteOf k] 5)) rfl rfl (by rfl) (by rw [buildSlice_op _ _ 30 1 0 (.tmp 48) rfl _ rfl]; exact buildByte _ _) ⟨HS34, ?_⟩
        simp only [Act.put, List.setIfInBounds_toArray, List.set_cons_zero, List.set_cons_succ]
        have HI34 := HI33.addKeep ((Below.refl _ _).alloc (Nat.le_refl _) _) W33.heap.size (.cells #[byteOf k] 5) (Nat.le_refl _) (heap_alloc_new W33 _)
        have HG34 : (W33.alloc (.cells #[byteOf k] 5)).heap[gr]? = _ := (Below.heap_alloc _ _ _ (Array.getElem?_eq_some_iff.1 HG33).1).trans HG33
        have hneA : gr ≠ W33.heap.size := Nat.ne_of_lt (Array.getElem?_eq_some_iff.1 HG33).1
        generalize W33.alloc (.cells #[byteOf k] 5) = W34 at HS34 HI34 HG34 ⊢
        generalize W33.heap.size = gA at HI34 hneA ⊢
        have HS35 : (W34.setCell ⟨gr, 4, none⟩ (.int .i64 (bits .and .i64 x.page 3))).heap[gs]? = some (.cells (stCells x).toArray 66 (0, 0)) := (heap_setCell_other W34 _ gs _ (by exact hne1)).trans HS34
        refine step_store_to 16 (W34.setCell ⟨gr, 4, none⟩ (.int .i64 (bits .and .i64 x.page 3))) rfl (by kernel_rfl) rfl (by rfl) 3 (.tmp 55) (.tmp 43) rfl (.pointer (some ⟨gr, 4, none⟩)) (.int .i64 (bits .and .i64 x.page 3)) rfl rfl (run_store3 W34 gr 4 _ _ (by rw [cell_of_row _ _ _ _ _ _ HG34]; rfl) (frozen_of_row _ _ _ _ _ HG34)) HS35 ?_
        have HI35 := HI34.setOther gr 4 (.int .i64 (bits .and .i64 x.page 3)) (hb_cons (hb_cons HNR.out.1 hneB) hneA) HNR.out.2
        have HG35 : (W34.setCell ⟨gr, 4, none⟩ (.int .i64 (bits .and .i64 x.page 3))).heap[gr]? = some (.cells (recCells { S.rec0 tt with kind := 2, page := bits .and .i64 x.page 3 }).toArray 32 (0, 0)) := (heap_setCell_same W34 gr 4 _ 32 _ HG34).trans rfl
        generalize W34.setCell ⟨gr, 4, none⟩ (.int .i64 (bits .and .i64 x.page 3)) = W35 at HS35 HI35 HG35 ⊢
        refine take_to 17 56 (.pointer (some ⟨gr, 5, none⟩)) rfl (by kernel_rfl) (by kernel_rfl) (by kernel_rfl) (fun _ _ _ h => (by cases h.1)) rfl (by rfl) (fun w hw => by kernel_rfl) HS35 ?_
        simp only [Act.put, List.setIfInBounds_toArray, List.set_cons_zero, List.set_cons_succ]
        have HS36 : (W35.setCell ⟨gr, 5, none⟩ (.int .i64 (bits .and .i64 x.off 7))).heap[gs]? = some (.cells (stCells x).toArray 66 (0, 0)) := (heap_setCell_other W35 _ gs _ (by exact hne1)).trans HS35
        refine step_store_to 18 (W35.setCell ⟨gr, 5, none⟩ (.int .i64 (bits .and .i64 x.off 7))) rfl (by kernel_rfl) rfl (by rfl) 3 (.tmp 56) (.tmp 46) rfl (.pointer (some ⟨gr, 5, none⟩)) (.int .i64 (bits .and .i64 x.off 7)) rfl rfl (run_store3 W35 gr 5 _ _ (by rw [cell_of_row _ _ _ _ _ _ HG35]; rfl) (frozen_of_row _ _ _ _ _ HG35)) HS36 ?_
        have HI36 := HI35.setOther gr 5 (.int .i64 (bits .and .i64 x.off 7)) (hb_cons (hb_cons HNR.out.1 hneB) hneA) HNR.out.2
        have HG36 : (W35.setCell ⟨gr, 5, none⟩ (.int .i64 (bits .and .i64 x.off 7))).heap[gr]? = some (.cells (recCells { S.rec0 tt with kind := 2, page := bits .and .i64 x.page 3, off := bits .and .i64 x.off 7 }).toArray 32 (0, 0)) := (heap_setCell_same W35 gr 5 _ 32 _ HG35).trans rfl
        generalize W35.setCell ⟨gr, 5, none⟩ (.int .i64 (bits .and .i64 x.off 7)) = W36 at HS36 HI36 HG36 ⊢
        refine take_to 19 57 (.pointer (some ⟨gr, 6, none⟩)) rfl (by kernel_rfl) (by kernel_rfl) (by kernel_rfl) (fun _ _ _ h => (by cases h.1)) rfl (by rfl) (fun w hw => by kernel_rfl) HS36 ?_
        simp only [Act.put, List.setIfInBounds_toArray, List.set_cons_zero, List.set_cons_succ]
        have HS37 : (W36.setCell ⟨gr, 6, none⟩ (.slice (some ⟨gA, 0, none⟩) 1 1)).heap[gs]? = some (.cells (stCells x).toArray 66 (0, 0)) := (heap_setCell_other W36 _ gs _ (by exact hne1)).trans HS36
        refine step_store_to 20 (W36.setCell ⟨gr, 6, none⟩ (.slice (some ⟨gA, 0, none⟩) 1 1)) rfl (by kernel_rfl) rfl (by rfl) 30 (.tmp 57) (.tmp 49) rfl (.pointer (some ⟨gr, 6, none⟩)) (.slice (some ⟨gA, 0, none⟩) 1 1) rfl rfl (run_store30 W36 gr 6 _ _ (by rw [cell_of_row _ _ _ _ _ _ HG36]; rfl) (frozen_of_row _ _ _ _ _ HG36)) HS37 ?_
        have HI37 := HI36.setOther gr 6 (.slice (some ⟨gA, 0, none⟩) 1 1) (hb_cons (hb_cons HNR.out.1 hneB) hneA) HNR.out.2
        have HG37 : (W36.setCell ⟨gr, 6, none⟩ (.slice (some ⟨gA, 0, none⟩) 1 1)).heap[gr]? = some (.cells (recCells { S.rec0 tt with kind := 2, page := bits .and .i64 x.page 3, off := bits .and .i64 x.off 7, sb := oneSv gA }).toArray 32 (0, 0)) := (heap_setCell_same W36 gr 6 _ 32 _ HG36).trans rfl
        generalize W36.setCell ⟨gr, 6, none⟩ (.slice (some ⟨gA, 0, none⟩) 1 1) = W37 at HS37 HI37 HG37 ⊢
        refine take_to 21 58 (.pointer (some ⟨gr, 7, none⟩)) rfl (by kernel_rfl) (by kernel_rfl) (by kernel_rfl) (fun _ _ _ h => (by cases h.1)) rfl (by rfl) (fun w hw => by kernel_rfl) HS37 ?_
        simp only [Act.put, List.setIfInBounds_toArray, List.set_cons_zero, List.set_cons_succ]
        have HS38 : (W37.setCell ⟨gr, 7, none⟩ (.slice (some ⟨gB, 0, none⟩) 1 1)).heap[gs]? = some (.cells (stCells x).toArray 66 (0, 0)) := (heap_setCell_other W37 _ gs _ (by exact hne1)).trans HS37
        refine step_store_to 22 (W37.setCell ⟨gr, 7, none⟩ (.slice (some ⟨gB, 0, none⟩) 1 1)) rfl (by kernel_rfl) rfl (by rfl) 30 (.tmp 58) (.tmp 53) rfl (.pointer (some ⟨gr, 7, none⟩)) (.slice (some ⟨gB, 0, none⟩) 1 1) rfl rfl (run_store30 W37 gr 7 _ _ (by rw [cell_of_row _ _ _ _ _ _ HG37]; rfl) (frozen_of_row _ _ _ _ _ HG37)) HS38 ?_
        have HI38 := HI37.setOther gr 7 (.slice (some ⟨gB, 0, none⟩) 1 1) (hb_cons (hb_cons HNR.out.1 hneB) hneA) HNR.out.2
        have HG38 : (W37.setCell ⟨gr, 7, none⟩ (.slice (some ⟨gB, 0, none⟩) 1 1)).heap[gr]? = some (.cells (recCells { S.rec0 tt with kind := 2, page := bits .and .i64 x.page 3, off := bits .and .i64 x.off 7, sb := oneSv gA, sa := oneSv gB }).toArray 32 (0, 0)) := (heap_setCell_same W37 gr 7 _ 32 _ HG37).trans rfl
        generalize W37.setCell ⟨gr, 7, none⟩ (.slice (some ⟨gB, 0, none⟩) 1 1) = W38 at HS38 HI38 HG38 ⊢
        refine wpAnyH_done (by kernel_rfl) ?_ _
        exact ⟨rfl, gA, gB, ⟨HI38, HG38⟩, by rw [ha0]; kernel_rfl⟩
      · have HS39 : (W33.setCell ⟨gr, 4, none⟩ (.int .i64 (bits .and .i64 x.page 3))).heap[gs]? = some (.cells (stCells x).toArray 66 (0, 0)) := (heap_setCell_other W33 _ gs _ (by exact hne1)).trans HS33
        refine op_store_to (W33.setCell ⟨gr, 4, none⟩ (.int .i64 (bits .and .i64 x.page 3))) rfl rfl (by rfl) 3 (.tmp 55) (.tmp 43) rfl (.pointer (some ⟨gr, 4, none⟩)) (.int .i64 (bits .and .i64 x.page 3)) rfl rfl (run_store3 W33 gr 4 _ _ (by rw [cell_of_row _ _ _ _ _ _ HG33]; rfl) (frozen_of_row _ _ _ _ _ HG33)) ⟨HS39, ?_⟩
        have HI39 := HI33.setOther gr 4 (.int .i64 (bits .and .i64 x.page 3)) (hb_cons HNR.out.1 hneB) HNR.out.2
        have HG39 : (W33.setCell ⟨gr, 4, none⟩ (.int .i64 (bits .and .i64 x.page 3))).heap[gr]? = some (.cells (recCells { S.rec0 tt with kind := 2, page := bits .and .i64 x.page 3 }).toArray 32 (0, 0)) := (heap_setCell_same W33 gr 4 _ 32 _ HG33).trans rfl
        generalize W33.setCell ⟨gr, 4, none⟩ (.int .i64 (bits .and .i64 x.page 3)) = W39 at HS39 HI39 HG39 ⊢
        refine take_to 17 56 (.pointer (some ⟨gr, 5, none⟩)) rfl (by kernel_rfl) (by kernel_rfl) (by kernel_rfl) (fun _ _ _ h => (by cases h.1)) rfl (by rfl) (fun w hw => by kernel_rfl) HS39 ?_
        simp only [Act.put, List.setIfInBounds_toArray, List.set_cons_zero, List.set_cons_succ]
        refine wpAnyH_all (rs := [8, 18]) (by kernel_rfl) (by simp) ?_
        intro n hn
        rcases (by simpa using hn : n = 8 ∨ n = 18) with rfl | rfl
        · have HS40 : (W39.alloc (.cells #[byteOf k] 5)).heap[gs]? = some (.cells (stCells x).toArray 66 (0, 0)) := (Below.heap_alloc _ _ _ (Array.getElem?_eq_some_iff.1 HS39).1).trans HS39
          refine op_to 49 (.slice (some ⟨W39.heap.size, 0, none⟩) 1 1) (W39.alloc (.cells #[byteOf k] 5)) rfl rfl (by rfl) (by rw [buildSlice_op _ _ 30 1 0 (.tmp 48) rfl _ rfl]; exact buildByte _ _) ⟨HS40, ?_⟩
          simp only [Act.put, List.setIfInBounds_toArray, List.set_cons_zero, List.set_cons_succ]
          have HI40 := HI39.addKeep ((Below.refl _ _).alloc (Nat.le_refl _) _) W39.heap.size (.cells #[byteOf k] 5) (Nat.le_refl _) (heap_alloc_new W39 _)
          have HG40 : (W39.alloc (.cells #[byteOf k] 5)).heap[gr]? = _ := (Below.heap_alloc _ _ _ (Array.getElem?_eq_some_iff.1 HG39).1).trans HG39
          have hneA : gr ≠ W39.heap.size := Nat.ne_of_lt (Array.getElem?_eq_some_iff.1 HG39).1
          generalize W39.alloc (.cells #[byteOf k] 5) = W40 at HS40 HI40 HG40 ⊢
          generalize W39.heap.size = gA at HI40 hneA ⊢
          have HS41 : (W40.setCell ⟨gr, 5, none⟩ (.int .i64 (bits .and .i64 x.off 7))).heap[gs]? = some (.cells (stCells x).toArray 66 (0, 0)) := (heap_setCell_other W40 _ gs _ (by exact hne1)).trans HS40
          refine step_store_to 18 (W40.setCell ⟨gr, 5, none⟩ (.int .i64 (bits .and .i64 x.off 7))) rfl (by kernel_rfl) rfl (by rfl) 3 (.tmp 56) (.tmp 46) rfl (.pointer (some ⟨gr, 5, none⟩)) (.int .i64 (bits .and .i64 x.off 7)) rfl rfl (run_store3 W40 gr 5 _ _ (by rw [cell_of_row _ _ _ _ _ _ HG40]; rfl) (frozen_of_row _ _ _ _ _ HG40)) HS41 ?_
          have HI41 := HI40.setOther gr 5 (.int .i64 (bits .and .i64 x.off 7)) (hb_cons (hb_cons HNR.out.1 hneB) hneA) HNR.out.2
          have HG41 : (W40.setCell ⟨gr, 5, none⟩ (.int .i64 (bits .and .i64 x.off 7))).heap[gr]? = some (.cells (recCells { S.rec0 tt with kind := 2, page := bits .and .i64 x.page 3, off := bits .and .i64 x.off 7 }).toArray 32 (0, 0)) := (heap_setCell_same W40 gr 5 _ 32 _ HG40).trans rfl
          generalize W40.setCell ⟨gr, 5, none⟩ (.int .i64 (bits .and .i64 x.off 7)) = W41 at HS41 HI41 HG41 ⊢
          refine take_to 19 57 (.pointer (some ⟨gr, 6, none⟩)) rfl (by kernel_rfl) (by kernel_rfl) (by kernel_rfl) (fun _ _ _ h => (by cases h.1)) rfl (by rfl) (fun w hw => by kernel_rfl) HS41 ?_
          simp only [Act.put, List.setIfInBounds_toArray, List.set_cons_zero, List.set_cons_succ]
          have HS42 : (W41.setCell ⟨gr, 6, none⟩ (.slice (some ⟨gA, 0, none⟩) 1 1)).heap[gs]? = some (.cells (stCells x).toArray 66 (0, 0)) := (heap_setCell_other W41 _ gs _ (by exact hne1)).trans HS41
          refine step_store_to 20 (W41.setCell ⟨gr, 6, none⟩ (.slice (some ⟨gA, 0, none⟩) 1 1)) rfl (by kernel_rfl) rfl (by rfl) 30 (.tmp 57) (.tmp 49) rfl (.pointer (some ⟨gr, 6, none⟩)) (.slice (some ⟨gA, 0, none⟩) 1 1) rfl rfl (run_store30 W41 gr 6 _ _ (by rw [cell_of_row _ _ _ _ _ _ HG41]; rfl) (frozen_of_row _ _ _ _ _ HG41)) HS42 ?_
          have HI42 := HI41.setOther gr 6 (.slice (some ⟨gA, 0, none⟩) 1 1) (hb_cons (hb_cons HNR.out.1 hneB) hneA) HNR.out.2
          have HG42 : (W41.setCell ⟨gr, 6, none⟩ (.slice (some ⟨gA, 0, none⟩) 1 1)).heap[gr]? = some (.cells (recCells { S.rec0 tt with kind := 2, page := bits .and .i64 x.page 3, off := bits .and .i64 x.off 7, sb := oneSv gA }).toArray 32 (0, 0)) := (heap_setCell_same W41 gr 6 _ 32 _ HG41).trans rfl
          generalize W41.setCell ⟨gr, 6, none⟩ (.slice (some ⟨gA, 0, none⟩) 1 1) = W42 at HS42 HI42 HG42 ⊢
          refine take_to 21 58 (.pointer (some ⟨gr, 7, none⟩)) rfl (by kernel_rfl) (by kernel_rfl) (by kernel_rfl) (fun _ _ _ h => (by cases h.1)) rfl (by rfl) (fun w hw => by kernel_rfl) HS42 ?_
          simp only [Act.put, List.setIfInBounds_toArray, List.set_cons_zero, List.set_cons_succ]
          have HS43 : (W42.setCell ⟨gr, 7, none⟩ (.slice (some ⟨gB, 0, none⟩) 1 1)).heap[gs]? = some (.cells (stCells x).toArray 66 (0, 0)) := (heap_setCell_other W42 _ gs _ (by exact hne1)).trans HS42
          refine step_store_to 22 (W42.setCell ⟨gr, 7, none⟩ (.slice (some ⟨gB, 0, none⟩) 1 1)) rfl (by kernel_rfl) rfl (by rfl) 30 (.tmp 58) (.tmp 53) rfl (.pointer (some ⟨gr, 7, none⟩)) (.slice (some ⟨gB, 0, none⟩) 1 1) rfl rfl (run_store30 W42 gr 7 _ _ (by rw [cell_of_row _ _ _ _ _ _ HG42]; rfl) (frozen_of_row _ _ _ _ _ HG42)) HS43 ?_
          have HI43 := HI42.setOther gr 7 (.slice (some ⟨gB, 0, none⟩) 1 1) (hb_cons (hb_cons HNR.out.1 hneB) hneA) HNR.out.2
          have HG43 : (W42.setCell ⟨gr, 7, none⟩ (.slice (some ⟨gB, 0, none⟩) 1 1)).heap[gr]? = some (.cells (recCells { S.rec0 tt with kind := 2, page := bits .and .i64 x.page 3, off := bits .and .i64 x.off 7, sb := oneSv gA, sa := oneSv gB }).toArray 32 (0, 0)) := (heap_setCell_same W42 gr 7 _ 32 _ HG42).trans rfl
          generalize W42.setCell ⟨gr, 7, none⟩ (.slice (some ⟨gB, 0, none⟩) 1 1) = W43 at HS43 HI43 HG43 ⊢
          refine wpAnyH_done (by kernel_rfl) ?_ _
          exact ⟨rfl, gA, gB, ⟨HI43, HG43⟩, by rw [ha0]; kernel_rfl⟩
        · have HS44 : (W39.setCell ⟨gr, 5, none⟩ (.int .i64 (bits .and .i64 x.off 7))).heap[gs]? = some (.cells (stCells x).toArray 66 (0, 0)) := (heap_setCell_other W39 _ gs _ (by exact hne1)).trans HS39
          refine op_store_to (W39.setCell ⟨gr, 5, none⟩ (.int .i64 (bits .and .i64 x.off 7))) rfl rfl (by rfl) 3 (.tmp 56) (.tmp 46) rfl (.pointer (some ⟨gr, 5, none⟩)) (.int .i64 (bits .and .i64 x.off 7)) rfl rfl (run_store3 W39 gr 5 _ _ (by rw [cell_of_row _ _ _ _ _ _ HG39]; rfl) (frozen_of_row _ _ _ _ _ HG39)) ⟨HS44, ?_⟩
          have HI44 := HI39.setOther gr 5 (.int .i64 (bits .and .i64 x.off 7)) (hb_cons HNR.out.1 hneB) HNR.out.2
          have HG44 : (W39.setCell ⟨gr, 5, none⟩ (.int .i64 (bits .and .i64 x.off 7))).heap[gr]? = some (.cells (recCells { S.rec0 tt with kind := 2, page := bits .and .i64 x.page 3, off := bits .and .i64 x.off 7 }).toArray 32 (0, 0)) := (heap_setCell_same W39 gr 5 _ 32 _ HG39).trans rfl
          generalize W39.setCell ⟨gr, 5, none⟩ (.int .i64 (bits .and .i64 x.off 7)) = W44 at HS44 HI44 HG44 ⊢
          have HS45 : (W44.alloc (.cells #[byteOf k] 5)).heap[gs]? = some (.cells (stCells x).toArray 66 (0, 0)) := (Below.heap_alloc _ _ _ (Array.getElem?_eq_some_iff.1 HS44).1).trans HS44
          refine step_to 8 49 (.slice (some ⟨W44.heap.size, 0, none⟩) 1 1) (W44.alloc (.cells #[byteOf k] 5)) rfl (by kernel_rfl) rfl (by rfl) (by rw [buildSlice_op _ _ 30 1 0 (.tmp 48) rfl _ rfl]; exact buildByte _ _) HS45 ?_
          simp only [Act.put, List.setIfInBounds_toArray, List.set_cons_zero, List.set_cons_succ]
          have HI45 := HI44.addKeep ((Below.refl _ _).alloc (Nat.le_refl _) _) W44.heap.size (.cells #[byteOf k] 5) (Nat.le_refl _) (heap_alloc_new W44 _)
          have HG45 : (W44.alloc (.cells #[byteOf k] 5)).heap[gr]? = _ := (Below.heap_alloc _ _ _ (Array.getElem?_eq_some_iff.1 HG44).1).trans HG44
          have hneA : gr ≠ W44.heap.size := Nat.ne_of_lt (Array.getElem?_eq_some_iff.1 HG44).1
          generalize W44.alloc (.cells #[byteOf k] 5) = W45 at HS45 HI45 HG45 ⊢
          generalize W44.heap.size = gA at HI45 hneA ⊢
          refine take_to 19 57 (.pointer (some ⟨gr, 6, none⟩)) rfl (by kernel_rfl) (by kernel_rfl) (by kernel_rfl) (fun _ _ _ h => (by cases h.1)) rfl (by rfl) (fun w hw => by kernel_rfl) HS45 ?_
          simp only [Act.put, List.setIfInBounds_toArray, List.set_cons_zero, List.set_cons_succ]
          have HS46 : (W45.setCell ⟨gr, 6, none⟩ (.slice (some ⟨gA, 0, none⟩) 1 1)).heap[gs]? = some (.cells (stCells x).toArray 66 (0, 0)) := (heap_setCell_other W45 _ gs _ (by exact hne1)).trans HS45
          refine step_store_to 20 (W45.setCell ⟨gr, 6, none⟩ (.slice (some ⟨gA, 0, none⟩) 1 1)) rfl (by kernel_rfl) rfl (by rfl) 30 (.tmp 57) (.tmp 49) rfl (.pointer (some ⟨gr, 6, none⟩)) (.slice (some ⟨gA, 0, none⟩) 1 1) rfl rfl (run_store30 W45 gr 6 _ _ (by rw [cell_of_row _ _ _ _ _ _ HG45]; rfl) (frozen_of_row _ _ _ _ _ HG45)) HS46 ?_
          have HI46 := HI45.setOther gr 6 (.slice (some ⟨gA, 0, none⟩) 1 1) (hb_cons (hb_cons HNR.out.1 hneB) hneA) HNR.out.2
          have HG46 : (W45.setCell ⟨gr, 6, none⟩ (.slice (some ⟨gA, 0, none⟩) 1 1)).heap[gr]? = some (.cells (recCells { S.rec0 tt with kind := 2, page := bits .and .i64 x.page 3, off := bits .and .i64 x.off 7, sb := oneSv gA }).toArray 32 (0, 0)) := (heap_setCell_same W45 gr 6 _ 32 _ HG45).trans rfl
          generalize W45.setCell ⟨gr, 6, none⟩ (.slice (some ⟨gA, 0, none⟩) 1 1) = W46 at HS46 HI46 HG46 ⊢
          refine take_to 21 58 (.pointer (some ⟨gr, 7, none⟩)) rfl (by kernel_rfl) (by kernel_rfl) (by kernel_rfl) (fun _ _ _ h => (by cases h.1)) rfl (by rfl) (fun w hw => by kernel_rfl) HS46 ?_
          simp only [Act.put, List.setIfInBounds_toArray, List.set_cons_zero, List.set_cons_succ]
          have HS47 : (W46.setCell ⟨gr, 7, none⟩ (.slice (some ⟨gB, 0, none⟩) 1 1)).heap[gs]? = some (.cells (stCells x).toArray 66 (0, 0)) := (heap_setCell_other W46 _ gs _ (by exact hne1)).trans HS46
          refine step_store_to 22 (W46.setCell ⟨gr, 7, none⟩ (.slice (some ⟨gB, 0, none⟩) 1 1)) rfl (by kernel_rfl) rfl (by rfl) 30 (.tmp 58) (.tmp 53) rfl (.pointer (some ⟨gr, 7, none⟩)) (.slice (some ⟨gB, 0, none⟩) 1 1) rfl rfl (run_store30 W46 gr 7 _ _ (by rw [cell_of_row _ _ _ _ _ _ HG46]; rfl) (frozen_of_row _ _ _ _ _ HG46)) HS47 ?_
          have HI47 := HI46.setOther gr 7 (.slice (some ⟨gB, 0, none⟩) 1 1) (hb_cons (hb_cons HNR.out.1 hneB) hneA) HNR.out.2
          have HG47 : (W46.setCell ⟨gr, 7, none⟩ (.slice (some ⟨gB, 0, none⟩) 1 1)).heap[gr]? = some (.cells (recCells { S.rec0 tt with kind := 2, page := bits .and .i64 x.page 3, off := bits .and .i64 x.off 7, sb := oneSv gA, sa := oneSv gB }).toArray 32 (0, 0)) := (heap_setCell_same W46 gr 7 _ 32 _ HG46).trans rfl
          generalize W46.setCell ⟨gr, 7, none⟩ (.slice (some ⟨gB, 0, none⟩) 1 1) = W47 at HS47 HI47 HG47 ⊢
          refine wpAnyH_done (by kernel_rfl) ?_ _
          exact ⟨rfl, gA, gB, ⟨HI47, HG47⟩, by rw [ha0]; kernel_rfl⟩
  · have HS48 : (W0.setCell ⟨gr, 0, none⟩ (.int .i64 2)).heap[gs]? = some (.cells (stCells x).toArray 66 (0, 0)) := (heap_setCell_other W0 _ gs _ (by exact hne1)).trans hH'
    refine op_store_to (W0.setCell ⟨gr, 0, none⟩ (.int .i64 2)) rfl rfl (by rfl) 3 (.tmp 54) (.const (.int .i64 2)) rfl (.pointer (some ⟨gr, 0, none⟩)) (.int .i64 2) rfl rfl (run_store3 W0 gr 0 _ _ (by rw [cell_of_row _ _ _ _ _ _ HG0]; rfl) (frozen_of_row _ _ _ _ _ HG0)) ⟨HS48, ?_⟩
    have HI48 := HI0.setOther gr 0 (.int .i64 2) HNR.out.1 HNR.out.2
    have HG48 : (W0.setCell ⟨gr, 0, none⟩ (.int .i64 2)).heap[gr]? = some (.cells (recCells { S.rec0 tt with kind := 2 }).toArray 32 (0, 0)) := (heap_setCell_same W0 gr 0 _ 32 _ HG0).trans rfl
    generalize W0.setCell ⟨gr, 0, none⟩ (.int .i64 2) = W48 at HS48 HI48 HG48 ⊢
    refine take_to 15 55 (.pointer (some ⟨gr, 4, none⟩)) rfl (by kernel_rfl) (by kernel_rfl) (by kernel_rfl) (fun _ _ _ h => (by cases h.1)) rfl (by rfl) (fun w hw => by kernel_rfl) HS48 ?_
    simp only [Act.put, List.setIfInBounds_toArray, List.set_cons_zero, List.set_cons_succ]
    refine wpAnyH_all (rs := [8, 12, 16]) (by kernel_rfl) (by simp) ?_
    intro n hn
    rcases (by simpa using hn : n = 8 ∨ n = 12 ∨ n = 16) with rfl | rfl | rfl
    · have HS49 : (W48.alloc (.cells #[byteOf k] 5)).heap[gs]? = some (.cells (stCells x).toArray 66 (0, 0)) := (Below.heap_alloc _ _ _ (Array.getElem?_eq_some_iff.1 HS48).1).trans HS48
      refine op_to 49 (.slice (some ⟨W48.heap.size, 0, none⟩) 1 1) (W48.alloc (.cells #[byteOf k] 5)) rfl rfl (by rfl) (by rw [buildSlice_op _ _ 30 1 0 (.tmp 48) rfl _ rfl]; exact buildByte _ _) ⟨HS49, ?_⟩
      simp only [Act.put, List.setIfInBounds_toArray, List.set_cons_zero, List.set_cons_succ]
      have HI49 := HI48.addKeep ((Below.refl _ _).alloc (Nat.le_refl _) _) W48.heap.size (.cells #[byteOf k] 5) (Nat.le_refl _) (heap_alloc_new W48 _)
      have HG49 : (W48.alloc (.cells #[byteOf k] 5)).heap[gr]? = _ := (Below.heap_alloc _ _ _ (Array.getElem?_eq_some_iff.1 HG48).1).trans HG48
      have hneA : gr ≠ W48.heap.size := Nat.ne_of_lt (Array.getElem?_eq_some_iff.1 HG48).1
      generalize W48.alloc (.cells #[byteOf k] 5) = W49 at HS49 HI49 HG49 ⊢
      generalize W48.heap.size = gA at HI49 hneA ⊢
      refine wpAnyH_all (rs := [12, 16]) (by kernel_rfl) (by simp) ?_
      intro n hn
      rcases (by simpa using hn : n = 12 ∨ n = 16) with rfl | rfl
      · have HS50 : (W49.alloc (.cells #[byteOf (k + 1)] 5)).heap[gs]? = some (.cells (stCells x).toArray 66 (0, 0)) := (Below.heap_alloc _ _ _ (Array.getElem?_eq_some_iff.1 HS49).1).trans HS49
        refine op_to 53 (.slice (some ⟨W49.heap.size, 0, none⟩) 1 1) (W49.alloc (.cells #[byteOf (k + 1)] 5)) rfl rfl (by rfl) (by rw [buildSlice_op _ _ 30 1 0 (.tmp 52) rfl _ rfl]; exact buildByte _ _) ⟨HS50, ?_⟩
        simp only [Act.put, List.setIfInBounds_toArray, List.set_cons_zero, List.set_cons_succ]
        have HI50 := HI49.addKeep ((Below.refl _ _).alloc (Nat.le_refl _) _) W49.heap.size (.cells #[byteOf (k + 1)] 5) (Nat.le_refl _) (heap_alloc_new W49 _)
        have HG50 : (W49.alloc (.cells #[byteOf (k + 1)] 5)).heap[gr]? = _ := (Below.heap_alloc _ _ _ (Array.getElem?_eq_some_iff.1 HG49).1).trans HG49
        have hneB : gr ≠ W49.heap.size := Nat.ne_of_lt (Array.getElem?_eq_some_iff.1 HG49).1
        generalize W49.alloc (.cells #[byteOf (k + 1)] 5) = W50 at HS50 HI50 HG50 ⊢
        generalize W49.heap.size = gB at HI50 hneB ⊢
        have HS51 : (W50.setCell ⟨gr, 4, none⟩ (.int .i64 (bits .and .i64 x.page 3))).heap[gs]? = some (.cells (stCells x).toArray 66 (0, 0)) := (heap_setCell_other W50 _ gs _ (by exact hne1)).trans HS50
        refine step_store_to 16 (W50.setCell ⟨gr, 4, none⟩ (.int .i64 (bits .and .i64 x.page 3))) rfl (by kernel_rfl) rfl (by rfl) 3 (.tmp 55) (.tmp 43) rfl (.pointer (some ⟨gr, 4, none⟩)) (.int .i64 (bits .and .i64 x.page 3)) rfl rfl (run_store3 W50 gr 4 _ _ (by rw [cell_of_row _ _ _ _ _ _ HG50]; rfl) (frozen_of_row _ _ _ _ _ HG50)) HS51 ?_
        have HI51 := HI50.setOther gr 4 (.int .i64 (bits .and .i64 x.page 3)) (hb_cons (hb_cons HNR.out.1 hneA) hneB) HNR.out.2
        have HG51 : (W50.setCell ⟨gr, 4, none⟩ (.int .i64 (bits .and .i64 x.page 3))).heap[gr]? = some (.cells (recCells { S.rec0 tt with kind := 2, page := bits .and .i64 x.page 3 }).toArray 32 (0, 0)) := (heap_setCell_same W50 gr 4 _ 32 _ HG50).trans rfl
        generalize W50.setCell ⟨gr, 4, none⟩ (.int .i64 (bits .and .i64 x.page 3)) = W51 at HS51 HI51 HG51 ⊢
        refine take_to 17 56 (.pointer (some ⟨gr, 5, none⟩)) rfl (by kernel_rfl) (by kernel_rfl) (by kernel_rfl) (fun _ _ _ h => (by cases h.1)) rfl (by rfl) (fun w hw => by kernel_rfl) HS51 ?_
        simp only [Act.put, List.setIfInBounds_toArray, List.set_cons_zero, List.set_cons_succ]
        have HS52 : (W51.setCell ⟨gr, 5, none⟩ (.int .i64 (bits .and .i64 x.off 7))).heap[gs]? = some (.cells (stCells x).toArray 66 (0, 0)) := (heap_setCell_other W51 _ gs _ (by exact hne1)).trans HS51
        refine step_store_to 18 (W51.setCell ⟨gr, 5, none⟩ (.int .i64 (bits .and .i64 x.off 7))) rfl (by kernel_rfl) rfl (by rfl) 3 (.tmp 56) (.tmp 46) rfl (.pointer (some ⟨gr, 5, none⟩)) (.int .i64 (bits .and .i64 x.off 7)) rfl rfl (run_store3 W51 gr 5 _ _ (by rw [cell_of_row _ _ _ _ _ _ HG51]; rfl) (frozen_of_row _ _ _ _ _ HG51)) HS52 ?_
        have HI52 := HI51.setOther gr 5 (.int .i64 (bits .and .i64 x.off 7)) (hb_cons (hb_cons HNR.out.1 hneA) hneB) HNR.out.2
        have HG52 : (W51.setCell ⟨gr, 5, none⟩ (.int .i64 (bits .and .i64 x.off 7))).heap[gr]? = some (.cells (recCells { S.rec0 tt with kind := 2, page := bits .and .i64 x.page 3, off := bits .and .i64 x.off 7 }).toArray 32 (0, 0)) := (heap_setCell_same W51 gr 5 _ 32 _ HG51).trans rfl
        generalize W51.setCell ⟨gr, 5, none⟩ (.int .i64 (bits .and .i64 x.off 7)) = W52 at HS52 HI52 HG52 ⊢
        refine take_to 19 57 (.pointer (some ⟨gr, 6, none⟩)) rfl (by kernel_rfl) (by kernel_rfl) (by kernel_rfl) (fun _ _ _ h => (by cases h.1)) rfl (by rfl) (fun w hw => by kernel_rfl) HS52 ?_
        simp only [Act.put, List.setIfInBounds_toArray, List.set_cons_zero, List.set_cons_succ]
        have HS53 : (W52.setCell ⟨gr, 6, none⟩ (.slice (some ⟨gA, 0, none⟩) 1 1)).heap[gs]? = some (.cells (stCells x).toArray 66 (0, 0)) := (heap_setCell_other W52 _ gs _ (by exact hne1)).trans HS52
        refine step_store_to 20 (W52.setCell ⟨gr, 6, none⟩ (.slice (some ⟨gA, 0, none⟩) 1 1)) rfl (by kernel_rfl) rfl (by rfl) 30 (.tmp 57) (.tmp 49) rfl (.pointer (some ⟨gr, 6, none⟩)) (.slice (some ⟨gA, 0, none⟩) 1 1) rfl rfl (run_store30 W52 gr 6 _ _ (by rw [cell_of_row _ _ _ _ _ _ HG52]; rfl) (frozen_of_row _ _ _ _ _ HG52)) HS53 ?_
        have HI53 := HI52.setOther gr 6 (.slice (some ⟨gA, 0, none⟩) 1 1) (hb_cons (hb_cons HNR.out.1 hneA) hneB) HNR.out.2
        have HG53 : (W52.setCell ⟨gr, 6, none⟩ (.slice (some ⟨gA, 0, none⟩) 1 1)).heap[gr]? = some (.cells (recCells { S.rec0 tt with kind := 2, page := bits .and .i64 x.page 3, off := bits .and .i64 x.off 7, sb := oneSv gA }).toArray 32 (0, 0)) := (heap_setCell_same W52 gr 6 _ 32 _ HG52).trans rfl
        generalize W52.setCell ⟨gr, 6, none⟩ (.slice (some ⟨gA, 0, none⟩) 1 1) = W53 at HS53 HI53 HG53 ⊢
        refine take_to 21 58 (.pointer (some ⟨gr, 7, none⟩)) rfl (by kernel_rfl) (by kernel_rfl) (by kernel_rfl) (fun _ _ _ h => (by cases h.1)) rfl (by rfl) (fun w hw => by kernel_rfl) HS53 ?_
        simp only [Act.put, List.setIfInBounds_toArray, List.set_cons_zero, List.set_cons_succ]
        have HS54 : (W53.setCell ⟨gr, 7, none⟩ (.slice (some ⟨gB, 0, none⟩) 1 1)).heap[gs]? = some (.cells (stCells x).toArray 66 (0, 0)) := (heap_setCell_other W53 _ gs _ (by exact hne1)).trans HS53
        refine step_store_to 22 (W53.setCell ⟨gr, 7, none⟩ (.slice (some ⟨gB, 0, none⟩) 1 1)) rfl (by kernel_rfl) rfl (by rfl) 30 (.tmp 58) (.tmp 53) rfl (.pointer (some ⟨gr, 7, none⟩)) (.slice (some ⟨gB, 0, none⟩) 1 1) rfl rfl (run_store30 W53 gr 7 _ _ (by rw [cell_of_row _ _ _ _ _ _ HG53]; rfl) (frozen_of_row _ _ _ _ _ HG53)) HS54 ?_
        have HI54 := HI53.setOther gr 7 (.slice (some ⟨gB, 0, none⟩) 1 1) (hb_cons (hb_cons HNR.out.1 hneA) hneB) HNR.out.2
        have HG54 : (W53.setCell ⟨gr, 7, none⟩ (.slice (some ⟨gB, 0, none⟩) 1 1)).heap[gr]? = some (.cells (recCells { S.rec0 tt with kind := 2, page := bits .and .i64 x.page 3, off := bits .and .i64 x.off 7, sb := oneSv gA, sa := oneSv gB }).toArray 32 (0, 0)) := (heap_setCell_same W53 gr 7 _ 32 _ HG53).trans rfl
        generalize W53.setCell ⟨gr, 7, none⟩ (.slice (some ⟨gB, 0, none⟩) 1 1) = W54 at HS54 HI54 HG54 ⊢
        refine wpAnyH_done (by kernel_rfl) ?_ _
        exact ⟨rfl, gA, gB, ⟨(HI54).swapK, HG54⟩, by rw [ha0]; kernel_rfl⟩
      · have HS55 : (W49.setCell ⟨gr, 4, none⟩ (.int .i64 (bits .and .i64 x.page 3))).heap[gs]? = some (.cells (stCells x).toArray 66 (0, 0)) := (heap_setCell_other W49 _ gs _ (by exact hne1)).trans HS49
        refine op_store_to (W49.setCell ⟨gr, 4, none⟩ (.int .i64 (bits .and .i64 x.page 3))) rfl rfl (by rfl) 3 (.tmp 55) (.tmp 43) rfl (.pointer (some ⟨gr, 4, none⟩)) (.int .i64 (bits .and .i64 x.page 3)) rfl rfl (run_store3 W49 gr 4 _ _ (by rw [cell_of_row _ _ _ _ _ _ HG49]; rfl) (frozen_of_row _ _ _ _ _ HG49)) ⟨HS55, ?_⟩
        have HI55 := HI49.setOther gr 4 (.int .i64 (bits .and .i64 x.page 3)) (hb_cons HNR.out.1 hneA) HNR.out.2
        have HG55 : (W49.setCell ⟨gr, 4, none⟩ (.int .i64 (bits .and .i64 x.page 3))).heap[gr]? = some (.cells (recCells { S.rec0 tt with kind := 2, page := bits .and .i64 x.page 3 }).toArray 32 (0, 0)) := (heap_setCell_same W49 gr 4 _ 32 _ HG49).trans rfl
        generalize W49.setCell ⟨gr, 4, none⟩ (.int .i64 (bits .and .i64 x.page 3)) = W55 at HS55 HI55 HG55 ⊢
        refine take_to 17 56 (.pointer (some ⟨gr, 5, none⟩)) rfl (by kernel_rfl) (by kernel_rfl) (by kernel_rfl) (fun _ _ _ h => (by cases h.1)) rfl (by rfl) (fun w hw => by kernel_rfl) HS55 ?_
        simp only [Act.put, List.setIfInBounds_toArray, List.set_cons_zero, List.set_cons_succ]
        refine wpAnyH_all (rs := [12, 18]) (by kernel_rfl) (by simp) ?_
        intro n hn
        rcases (by simpa using hn : n = 12 ∨ n = 18) with rfl | rfl
        · have HS56 : (W55.alloc (.cells #[byteOf (k + 1)] 5)).heap[gs]? = some (.cells (stCells x).toArray 66 (0, 0)) := (Below.heap_alloc _ _ _ (Array.getElem?_eq_some_iff.1 HS55).1).trans HS55
          refine op_to 53 (.slice (some ⟨W55.heap.size, 0, none⟩) 1 1) (W55.alloc (.cells #[byteOf (k + 1)] 5)) rfl rfl (by rfl) (by rw [buildSlice_op _ _ 30 1 0 (.tmp 52) rfl _ rfl]; exact buildByte _ _) ⟨HS56, ?_⟩
          simp only [Act.put, List.setIfInBounds_toArray, List.set_cons_zero, List.set_cons_succ]
          have HI56 := HI55.addKeep ((Below.refl _ _).alloc (Nat.le_refl _) _) W55.heap.size (.cells #[byteOf (k + 1)] 5) (Nat.le_refl _) (heap_alloc_new W55 _)
          have HG56 : (W55.alloc (.cells #[byteOf (k + 1)] 5)).heap[gr]? = _ := (Below.heap_alloc _ _ _ (Array.getElem?_eq_some_iff.1 HG55).1).trans HG55
          have hneB : gr ≠ W55.heap.size := Nat.ne_of_lt (Array.getElem?_eq_some_iff.1 HG55).1
          generalize W55.alloc (.cells #[byteOf (k + 1)] 5) = W56 at HS56 HI56 HG56 ⊢
          generalize W55.heap.size = gB at HI56 hneB ⊢
          have HS57 : (W56.setCell ⟨gr, 5, none⟩ (.int .i64 (bits .and .i64 x.off 7))).heap[gs]? = some (.cells (stCells x).toArray 66 (0, 0)) := (heap_setCell_other W56 _ gs _ (by exact hne1)).trans HS56
          refine step_store_to 18 (W56.setCell ⟨gr, 5, none⟩ (.int .i64 (bits .and .i64 x.off 7))) rfl (by kernel_rfl) rfl (by rfl) 3 (.tmp 56) (.tmp 46) rfl (.pointer (some ⟨gr, 5, none⟩)) (.int .i64 (bits .and .i64 x.off 7)) rfl rfl (run_store3 W56 gr 5 _ _ (by rw [cell_of_row _ _ _ _ _ _ HG56]; rfl) (frozen_of_row _ _ _ _ _ HG56)) HS57 ?_
          have HI57 := HI56.setOther gr 5 (.int .i64 (bits .and .i64 x.off 7)) (hb_cons (hb_cons HNR.out.1 hneA) hneB) HNR.out.2
          have HG57 : (W56.setCell ⟨gr, 5, none⟩ (.int .i64 (bits .and .i64 x.off 7))).heap[gr]? = some (.cells (recCells { S.rec0 tt with kind := 2, page := bits .and .i64 x.page 3, off := bits .and .i64 x.off 7 }).toArray 32 (0, 0)) := (heap_setCell_same W56 gr 5 _ 32 _ HG56).trans rfl
          generalize W56.setCell ⟨gr, 5, none⟩ (.int .i64 (bits .and .i64 x.off 7)) = W57 at HS57 HI57 HG57 ⊢
          refine take_to 19 57 (.pointer (some ⟨gr, 6, none⟩)) rfl (by kernel_rfl) (by kernel_rfl) (by kernel_rfl) (fun _ _ _ h => (by cases h.1)) rfl (by rfl) (fun w hw => by kernel_rfl) HS57 ?_
          simp only [Act.put, List.setIfInBounds_toArray, List.set_cons_zero, List.set_cons_succ]
          have HS58 : (W57.setCell ⟨gr, 6, none⟩ (.slice (some ⟨gA, 0, none⟩) 1 1)).heap[gs]? = some (.cells (stCells x).toArray 66 (0, 0)) := (heap_setCell_other W57 _ gs _ (by exact hne1)).trans HS57
          refine step_store_to 20 (W57.setCell ⟨gr, 6, none⟩ (.slice (some ⟨gA, 0, none⟩) 1 1)) rfl (by kernel_rfl) rfl (by rfl) 30 (.tmp 57) (.tmp 49) rfl (.pointer (some ⟨gr, 6, none⟩)) (.slice (some ⟨gA, 0, none⟩) 1 1) rfl rfl (run_store30 W57 gr 6 _ _ (by rw [cell_of_row _ _ _ _ _ _ HG57]; rfl) (frozen_of_row _ _ _ _ _ HG57)) HS58 ?_
          have HI58 := HI57.setOther gr 6 (.slice (some ⟨gA, 0, none⟩) 1 1) (hb_cons (hb_cons HNR.out.1 hneA) hneB) HNR.out.2
          have HG58 : (W57.setCell ⟨gr, 6, none⟩ (.slice (some ⟨gA, 0, none⟩) 1 1)).heap[gr]? = some (.cells (recCells { S.rec0 tt with kind := 2, page := bits .and .i64 x.page 3, off := bits .and .i64 x.off 7, sb := oneSv gA }).toArray 32 (0, 0)) := (heap_setCell_same W57 gr 6 _ 32 _ HG57).trans rfl
          generalize W57.setCell ⟨gr, 6, none⟩ (.slice (some ⟨gA, 0, none⟩) 1 1) = W58 at HS58 HI58 HG58 ⊢
          refine take_to 21 58 (.pointer (some ⟨gr, 7, none⟩)) rfl (by kernel_rfl) (by kernel_rfl) (by kernel_rfl) (fun _ _ _ h => (by cases h.1)) rfl (by rfl) (fun w hw => by kernel_rfl) HS58 ?_
          simp only [Act.put, List.setIfInBounds_toArray, List.set_cons_zero, List.set_cons_succ]
          have HS59 : (W58.setCell ⟨gr, 7, none⟩ (.slice (some ⟨gB, 0, none⟩) 1 1)).heap[gs]? = some (.cells (stCells x).toArray 66 (0, 0)) := (heap_setCell_other W58 _ gs _ (by exact hne1)).trans HS58
          refine step_store_to 22 (W58.setCell ⟨gr, 7, none⟩ (.slice (some ⟨gB, 0, none⟩) 1 1)) rfl (by kernel_rfl) rfl (by rfl) 30 (.tmp 58) (.tmp 53) rfl (.pointer (some ⟨gr, 7, none⟩)) (.slice (some ⟨gB, 0, none⟩) 1 1) rfl rfl (run_store30 W58 gr 7 _ _ (by rw [cell_of_row _ _ _ _ _ _ HG58]; rfl) (frozen_of_row _ _ _ _ _ HG58)) HS59 ?_
          have HI59 := HI58.setOther gr 7 (.slice (some ⟨gB, 0, none⟩) 1 1) (hb_cons (hb_cons HNR.out.1 hneA) hneB) HNR.out.2
          have HG59 : (W58.setCell ⟨gr, 7, none⟩ (.slice (some ⟨gB, 0, none⟩) 1 1)).heap[gr]? = some (.cells (recCells { S.rec0 tt with kind := 2, page := bits .and .i64 x.page 3, off := bits .and .i64 x.off 7, sb := oneSv gA, sa := oneSv gB }).toArray 32 (0, 0)) := (heap_setCell_same W58 gr 7 _ 32 _ HG58).trans rfl
          generalize W58.setCell ⟨gr, 7, none⟩ (.slice (some ⟨gB, 0, none⟩) 1 1) = W59 at HS59 HI59 HG59 ⊢
          refine wpAnyH_done (by kernel_rfl) ?_ _
          exact ⟨rfl, gA, gB, ⟨(HI59).swapK, HG59⟩, by rw [ha0]; kernel_rfl⟩
        · have HS60 : (W55.setCell ⟨gr, 5, none⟩ (.int .i64 (bits .and .i64 x.off 7))).heap[gs]? = some (.cells (stCells x).toArray 66 (0, 0)) := (heap_setCell_other W55 _ gs _ (by exact hne1)).trans HS55
          refine op_store_to (W55.setCell ⟨gr, 5, none⟩ (.int .i64 (bits .and .i64 x.off 7))) rfl rfl (by rfl) 3 (.tmp 56) (.tmp 46) rfl (.pointer (some ⟨gr, 5, none⟩)) (.int .i64 (bits .and .i64 x.off 7)) rfl rfl (run_store3 W55 gr 5 _ _ (by rw [cell_of_row _ _ _ _ _ _ HG55]; rfl) (frozen_of_row _ _ _ _ _ HG55)) ⟨HS60, ?_⟩
          have HI60 := HI55.setOther gr 5 (.int .i64 (bits .and .i64 x.off 7)) (hb_cons HNR.out.1 hneA) HNR.out.2
          have HG60 : (W55.setCell ⟨gr, 5, none⟩ (.int .i64 (bits .and .i64 x.off 7))).heap[gr]? = some (.cells (recCells { S.rec0 tt with kind := 2, page := bits .and .i64 x.page 3, off := bits .and .i64 x.off 7 }).toArray 32 (0, 0)) := (heap_setCell_same W55 gr 5 _ 32 _ HG55).trans rfl
          generalize W55.setCell ⟨gr, 5, none⟩ (.int .i64 (bits .and .i64 x.off 7)) = W60 at HS60 HI60 HG60 ⊢
          refine take_to 19 57 (.pointer (some ⟨gr, 6, none⟩)) rfl (by kernel_rfl) (by kernel_rfl) (by kernel_rfl) (fun _ _ _ h => (by cases h.1)) rfl (by rfl) (fun w hw => by kernel_rfl) HS60 ?_
          simp only [Act.put, List.setIfInBounds_toArray, List.set_cons_zero, List.set_cons_succ]
          refine wpAnyH_all (rs := [12, 20]) (by kernel_rfl) (by simp) ?_
          intro n hn
          rcases (by simpa using hn : n = 12 ∨ n = 20) with rfl | rfl
          · have HS61 : (W60.alloc (.cells #[byteOf (k + 1)] 5)).heap[gs]? = some (.cells (stCells x).toArray 66 (0, 0)) := (Below.heap_alloc _ _ _ (Array.getElem?_eq_some_iff.1 HS60).1).trans HS60
            refine op_to 53 (.slice (some ⟨W60.heap.size, 0, none⟩) 1 1) (W60.alloc (.cells #[byteOf (k + 1)] 5)) rfl rfl (by rfl) (by rw [buildSlice_op _ _ 30 1 0 (.tmp 52) rfl _ rfl]; exact buildByte _ _) ⟨HS61, ?_⟩
            simp only [Act.put, List.setIfInBounds_toArray, List.set_cons_zero, List.set_cons_succ]
            have HI61 := HI60.addKeep ((Below.refl _ _).alloc (Nat.le_refl _) _) W60.heap.size (.cells #[byteOf (k + 1)] 5) (Nat.le_refl _) (heap_alloc_new W60 _)
            have HG61 : (W60.alloc (.cells #[byteOf (k + 1)] 5)).heap[gr]? = _ := (Below.heap_alloc _ _ _ (Array.getElem?_eq_some_iff.1 HG60).1).trans HG60
            have hneB : gr ≠ W60.heap.size := Nat.ne_of_lt (Array.getElem?_eq_some_iff.1 HG60).1
            generalize W60.alloc (.cells #[byteOf (k + 1)] 5) = W61 at HS61 HI61 HG61 ⊢
            generalize W60.heap.size = gB at HI61 hneB ⊢
            have HS62 : (W61.setCell ⟨gr, 6, none⟩ (.slice (some ⟨gA, 0, none⟩) 1 1)).heap[gs]? = some (.cells (stCells x).toArray 66 (0, 0)) := (heap_setCell_other W61 _ gs _ (by exact hne1)).trans HS61
            refine step_store_to 20 (W61.setCell ⟨gr, 6, none⟩ (.slice (some ⟨gA, 0, none⟩) 1 1)) rfl (by kernel_rfl) rfl (by rfl) 30 (.tmp 57) (.tmp 49) rfl (.pointer (some ⟨gr, 6, none⟩)) (.slice (some ⟨gA, 0, none⟩) 1 1) rfl rfl (run_store30 W61 gr 6 _ _ (by rw [cell_of_row _ _ _ _ _ _ HG61]; rfl) (frozen_of_row _ _ _ _ _ HG61)) HS62 ?_
            have HI62 := HI61.setOther gr 6 (.slice (some ⟨gA, 0, none⟩) 1 1) (hb_cons (hb_cons HNR.out.1 hneA) hneB) HNR.out.2
            have HG62 : (W61.setCell ⟨gr, 6, none⟩ (.slice (some ⟨gA, 0, none⟩) 1 1)).heap[gr]? = some (.cells (recCells { S.rec0 tt with kind := 2, page := bits .and .i64 x.page 3, off := bits .and .i64 x.off 7, sb := oneSv gA }).toArray 32 (0, 0)) := (heap_setCell_same W61 gr 6 _ 32 _ HG61).trans rfl
            generalize W61.setCell ⟨gr, 6, none⟩ (.slice (some ⟨gA, 0, none⟩) 1 1) = W62 at HS62 HI62 HG62 ⊢
            refine take_to 21 58 (.pointer (some ⟨gr, 7, none⟩)) rfl (by kernel_rfl) (by kernel_rfl) (by kernel_rfl) (fun _ _ _ h => (by cases h.1)) rfl (by rfl) (fun w hw => by kernel_rfl) HS62 ?_
            simp only [Act.put, List.setIfInBounds_toArray, List.set_cons_zero, List.set_cons_succ]
            have HS63 : (W62.setCell ⟨gr, 7, none⟩ (.slice (some ⟨gB, 0, none⟩) 1 1)).heap[gs]? = some (.cells (stCells x).toArray 66 (0, 0)) := (heap_setCell_other W62 _ gs _ (by exact hne1)).trans HS62
            refine step_store_to 22 (W62.setCell ⟨gr, 7, none⟩ (.slice (some ⟨gB, 0, none⟩) 1 1)) rfl (by kernel_rfl) rfl (by rfl) 30 (.tmp 58) (.tmp 53) rfl (.pointer (some ⟨gr, 7, none⟩)) (.slice (some ⟨gB, 0, none⟩) 1 1) rfl rfl (run_store30 W62 gr 7 _ _ (by rw [cell_of_row _ _ _ _ _ _ HG62]; rfl) (frozen_of_row _ _ _ _ _ HG62)) HS63 ?_
            have HI63 := HI62.setOther gr 7 (.slice (some ⟨gB, 0, none⟩) 1 1) (hb_cons (hb_cons HNR.out.1 hneA) hneB) HNR.out.2
            have HG63 : (W62.setCell ⟨gr, 7, none⟩ (.slice (some ⟨gB, 0, none⟩) 1 1)).heap[gr]? = some (.cells (recCells { S.rec0 tt with kind := 2, page := bits .and .i64 x.page 3, off := bits .and .i64 x.off 7, sb := oneSv gA, sa := oneSv gB }).toArray 32 (0, 0)) := (heap_setCell_same W62 gr 7 _ 32 _ HG62).trans rfl
            generalize W62.setCell ⟨gr, 7, none⟩ (.slice (some ⟨gB, 0, none⟩) 1 1) = W63 at HS63 HI63 HG63 ⊢
            refine wpAnyH_done (by kernel_rfl) ?_ _
            exact ⟨rfl, gA, gB, ⟨(HI63).swapK, HG63⟩, by rw [ha0]; kernel_rfl⟩
          · have HS64 : (W60.setCell ⟨gr, 6, none⟩ (.slice (some ⟨gA, 0, none⟩) 1 1)).heap[gs]? = some (.cells (stCells x).toArray 66 (0, 0)) := (heap_setCell_other W60 _ gs _ (by exact hne1)).trans HS60
            refine op_store_to (W60.setCell ⟨gr, 6, none⟩ (.slice (some ⟨gA, 0, none⟩) 1 1)) rfl rfl (by rfl) 30 (.tmp 57) (.tmp 49) rfl (.pointer (some ⟨gr, 6, none⟩)) (.slice (some ⟨gA, 0, none⟩) 1 1) rfl rfl (run_store30 W60 gr 6 _ _ (by rw [cell_of_row _ _ _ _ _ _ HG60]; rfl) (frozen_of_row _ _ _ _ _ HG60)) ⟨HS64, ?_⟩
            have HI64 := HI60.setOther gr 6 (.slice (some ⟨gA, 0, none⟩) 1 1) (hb_cons HNR.out.1 hneA) HNR.out.2
            have HG64 : (W60.setCell ⟨gr, 6, none⟩ (.slice (some ⟨gA, 0, none⟩) 1 1)).heap[gr]? = some (.cells (recCells { S.rec0 tt with kind := 2, page := bits .and .i64 x.page 3, off := bits .and .i64 x.off 7, sb := oneSv gA }).toArray 32 (0, 0)) := (heap_setCell_same W60 gr 6 _ 32 _ HG60).trans rfl
            generalize W60.setCell ⟨gr, 6, none⟩ (.slice (some ⟨gA, 0, none⟩) 1 1) = W64 at HS64 HI64 HG64 ⊢
            have HS65 : (W64.alloc (.cells #[byteOf (k + 1)] 5)).heap[gs]? = some (.cells (stCells x).toArray 66 (0, 0)) := (Below.heap_alloc _ _ _ (Array.getElem?_eq_some_iff.1 HS64).1).trans HS64
            refine step_to 12 53 (.slice (some ⟨W64.heap.size, 0, none⟩) 1 1) (W64.alloc (.cells #[byteOf (k + 1)] 5)) rfl (by kernel_rfl) rfl (by rfl) (by rw [buildSlice_op _ _ 30 1 0 (.tmp 52) rfl _ rfl]; exact buildByte _ _) HS65 ?_
            simp only [Act.put, List.setIfInBounds_toArray, List.set_cons_zero, List.set_cons_succ]
            have HI65 := HI64.addKeep ((Below.refl _ _).alloc (Nat.le_refl _) _) W64.heap.size (.cells #[byteOf (k + 1)] 5) (Nat.le_refl _) (heap_alloc_new W64 _)
            have HG65 : (W64.alloc (.cells #[byteOf (k + 1)] 5)).heap[gr]? = _ := (Below.heap_alloc _ _ _ (Array.getElem?_eq_some_iff.1 HG64).1).trans HG64
            have hneB : gr ≠ W64.heap.size := Nat.ne_of_lt (Array.getElem?_eq_some_iff.1 HG64).1
            generalize W64.alloc (.cells #[byteOf (k + 1)] 5) = W65 at HS65 HI65 HG65 ⊢
            generalize W64.heap.size = gB at HI65 hneB ⊢
            refine take_to 21 58 (.pointer (some ⟨gr, 7, none⟩)) rfl (by kernel_rfl) (by kernel_rfl) (by kernel_rfl) (fun _ _ _ h => (by cases h.1)) rfl (by rfl) (fun w hw => by kernel_rfl) HS65 ?_
            simp only [Act.put, List.setIfInBounds_toArray, List.set_cons_zero, List.set_cons_succ]
            have HS66 : (W65.setCell ⟨gr, 7, none⟩ (.slice (some ⟨gB, 0, none⟩) 1 1)).heap[gs]? = some (.cells (stCells x).toArray 66 (0, 0)) := (heap_setCell_other W65 _ gs _ (by exact hne1)).trans HS65
            refine step_store_to 22 (W65.setCell ⟨gr, 7, none⟩ (.slice (some ⟨gB, 0, none⟩) 1 1)) rfl (by kernel_rfl) rfl (by rfl) 30 (.tmp 58) (.tmp 53) rfl (.pointer (some ⟨gr, 7, none⟩)) (.slice (some ⟨gB, 0, none⟩) 1 1) rfl rfl (run_store30 W65 gr 7 _ _ (by rw [cell_of_row _ _ _ _ _ _ HG65]; rfl) (frozen_of_row _ _ _ _ _ HG65)) HS66 ?_
            have HI66 := HI65.setOther gr 7 (.slice (some ⟨gB, 0, none⟩) 1 1) (hb_cons (hb_cons HNR.out.1 hneA) hneB) HNR.out.2
            have HG66 : (W65.setCell ⟨gr, 7, none⟩ (.slice (some ⟨gB, 0, none⟩) 1 1)).heap[gr]? = some (.cells (recCells { S.rec0 tt with kind := 2, page := bits .and .i64 x.page 3, off := bits .and .i64 x.off 7, sb := oneSv gA, sa := oneSv gB }).toArray 32 (0, 0)) := (heap_setCell_same W65 gr 7 _ 32 _ HG65).trans rfl
            generalize W65.setCell ⟨gr, 7, none⟩ (.slice (some ⟨gB, 0, none⟩) 1 1) = W66 at HS66 HI66 HG66 ⊢
            refine wpAnyH_done (by kernel_rfl) ?_ _
            exact ⟨rfl, gA, gB, ⟨(HI66).swapK, HG66⟩, by rw [ha0]; kernel_rfl⟩
    · have HS67 : (W48.alloc (.cells #[byteOf (k + 1)] 5)).heap[gs]? = some (.cells (stCells x).toArray 66 (0, 0)) := (Below.heap_alloc _ _ _ (Array.getElem?_eq_some_iff.1 HS48).1).trans HS48
      refine op_to 53 (.slice (some ⟨W48.heap.size, 0, none⟩) 1 1) (W48.alloc (.cells #[byteOf (k + 1)] 5)) rfl rfl (by rfl) (by rw [buildSlice_op _ _ 30 1 0 (.tmp 52) rfl _ rfl]; exact buildByte _ _) ⟨HS67, ?_⟩
      simp only [Act.put, List.setIfInBounds_toArray, List.set_cons_zero, List.set_cons_succ]
      have HI67 := HI48.addKeep ((Below.refl _ _).alloc (Nat.le_refl _) _) W48.heap.size (.cells #[byteOf (k + 1)] 5) (Nat.le_refl _) (heap_alloc_new W48 _)
      have HG67 : (W48.alloc (.cells #[byteOf (k + 1)] 5)).heap[gr]? = _ := (Below.heap_alloc _ _ _ (Array.getElem?_eq_some_iff.1 HG48).1).trans HG48
      have hneB : gr ≠ W48.heap.size := Nat.ne_of_lt (Array.getElem?_eq_some_iff.1 HG48).1
      generalize W48.alloc (.cells #[byteOf (k + 1)] 5) = W67 at HS67 HI67 HG67 ⊢
      generalize W48.heap.size = gB at HI67 hneB ⊢
      refine wpAnyH_all (rs := [8, 16]) (by kernel_rfl) (by simp) ?_
      intro n hn
      rcases (by simpa using hn : n = 8 ∨ n = 16) with rfl | rfl
      · have HS68 : (W67.alloc (.cells #[byteOf k] 5)).heap[gs]? = some (.cells (stCells x).toArray 66 (0, 0)) := (Below.heap_alloc _ _ _ (Array.getElem?_eq_some_iff.1 HS67).1).trans HS67
        refine op_to 49 (.slice (some ⟨W67.heap.size, 0, none⟩) 1 1) (W67.alloc (.cells #[byteOf k] 5)) rfl rfl (by rfl) (by rw [buildSlice_op _ _ 30 1 0 (.tmp 48) rfl _ rfl]; exact buildByte _ _) ⟨HS68, ?_⟩
        simp only [Act.put, List.setIfInBounds_toArray, List.set_cons_zero, List.set_cons_succ]
        have HI68 := HI67.addKeep ((Below.refl _ _).alloc (Nat.le_refl _) _) W67.heap.size (.cells #[byteOf k] 5) (Nat.le_refl _) (heap_alloc_new W67 _)
        have HG68 : (W67.alloc (.cells #[byteOf k] 5)).heap[gr]? = _ := (Below.heap_alloc _ _ _ (Array.getElem?_eq_some_iff.1 HG67).1).trans HG67
        have hneA : gr ≠ W67.heap.size := Nat.ne_of_lt (Array.getElem?_eq_some_iff.1 HG67).1
        generalize W67.alloc (.cells #[byteOf k] 5) = W68 at HS68 HI68 HG68 ⊢
        generalize W67.heap.size = gA at HI68 hneA ⊢
        have HS69 : (W68.setCell ⟨gr, 4, none⟩ (.int .i64 (bits .and .i64 x.page 3))).heap[gs]? = some (.cells (stCells x).toArray 66 (0, 0)) := (heap_setCell_other W68 _ gs _ (by exact hne1)).trans HS68
        refine step_store_to 16 (W68.setCell ⟨gr, 4, none⟩ (.int .i64 (bits .and .i64 x.page 3))) rfl (by kernel_rfl) rfl (by rfl) 3 (.tmp 55) (.tmp 43) rfl (.pointer (some ⟨gr, 4, none⟩)) (.int .i64 (bits .and .i64 x.page 3)) rfl rfl (run_store3 W68 gr 4 _ _ (by rw [cell_of_row _ _ _ _ _ _ HG68]; rfl) (frozen_of_row _ _ _ _ _ HG68)) HS69 ?_
        have HI69 := HI68.setOther gr 4 (.int .i64 (bits .and .i64 x.page 3)) (hb_cons (hb_cons HNR.out.1 hneB) hneA) HNR.out.2
        have HG69 : (W68.setCell ⟨gr, 4, none⟩ (.int .i64 (bits .and .i64 x.page 3))).heap[gr]? = some (.cells (recCells { S.rec0 tt with kind := 2, page := bits .and .i64 x.page 3 }).toArray 32 (0, 0)) := (heap_setCell_same W68 gr 4 _ 32 _ HG68).trans rfl
        generalize W68.setCell ⟨gr, 4, none⟩ (.int .i64 (bits .and .i64 x.page 3)) = W69 at HS69 HI69 HG69 ⊢
        refine take_to 17 56 (.pointer (some ⟨gr, 5, none⟩)) rfl (by kernel_rfl) (by kernel_rfl) (by kernel_rfl) (fun _ _ _ h => (by cases h.1)) rfl (by rfl) (fun w hw => by kernel_rfl) HS69 ?_
        simp only [Act.put, List.setIfInBounds_toArray, List.set_cons_zero, List.set_cons_succ]
        have HS70 : (W69.setCell ⟨gr, 5, none⟩ (.int .i64 (bits .and .i64 x.off 7))).heap[gs]? = some (.cells (stCells x).toArray 66 (0, 0)) := (heap_setCell_other W69 _ gs _ (by exact hne1)).trans HS69
        refine step_store_to 18 (W69.setCell ⟨gr, 5, none⟩ (.int .i64 (bits .and .i64 x.off 7))) rfl (by kernel_rfl) rfl (by rfl) 3 (.tmp 56) (.tmp 46) rfl (.pointer (some ⟨gr, 5, none⟩)) (.int .i64 (bits .and .i64 x.off 7)) rfl rfl (run_store3 W69 gr 5 _ _ (by rw [cell_of_row _ _ _ _ _ _ HG69]; rfl) (frozen_of_row _ _ _ _ _ HG69)) HS70 ?_
        have HI70 := HI69.setOther gr 5 (.int .i64 (bits .and .i64 x.off 7)) (hb_cons (hb_cons HNR.out.1 hneB) hneA) HNR.out.2
        have HG70 : (W69.setCell ⟨gr, 5, none⟩ (.int .i64 (bits .and .i64 x.off 7))).heap[gr]? = some (.cells (recCells { S.rec0 tt with kind := 2, page := bits .and .i64 x.page 3, off := bits .and .i64 x.off 7 }).toArray 32 (0, 0)) := (heap_setCell_same W69 gr 5 _ 32 _ HG69).trans rfl
        generalize W69.setCell ⟨gr, 5, none⟩ (.int .i64 (bits .and .i64 x.off 7)) = W70 at HS70 HI70 HG70 ⊢
        refine take_to 19 57 (.pointer (some ⟨gr, 6, none⟩)) rfl (by kernel_rfl) (by kernel_rfl) (by kernel_rfl) (fun _ _ _ h => (by cases h.1)) rfl (by rfl) (fun w hw => by kernel_rfl) HS70 ?_
        simp only [Act.put, List.setIfInBounds_toArray, List.set_cons_zero, List.set_cons_succ]
        have HS71 : (W70.setCell ⟨gr, 6, none⟩ (.slice (some ⟨gA, 0, none⟩) 1 1)).heap[gs]? = some (.cells (stCells x).toArray 66 (0, 0)) := (heap_setCell_other W70 _ gs _ (by exact hne1)).trans HS70
        refine step_store_to 20 (W70.setCell ⟨gr, 6, none⟩ (.slice (some ⟨gA, 0, none⟩) 1 1)) rfl (by kernel_rfl) rfl (by rfl) 30 (.tmp 57) (.tmp 49) rfl (.pointer (some ⟨gr, 6, none⟩)) (.slice (some ⟨gA, 0, none⟩) 1 1) rfl rfl (run_store30 W70 gr 6 _ _ (by rw [cell_of_row _ _ _ _ _ _ HG70]; rfl) (frozen_of_row _ _ _ _ _ HG70)) HS71 ?_
        have HI71 := HI70.setOther gr 6 (.slice (some ⟨gA, 0, none⟩) 1 1) (hb_cons (hb_cons HNR.out.1 hneB) hneA) HNR.out.2
        have HG71 : (W70.setCell ⟨gr, 6, none⟩ (.slice (some ⟨gA, 0, none⟩) 1 1)).heap[gr]? = some (.cells (recCells { S.rec0 tt with kind := 2, page := bits .and .i64 x.page 3, off := bits .and .i64 x.off 7, sb := oneSv gA }).toArray 32 (0, 0)) := (heap_setCell_same W70 gr 6 _ 32 _ HG70).trans rfl
        generalize W70.setCell ⟨gr, 6, none⟩ (.slice (some ⟨gA, 0, none⟩) 1 1) = W71 at HS71 HI71 HG71 ⊢
        refine take_to 21 58 (.pointer (some ⟨gr, 7, none⟩)) rfl (by kernel_rfl) (by kernel_rfl) (by kernel_rfl) (fun _ _ _ h => (by cases h.1)) rfl (by rfl) (fun w hw => by kernel_rfl) HS71 ?_
        simp only [Act.put, List.setIfInBounds_toArray, List.set_cons_zero, List.set_cons_succ]
        have HS72 : (W71.setCell ⟨gr, 7, none⟩ (.slice (some ⟨gB, 0, none⟩) 1 1)).heap[gs]? = some (.cells (stCells x).toArray 66 (0, 0)) := (heap_setCell_other W71 _ gs _ (by exact hne1)).trans HS71
        refine step_store_to 22 (W71.setCell ⟨gr, 7, none⟩ (.slice (some ⟨gB, 0, none⟩) 1 1)) rfl (by kernel_rfl) rfl (by rfl) 30 (.tmp 58) (.tmp 53) rfl (.pointer (some ⟨gr, 7, none⟩)) (.slice (some ⟨gB, 0, none⟩) 1 1) rfl rfl (run_store30 W71 gr 7 _ _ (by rw [cell_of_row _ _ _ _ _ _ HG71]; rfl) (frozen_of_row _ _ _ _ _ HG71)) HS72 ?_
        have HI72 := HI71.setOther gr 7 (.slice (some ⟨gB, 0, none⟩) 1 1) (hb_cons (hb_cons HNR.out.1 hneB) hneA) HNR.out.2
        have HG72 : (W71.setCell ⟨gr, 7, none⟩ (.slice (some ⟨gB, 0, none⟩) 1 1)).heap[gr]? = some (.cells (recCells { S.rec0 tt with kind := 2, page := bits .and .i64 x.page 3, off := bits .and .i64 x.off 7, sb := oneSv gA, sa := oneSv gB }).toArray 32 (0, 0)) := (heap_setCell_same W71 gr 7 _ 32 _ HG71).trans rfl
        generalize W71.setCell ⟨gr, 7, none⟩ (.slice (some ⟨gB, 0, none⟩) 1 1) = W72 at HS72 HI72 HG72 ⊢
        refine wpAnyH_done (by kernel_rfl) ?_ _
        exact ⟨rfl, gA, gB, ⟨HI72, HG72⟩, by rw [ha0]; kernel_rfl⟩
      · have HS73 : (W67.setCell ⟨gr, 4, none⟩ (.int .i64 (bits .and .i64 x.page 3))).heap[gs]? = some (.cells (stCells x).toArray 66 (0, 0)) := (heap_setCell_other W67 _ gs _ (by exact hne1)).trans HS67
        refine op_store_to (W67.setCell ⟨gr, 4, none⟩ (.int .i64 (bits .and .i64 x.page 3))) rfl rfl (by rfl) 3 (.tmp 55) (.tmp 43) rfl (.pointer (some ⟨gr, 4, none⟩)) (.int .i64 (bits .and .i64 x.page 3)) rfl rfl (run_store3 W67 gr 4 _ _ (by rw [cell_of_row _ _ _ _ _ _ HG67]; rfl) (frozen_of_row _ _ _ _ _ HG67)) ⟨HS73, ?_⟩
        have HI73 := HI67.setOther gr 4 (.int .i64 (bits .and .i64 x.page 3)) (hb_cons HNR.out.1 hneB) HNR.out.2
        have HG73 : (W67.setCell ⟨gr, 4, none⟩ (.int .i64 (bits .and .i64 x.page 3))).heap[gr]? = some (.cells (recCells { S.rec0 tt with kind := 2, page := bits .and .i64 x.page 3 }).toArray 32 (0, 0)) := (heap_setCell_same W67 gr 4 _ 32 _ HG67).trans rfl
        generalize W67.setCell ⟨gr, 4, none⟩ (.int .i64 (bits .and .i64 x.page 3)) = W73 at HS73 HI73 HG73 ⊢
        refine take_to 17 56 (.pointer (some ⟨gr, 5, none⟩)) rfl (by kernel_rfl) (by kernel_rfl) (by kernel_rfl) (fun _ _ _ h => (by cases h.1)) rfl (by rfl) (fun w hw => by kernel_rfl) HS73 ?_
        simp only [Act.put, List.setIfInBounds_toArray, List.set_cons_zero, List.set_cons_succ]
        refine wpAnyH_all (rs := [8, 18]) (by kernel_rfl) (by simp) ?_
        intro n hn
        rcases (by simpa using hn : n = 8 ∨ n = 18) with rfl | rfl
        · have HS74 : (W73.alloc (.cells #[byteOf k] 5)).heap[gs]? = some (.cells (stCells x).toArray 66 (0, 0)) := (Below.heap_alloc _ _ _ (Array.getElem?_eq_some_iff.1 HS73).1).trans HS73
          refine op_to 49 (.slice (some ⟨W73.heap.size, 0, none⟩) 1 1) (W73.alloc (.cells #[byteOf k] 5)) rfl rfl (by rfl) (by rw [buildSlice_op _ _ 30 1 0 (.tmp 48) rfl _ rfl]; exact buildByte _ _) ⟨HS74, ?_⟩
          simp only [Act.put, List.setIfInBounds_toArray, List.set_cons_zero, List.set_cons_succ]
          have HI74 := HI73.addKeep ((Below.refl _ _).alloc (Nat.le_refl _) _) W73.heap.size (.cells #[byteOf k] 5) (Nat.le_refl _) (heap_alloc_new W73 _)
          have HG74 : (W73.alloc (.cells #[byteOf k] 5)).heap[gr]? = _ := (Below.heap_alloc _ _ _ (Array.getElem?_eq_some_iff.1 HG73).1).trans HG73
          have hneA : gr ≠ W73.heap.size := Nat.ne_of_lt (Array.getElem?_eq_some_iff.1 HG73).1
          generalize W73.alloc (.cells #[byteOf k] 5) = W74 at HS74 HI74 HG74 ⊢
          generalize W73.heap.size = gA at HI74 hneA ⊢
          have HS75 : (W74.setCell ⟨gr, 5, none⟩ (.int .i64 (bits .and .i64 x.off 7))).heap[gs]? = some (.cells (stCells x).toArray 66 (0, 0)) := (heap_setCell_other W74 _ gs _ (by exact hne1)).trans HS74
          refine step_store_to 18 (W74.setCell ⟨gr, 5, none⟩ (.int .i64 (bits .and .i64 x.off 7))) rfl (by kernel_rfl) rfl (by rfl) 3 (.tmp 56) (.tmp 46) rfl (.pointer (some ⟨gr, 5, none⟩)) (.int .i64 (bits .and .i64 x.off 7)) rfl rfl (run_store3 W74 gr 5 _ _ (by rw [cell_of_row _ _ _ _ _ _ HG74]; rfl) (frozen_of_row _ _ _ _ _ HG74)) HS75 ?_
          have HI75 := HI74.setOther gr 5 (.int .i64 (bits .and .i64 x.off 7)) (hb_cons (hb_cons HNR.out.1 hneB) hneA) HNR.out.2
          have HG75 : (W74.setCell ⟨gr, 5, none⟩ (.int .i64 (bits .and .i64 x.off 7))).heap[gr]? = some (.cells (recCells { S.rec0 tt with kind := 2, page := bits .and .i64 x.page 3, off := bits .and .i64 x.off 7 }).toArray 32 (0, 0)) := (heap_setCell_same W74 gr 5 _ 32 _ HG74).trans rfl
          generalize W74.setCell ⟨gr, 5, none⟩ (.int .i64 (bits .and .i64 x.off 7)) = W75 at HS75 HI75 HG75 ⊢
          refine take_to 19 57 (.pointer (some ⟨gr, 6, none⟩)) rfl (by kernel_rfl) (by kernel_rfl) (by kernel_rfl) (fun _ _ _ h => (by cases h.1)) rfl (by rfl) (fun w hw => by kernel_rfl) HS75 ?_
          simp only [Act.put, List.setIfInBounds_toArray, List.set_cons_zero, List.set_cons_succ]
          have HS76 : (W75.setCell ⟨gr, 6, none⟩ (.slice (some ⟨gA, 0, none⟩) 1 1)).heap[gs]? = some (.cells (stCells x).toArray 66 (0, 0)) := (heap_setCell_other W75 _ gs _ (by exact hne1)).trans HS75
          refine step_store_to 20 (W75.setCell ⟨gr, 6, none⟩ (.slice (some ⟨gA, 0, none⟩) 1 1)) rfl (by kernel_rfl) rfl (by rfl) 30 (.tmp 57) (.tmp 49) rfl (.pointer (some ⟨gr, 6, none⟩)) (.slice (some ⟨gA, 0, none⟩) 1 1) rfl rfl (run_store30 W75 gr 6 _ _ (by rw [cell_of_row _ _ _ _ _ _ HG75]; rfl) (frozen_of_row _ _ _ _ _ HG75)) HS76 ?_
          have HI76 := HI75.setOther gr 6 (.slice (some ⟨gA, 0, none⟩) 1 1) (hb_cons (hb_cons HNR.out.1 hneB) hneA) HNR.out.2
          have HG76 : (W75.setCell ⟨gr, 6, none⟩ (.slice (some ⟨gA, 0, none⟩) 1 1)).heap[gr]? = some (.cells (recCells { S.rec0 tt with kind := 2, page := bits .and .i64 x.page 3, off := bits .and .i64 x.off 7, sb := oneSv gA }).toArray 32 (0, 0)) := (heap_setCell_same W75 gr 6 _ 32 _ HG75).trans rfl
          generalize W75.setCell ⟨gr, 6, none⟩ (.slice (some ⟨gA, 0, none⟩) 1 1) = W76 at HS76 HI76 HG76 ⊢
          refine take_to 21 58 (.pointer (some ⟨gr, 7, none⟩)) rfl (by kernel_rfl) (by kernel_rfl) (by kernel_rfl) (fun _ _ _ h => (by cases h.1)) rfl (by rfl) (fun w hw => by kernel_rfl) HS76 ?_
          simp only [Act.put, List.setIfInBounds_toArray, List.set_cons_zero, List.set_cons_succ]
          have HS77 : (W76.setCell ⟨gr, 7, none⟩ (.slice (some ⟨gB, 0, none⟩) 1 1)).heap[gs]? = some (.cells (stCells x).toArray 66 (0, 0)) := (heap_setCell_other W76 _ gs _ (by exact hne1)).trans HS76
          refine step_store_to 22 (W76.setCell ⟨gr, 7, none⟩ (.slice (some ⟨gB, 0, none⟩) 1 1)) rfl (by kernel_rfl) rfl (by rfl) 30 (.tmp 58) (.tmp 53) rfl (.pointer (some ⟨gr, 7, none⟩)) (.slice (some ⟨gB, 0, none⟩) 1 1) rfl rfl (run_store30 W76 gr 7 _ _ (by rw [cell_of_row _ _ _ _ _ _ HG76]; rfl) (frozen_of_row _ _ _ _ _ HG76)) HS77 ?_
          have HI77 := HI76.setOther gr 7 (.slice (some ⟨gB, 0, none⟩) 1 1) (hb_cons (hb_cons HNR.out.1 hneB) hneA) HNR.out.2
          have HG77 : (W76.setCell ⟨gr, 7, none⟩ (.slice (some ⟨gB, 0, none⟩) 1 1)).heap[gr]? = some (.cells (recCells { S.rec0 tt with kind := 2, page := bits .and .i64 x.page 3, off := bits .and .i64 x.off 7, sb := oneSv gA, sa := oneSv gB }).toArray 32 (0, 0)) := (heap_setCell_same W76 gr 7 _ 32 _ HG76).trans rfl
          generalize W76.setCell ⟨gr, 7, none⟩ (.slice (some ⟨gB, 0, none⟩) 1 1) = W77 at HS77 HI77 HG77 ⊢
          refine wpAnyH_done (by kernel_rfl) ?_ _
          exact ⟨rfl, gA, gB, ⟨HI77, HG77⟩, by rw [ha0]; kernel_rfl⟩
        · have HS78 : (W73.setCell ⟨gr, 5, none⟩ (.int .i64 (bits .and .i64 x.off 7))).heap[gs]? = some (.cells (stCells x).toArray 66 (0, 0)) := (heap_setCell_other W73 _ gs _ (by exact hne1)).trans HS73
          refine op_store_to (W73.setCell ⟨gr, 5, none⟩ (.int .i64 (bits .and .i64 x.off 7))) rfl rfl (by rfl) 3 (.tmp 56) (.tmp 46) rfl (.pointer (some ⟨gr, 5, none⟩)) (.int .i64 (bits .and .i64 x.off 7)) rfl rfl (run_store3 W73 gr 5 _ _ (by rw [cell_of_row _ _ _ _ _ _ HG73]; rfl) (frozen_of_row _ _ _ _ _ HG73)) ⟨HS78, ?_⟩
          have HI78 := HI73.setOther gr 5 (.int .i64 (bits .and .i64 x.off 7)) (hb_cons HNR.out.1 hneB) HNR.out.2
          have HG78 : (W73.setCell ⟨gr, 5, none⟩ (.int .i64 (bits .and .i64 x.off 7))).heap[gr]? = some (.cells (recCells { S.rec0 tt with kind := 2, page := bits .and .i64 x.page 3, off := bits .and .i64 x.off 7 }).toArray 32 (0, 0)) := (heap_setCell_same W73 gr 5 _ 32 _ HG73).trans rfl
          generalize W73.setCell ⟨gr, 5, none⟩ (.int .i64 (bits .and .i64 x.off 7)) = W78 at HS78 HI78 HG78 ⊢
          have HS79 : (W78.alloc (.cells #[byteOf k] 5)).heap[gs]? = some (.cells (stCells x).toArray 66 (0, 0)) := (Below.heap_alloc _ _ _ (Array.getElem?_eq_some_iff.1 HS78).1).trans HS78
          refine step_to 8 49 (.slice (some ⟨W78.heap.size, 0, none⟩) 1 1) (W78.alloc (.cells #[byteOf k] 5)) rfl (by kernel_rfl) rfl (by rfl) (by rw [buildSlice_op _ _ 30 1 0 (.tmp 48) rfl _ rfl]; exact buildByte _ _) HS79 ?_
          simp only [Act.put, List.setIfInBounds_toArray, List.set_cons_zero, List.set_cons_succ]
          have HI79 := HI78.addKeep ((Below.refl _ _).alloc (Nat.le_refl _) _) W78.heap.size (.cells #[byteOf k] 5) (Nat.le_refl _) (heap_alloc_new W78 _)
          have HG79 : (W78.alloc (.cells #[byteOf k] 5)).heap[gr]? = _ := (Below.heap_alloc _ _ _ (Array.getElem?_eq_some_iff.1 HG78).1).trans HG78
          have hneA : gr ≠ W78.heap.size := Nat.ne_of_lt (Array.getElem?_eq_some_iff.1 HG78).1
          generalize W78.alloc (.cells #[byteOf k] 5) = W79 at HS79 HI79 HG79 ⊢
          generalize W78.heap.size = gA at HI79 hneA ⊢
          refine take_to 19 57 (.pointer (some ⟨gr, 6, none⟩)) rfl (by kernel_rfl) (by kernel_rfl) (by kernel_rfl) (fun _ _ _ h => (by cases h.1)) rfl (by rfl) (fun w hw => by kernel_rfl) HS79 ?_
          simp only [Act.put, List.setIfInBounds_toArray, List.set_cons_zero, List.set_cons_succ]
          have HS80 : (W79.setCell ⟨gr, 6, none⟩ (.slice (some ⟨gA, 0, none⟩) 1 1)).heap[gs]? = some (.cells (stCells x).toArray 66 (0, 0)) := (heap_setCell_other W79 _ gs _ (by exact hne1)).trans HS79
          refine step_store_to 20 (W79.setCell ⟨gr, 6, none⟩ (.slice (some ⟨gA, 0, none⟩) 1 1)) rfl (by kernel_rfl) rfl (by rfl) 30 (.tmp 57) (.tmp 49) rfl (.pointer (some ⟨gr, 6, none⟩)) (.slice (some ⟨gA, 0, none⟩) 1 1) rfl rfl (run_store30 W79 gr 6 _ _ (by rw [cell_of_row _ _ _ _ _ _ HG79]; rfl) (frozen_of_row _ _ _ _ _ HG79)) HS80 ?_
          have HI80 := HI79.setOther gr 6 (.slice (some ⟨gA, 0, none⟩) 1 1) (hb_cons (hb_cons HNR.out.1 hneB) hneA) HNR.out.2
          have HG80 : (W79.setCell ⟨gr, 6, none⟩ (.slice (some ⟨gA, 0, none⟩) 1 1)).heap[gr]? = some (.cells (recCells { S.rec0 tt with kind := 2, page := bits .and .i64 x.page 3, off := bits .and .i64 x.off 7, sb := oneSv gA }).toArray 32 (0, 0)) := (heap_setCell_same W79 gr 6 _ 32 _ HG79).trans rfl
          generalize W79.setCell ⟨gr, 6, none⟩ (.slice (some ⟨gA, 0, none⟩) 1 1) = W80 at HS80 HI80 HG80 ⊢
          refine take_to 21 58 (.pointer (some ⟨gr, 7, none⟩)) rfl (by kernel_rfl) (by kernel_rfl) (by kernel_rfl) (fun _ _ _ h => (by cases h.1)) rfl (by rfl) (fun w hw => by kernel_rfl) HS80 ?_
          simp only [Act.put, List.setIfInBounds_toArray, List.set_cons_zero, List.set_cons_succ]
          have HS81 : (W80.setCell ⟨gr, 7, none⟩ (.slice (some ⟨gB, 0, none⟩) 1 1)).heap[gs]? = some (.cells (stCells x).toArray 66 (0, 0)) := (heap_setCell_other W80 _ gs _ (by exact hne1)).trans HS80
          refine step_store_to 22 (W80.setCell ⟨gr, 7, none⟩ (.slice (some ⟨gB, 0, none⟩) 1 1)) rfl (by kernel_rfl) rfl (by rfl) 30 (.tmp 58) (.tmp 53) rfl (.pointer (some ⟨gr, 7, none⟩)) (.slice (some ⟨gB, 0, none⟩) 1 1) rfl rfl (run_store30 W80 gr 7 _ _ (by rw [cell_of_row _ _ _ _ _ _ HG80]; rfl) (frozen_of_row _ _ _ _ _ HG80)) HS81 ?_
          have HI81 := HI80.setOther gr 7 (.slice (some ⟨gB, 0, none⟩) 1 1) (hb_cons (hb_cons HNR.out.1 hneB) hneA) HNR.out.2
          have HG81 : (W80.setCell ⟨gr, 7, none⟩ (.slice (some ⟨gB, 0, none⟩) 1 1)).heap[gr]? = some (.cells (recCells { S.rec0 tt with kind := 2, page := bits .and .i64 x.page 3, off := bits .and .i64 x.off 7, sb := oneSv gA, sa := oneSv gB }).toArray 32 (0, 0)) := (heap_setCell_same W80 gr 7 _ 32 _ HG80).trans rfl
          generalize W80.setCell ⟨gr, 7, none⟩ (.slice (some ⟨gB, 0, none⟩) 1 1) = W81 at HS81 HI81 HG81 ⊢
          refine wpAnyH_done (by kernel_rfl) ?_ _
          exact ⟨rfl, gA, gB, ⟨HI81, HG81⟩, by rw [ha0]; kernel_rfl⟩
    · have HS82 : (W48.setCell ⟨gr, 4, none⟩ (.int .i64 (bits .and .i64 x.page 3))).heap[gs]? = some (.cells (stCells x).toArray 66 (0, 0)) := (heap_setCell_other W48 _ gs _ (by exact hne1)).trans HS48
      refine op_store_to (W48.setCell ⟨gr, 4, none⟩ (.int .i64 (bits .and .i64 x.page 3))) rfl rfl (by rfl) 3 (.tmp 55) (.tmp 43) rfl (.pointer (some ⟨gr, 4, none⟩)) (.int .i64 (bits .and .i64 x.page 3)) rfl rfl (run_store3 W48 gr 4 _ _ (by rw [cell_of_row _ _ _ _ _ _ HG48]; rfl) (frozen_of_row _ _ _ _ _ HG48)) ⟨HS82, ?_⟩
      have HI82 := HI48.setOther gr 4 (.int .i64 (bits .and .i64 x.page 3)) HNR.out.1 HNR.out.2
      have HG82 : (W48.setCell ⟨gr, 4, none⟩ (.int .i64 (bits .and .i64 x.page 3))).heap[gr]? = some (.cells (recCells { S.rec0 tt with kind := 2, page := bits .and .i64 x.page 3 }).toArray 32 (0, 0)) := (heap_setCell_same W48 gr 4 _ 32 _ HG48).trans rfl
      generalize W48.setCell ⟨gr, 4, none⟩ (.int .i64 (bits .and .i64 x.page 3)) = W82 at HS82 HI82 HG82 ⊢
      refine take_to 17 56 (.pointer (some ⟨gr, 5, none⟩)) rfl (by kernel_rfl) (by kernel_rfl) (by kernel_rfl) (fun _ _ _ h => (by cases h.1)) rfl (by rfl) (fun w hw => by kernel_rfl) HS82 ?_
      simp only [Act.put, List.setIfInBounds_toArray, List.set_cons_zero, List.set_cons_succ]
      refine wpAnyH_all (rs := [8, 12, 18]) (by kernel_rfl) (by simp) ?_
      intro n hn
      rcases (by simpa using hn : n = 8 ∨ n = 12 ∨ n = 18) with rfl | rfl | rfl
      · have HS83 : (W82.alloc (.cells #[byteOf k] 5)).heap[gs]? = some (.cells (stCells x).toArray 66 (0, 0)) := (Below.heap_alloc _ _ _ (Array.getElem?_eq_some_iff.1 HS82).1).trans HS82
        refine op_to 49 (.slice (some ⟨W82.heap.size, 0, none⟩) 1 1) (W82.alloc (.cells #[byteOf k] 5)) rfl rfl (by rfl) (by rw [buildSlice_op _ _ 30 1 0 (.tmp 48) rfl _ rfl]; exact buildByte _ _) ⟨HS83, ?_⟩
        simp only [Act.put, List.setIfInBounds_toArray, List.set_cons_zero, List.set_cons_succ]
        have HI83 := HI82.addKeep ((Below.refl _ _).alloc (Nat.le_refl _) _) W82.heap.size (.cells #[byteOf k] 5) (Nat.le_refl _) (heap_alloc_new W82 _)
        have HG83 : (W82.alloc (.cells #[byteOf k] 5)).heap[gr]? = _ := (Below.heap_alloc _ _ _ (Array.getElem?_eq_some_iff.1 HG82).1).trans HG82
        have hneA : gr ≠ W82.heap.size := Nat.ne_of_lt (Array.getElem?_eq_some_iff.1 HG82).1
        generalize W82.alloc (.cells #[byteOf k] 5) = W83 at HS83 HI83 HG83 ⊢
        generalize W82.heap.size = gA at HI83 hneA ⊢
        refine wpAnyH_all (rs := [12, 18]) (by kernel_rfl) (by simp) ?_
        intro n hn
        rcases (by simpa using hn : n = 12 ∨ n = 18) with rfl | rfl
        · have HS84 : (W83.alloc (.cells #[byteOf (k + 1)] 5)).heap[gs]? = some (.cells (stCells x).toArray 66 (0, 0)) := (Below.heap_alloc _ _ _ (Array.getElem?_eq_some_iff.1 HS83).1).trans HS83
          refine op_to 53 (.slice (some ⟨W83.heap.size, 0, none⟩) 1 1) (W83.alloc (.cells #[byteOf (k + 1)] 5)) rfl rfl (by rfl) (by rw [buildSlice_op _ _ 30 1 0 (.tmp 52) rfl _ rfl]; exact buildByte _ _) ⟨HS84, ?_⟩
          simp only [Act.put, List.setIfInBounds_toArray, List.set_cons_zero, List.set_cons_succ]
          have HI84 := HI83.addKeep ((Below.refl _ _).alloc (Nat.le_refl _) _) W83.heap.size (.cells #[byteOf (k + 1)] 5) (Nat.le_refl _) (heap_alloc_new W83 _)
          have HG84 : (W83.alloc (.cells #[byteOf (k + 1)] 5)).heap[gr]? = _ := (Below.heap_alloc _ _ _ (Array.getElem?_eq_some_iff.1 HG83).1).trans HG83
          have hneB : gr ≠ W83.heap.size := Nat.ne_of_lt (Array.getElem?_eq_some_iff.1 HG83).1
          generalize W83.alloc (.cells #[byteOf (k + 1)] 5) = W84 at HS84 HI84 HG84 ⊢
          generalize W83.heap.size = gB at HI84 hneB ⊢
          have HS85 : (W84.setCell ⟨gr, 5, none⟩ (.int .i64 (bits .and .i64 x.off 7))).heap[gs]? = some (.cells (stCells x).toArray 66 (0, 0)) := (heap_setCell_other W84 _ gs _ (by exact hne1)).trans HS84
          refine step_store_to 18 (W84.setCell ⟨gr, 5, none⟩ (.int .i64 (bits .and .i64 x.off 7))) rfl (by kernel_rfl) rfl (by rfl) 3 (.tmp 56) (.tmp 46) rfl (.pointer (some ⟨gr, 5, none⟩)) (.int .i64 (bits .and .i64 x.off 7)) rfl rfl (run_store3 W84 gr 5 _ _ (by rw [cell_of_row _ _ _ _ _ _ HG84]; rfl) (frozen_of_row _ _ _ _ _ HG84)) HS85 ?_
          have HI85 := HI84.setOther gr 5 (.int .i64 (bits .and .i64 x.off 7)) (hb_cons (hb_cons HNR.out.1 hneA) hneB) HNR.out.2
          have HG85 : (W84.setCell ⟨gr, 5, none⟩ (.int .i64 (bits .and .i64 x.off 7))).heap[gr]? = some (.cells (recCells { S.rec0 tt with kind := 2, page := bits .and .i64 x.page 3, off := bits .and .i64 x.off 7 }).toArray 32 (0, 0)) := (heap_setCell_same W84 gr 5 _ 32 _ HG84).trans rfl
          generalize W84.setCell ⟨gr, 5, none⟩ (.int .i64 (bits .and .i64 x.off 7)) = W85 at HS85 HI85 HG85 ⊢
          refine take_to 19 57 (.pointer (some ⟨gr, 6, none⟩)) rfl (by kernel_rfl) (by kernel_rfl) (by kernel_rfl) (fun _ _ _ h => (by cases h.1)) rfl (by rfl) (fun w hw => by kernel_rfl) HS85 ?_
          simp only [Act.put, List.setIfInBounds_toArray, List.set_cons_zero, List.set_cons_succ]
          have HS86 : (W85.setCell ⟨gr, 6, none⟩ (.slice (some ⟨gA, 0, none⟩) 1 1)).heap[gs]? = some (.cells (stCells x).toArray 66 (0, 0)) := (heap_setCell_other W85 _ gs _ (by exact hne1)).trans HS85
          refine step_store_to 20 (W85.setCell ⟨gr, 6, none⟩ (.slice (some ⟨gA, 0, none⟩) 1 1)) rfl (by kernel_rfl) rfl (by rfl) 30 (.tmp 57) (.tmp 49) rfl (.pointer (some ⟨gr, 6, none⟩)) (.slice (some ⟨gA, 0, none⟩) 1 1) rfl rfl (run_store30 W85 gr 6 _ _ (by rw [cell_of_row _ _ _ _ _ _ HG85]; rfl) (frozen_of_row _ _ _ _ _ HG85)) HS86 ?_
          have HI86 := HI85.setOther gr 6 (.slice (some ⟨gA, 0, none⟩) 1 1) (hb_cons (hb_cons HNR.out.1 hneA) hneB) HNR.out.2
          have HG86 : (W85.setCell ⟨gr, 6, none⟩ (.slice (some ⟨gA, 0, none⟩) 1 1)).heap[gr]? = some (.cells (recCells { S.rec0 tt with kind := 2, page := bits .and .i64 x.page 3, off := bits .and .i64 x.off 7, sb := oneSv gA }).toArray 32 (0, 0)) := (heap_setCell_same W85 gr 6 _ 32 _ HG85).trans rfl
          generalize W85.setCell ⟨gr, 6, none⟩ (.slice (some ⟨gA, 0, none⟩) 1 1) = W86 at HS86 HI86 HG86 ⊢
          refine take_to 21 58 (.pointer (some ⟨gr, 7, none⟩)) rfl (by kernel_rfl) (by kernel_rfl) (by kernel_rfl) (fun _ _ _ h => (by cases h.1)) rfl (by rfl) (fun w hw => by kernel_rfl) HS86 ?_
          simp only [Act.put, List.setIfInBounds_toArray, List.set_cons_zero, List.set_cons_succ]
          have HS87 : (W86.setCell ⟨gr, 7, none⟩ (.slice (some ⟨gB, 0, none⟩) 1 1)).heap[gs]? = some (.cells (stCells x).toArray 66 (0, 0)) := (heap_setCell_other W86 _ gs _ (by exact hne1)).trans HS86
          refine step_store_to 22 (W86.setCell ⟨gr, 7, none⟩ (.slice (some ⟨gB, 0, none⟩) 1 1)) rfl (by kernel_rfl) rfl (by rfl) 30 (.tmp 58) (.tmp 53) rfl (.pointer (some ⟨gr, 7, none⟩)) (.slice (some ⟨gB, 0, none⟩) 1 1) rfl rfl (run_store30 W86 gr 7 _ _ (by rw [cell_of_row _ _ _ _ _ _ HG86]; rfl) (frozen_of_row _ _ _ _ _ HG86)) HS87 ?_
          have HI87 := HI86.setOther gr 7 (.slice (some ⟨gB, 0, none⟩) 1 1) (hb_cons (hb_cons HNR.out.1 hneA) hneB) HNR.out.2
          have HG87 : (W86.setCell ⟨gr, 7, none⟩ (.slice (some ⟨gB, 0, none⟩) 1 1)).heap[gr]? = some (.cells (recCells { S.rec0 tt with kind := 2, page := bits .and .i64 x.page 3, off := bits .and .i64 x.off 7, sb := oneSv gA, sa := oneSv gB }).toArray 32 (0, 0)) := (heap_setCell_same W86 gr 7 _ 32 _ HG86).trans rfl
          generalize W86.setCell ⟨gr, 7, none⟩ (.slice (some ⟨gB, 0, none⟩) 1 1) = W87 at HS87 HI87 HG87 ⊢
          refine wpAnyH_done (by kernel_rfl) ?_ _
          exact ⟨rfl, gA, gB, ⟨(HI87).swapK, HG87⟩, by rw [ha0]; kernel_rfl⟩
        · have HS88 : (W83.setCell ⟨gr, 5, none⟩ (.int .i64 (bits .and .i64 x.off 7))).heap[gs]? = some (.cells (stCells x).toArray 66 (0, 0)) := (heap_setCell_other W83 _ gs _ (by exact hne1)).trans HS83
          refine op_store_to (W83.setCell ⟨gr, 5, none⟩ (.int .i64 (bits .and .i64 x.off 7))) rfl rfl (by rfl) 3 (.tmp 56) (.tmp 46) rfl (.pointer (some ⟨gr, 5, none⟩)) (.int .i64 (bits .and .i64 x.off 7)) rfl rfl (run_store3 W83 gr 5 _ _ (by rw [cell_of_row _ _ _ _ _ _ HG83]; rfl) (frozen_of_row _ _ _ _ _ HG83)) ⟨HS88, ?_⟩
          have HI88 := HI83.setOther gr 5 (.int .i64 (bits .and .i64 x.off 7)) (hb_cons HNR.out.1 hneA) HNR.out.2
          have HG88 : (W83.setCell ⟨gr, 5, none⟩ (.int .i64 (bits .and .i64 x.off 7))).heap[gr]? = some (.cells (recCells { S.rec0 tt with kind := 2, page := bits .and .i64 x.page 3, off := bits .and .i64 x.off 7 }).toArray 32 (0, 0)) := (heap_setCell_same W83 gr 5 _ 32 _ HG83).trans rfl
          generalize W83.setCell ⟨gr, 5, none⟩ (.int .i64 (bits .and .i64 x.off 7)) = W88 at HS88 HI88 HG88 ⊢
          refine take_to 19 57 (.pointer (some ⟨gr, 6, none⟩)) rfl (by kernel_rfl) (by kernel_rfl) (by kernel_rfl) (fun _ _ _ h => (by cases h.1)) rfl (by rfl) (fun w hw => by kernel_rfl) HS88 ?_
          simp only [Act.put, List.setIfInBounds_toArray, List.set_cons_zero, List.set_cons_succ]
          refine wpAnyH_all (rs := [12, 20]) (by kernel_rfl) (by simp) ?_
          intro n hn
          rcases (by simpa using hn : n = 12 ∨ n = 20) with rfl | rfl
          · have HS89 : (W88.alloc (.cells #[byteOf (k + 1)] 5)).heap[gs]? = some (.cells (stCells x).toArray 66 (0, 0)) := (Below.heap_alloc _ _ _ (Array.getElem?_eq_some_iff.1 HS88).1).trans HS88
            refine op_to 53 (.slice (some ⟨W88.heap.size, 0, none⟩) 1 1) (W88.alloc (.cells #[byteOf (k + 1)] 5)) rfl rfl (by rfl) (by rw [buildSlice_op _ _ 30 1 0 (.tmp 52) rfl _ rfl]; exact buildByte _ _) ⟨HS89, ?_⟩
            simp only [Act.put, List.setIfInBounds_toArray, List.set_cons_zero, List.set_cons_succ]
            have HI89 := HI88.addKeep ((Below.refl _ _).alloc (Nat.le_refl _) _) W88.heap.size (.cells #[byteOf (k + 1)] 5) (Nat.le_refl _) (heap_alloc_new W88 _)
            have HG89 : (W88.alloc (.cells #[byteOf (k + 1)] 5)).heap[gr]? = _ := (Below.heap_alloc _ _ _ (Array.getElem?_eq_some_iff.1 HG88).1).trans HG88
            have hneB : gr ≠ W88.heap.size := Nat.ne_of_lt (Array.getElem?_eq_some_iff.1 HG88).1
            generalize W88.alloc (.cells #[byteOf (k + 1)] 5) = W89 at HS89 HI89 HG89 ⊢
            generalize W88.heap.size = gB at HI89 hneB ⊢
            have HS90 : (W89.setCell ⟨gr, 6, none⟩ (.slice (some ⟨gA, 0, none⟩) 1 1)).heap[gs]? = some (.cells (stCells x).toArray 66 (0, 0)) := (heap_setCell_other W89 _ gs _ (by exact hne1)).trans HS89
            refine step_store_to 20 (W89.setCell ⟨gr, 6, none⟩ (.slice (some ⟨gA, 0, none⟩) 1 1)) rfl (by kernel_rfl) rfl (by rfl) 30 (.tmp 57) (.tmp 49) rfl (.pointer (some ⟨gr, 6, none⟩)) (.slice (some ⟨gA, 0, none⟩) 1 1) rfl rfl (run_store30 W89 gr 6 _ _ (by rw [cell_of_row _ _ _ _ _ _ HG89]; rfl) (frozen_of_row _ _ _ _ _ HG89)) HS90 ?_
            have HI90 := HI89.setOther gr 6 (.slice (some ⟨gA, 0, none⟩) 1 1) (hb_cons (hb_cons HNR.out.1 hneA) hneB) HNR.out.2
            have HG90 : (W89.setCell ⟨gr, 6, none⟩ (.slice (some ⟨gA, 0, none⟩) 1 1)).heap[gr]? = some (.cells (recCells { S.rec0 tt with kind := 2, page := bits .and .i64 x.page 3, off := bits .and .i64 x.off 7, sb := oneSv gA }).toArray 32 (0, 0)) := (heap_setCell_same W89 gr 6 _ 32 _ HG89).trans rfl
            generalize W89.setCell ⟨gr, 6, none⟩ (.slice (some ⟨gA, 0, none⟩) 1 1) = W90 at HS90 HI90 HG90 ⊢
            refine take_to 21 58 (.pointer (some ⟨gr, 7, none⟩)) rfl (by kernel_rfl) (by kernel_rfl) (by kernel_rfl) (fun _ _ _ h => (by cases h.1)) rfl (by rfl) (fun w hw => by kernel_rfl) HS90 ?_
            simp only [Act.put, List.setIfInBounds_toArray, List.set_cons_zero, List.set_cons_succ]
            have HS91 : (W90.setCell ⟨gr, 7, none⟩ (.slice (some ⟨gB, 0, none⟩) 1 1)).heap[gs]? = some (.cells (stCells x).toArray 66 (0, 0)) := (heap_setCell_other W90 _ gs _ (by exact hne1)).trans HS90
            refine step_store_to 22 (W90.setCell ⟨gr, 7, none⟩ (.slice (some ⟨gB, 0, none⟩) 1 1)) rfl (by kernel_rfl) rfl (by rfl) 30 (.tmp 58) (.tmp 53) rfl (.pointer (some ⟨gr, 7, none⟩)) (.slice (some ⟨gB, 0, none⟩) 1 1) rfl rfl (run_store30 W90 gr 7 _ _ (by rw [cell_of_row _ _ _ _ _ _ HG90]; rfl) (frozen_of_row _ _ _ _ _ HG90)) HS91 ?_
            have HI91 := HI90.setOther gr 7 (.slice (some ⟨gB, 0, none⟩) 1 1) (hb_cons (hb_cons HNR.out.1 hneA) hneB) HNR.out.2
            have HG91 : (W90.setCell ⟨gr, 7, none⟩ (.slice (some ⟨gB, 0, none⟩) 1 1)).heap[gr]? = some (.cells (recCells { S.rec0 tt with kind := 2, page := bits .and .i64 x.page 3, off := bits .and .i64 x.off 7, sb := oneSv gA, sa := oneSv gB }).toArray 32 (0, 0)) := (heap_setCell_same W90 gr 7 _ 32 _ HG90).trans rfl
            generalize W90.setCell ⟨gr, 7, none⟩ (.slice (some ⟨gB, 0, none⟩) 1 1) = W91 at HS91 HI91 HG91 ⊢
            refine wpAnyH_done (by kernel_rfl) ?_ _
            exact ⟨rfl, gA, gB, ⟨(HI91).swapK, HG91⟩, by rw [ha0]; kernel_rfl⟩
          · have HS92 : (W88.setCell ⟨gr, 6, none⟩ (.slice (some ⟨gA, 0, none⟩) 1 1)).heap[gs]? = some (.cells (stCells x).toArray 66 (0, 0)) := (heap_setCell_other W88 _ gs _ (by exact hne1)).trans HS88
            refine op_store_to (W88.setCell ⟨gr, 6, none⟩ (.slice (some ⟨gA, 0, none⟩) 1 1)) rfl rfl (by rfl) 30 (.tmp 57) (.tmp 49) rfl (.pointer (some ⟨gr, 6, none⟩)) (.slice (some ⟨gA, 0, none⟩) 1 1) rfl rfl (run_store30 W88 gr 6 _ _ (by rw [cell_of_row _ _ _ _ _ _ HG88]; rfl) (frozen_of_row _ _ _ _ _ HG88)) ⟨HS92, ?_⟩
            have HI92 := HI88.setOther gr 6 (.slice (some ⟨gA, 0, none⟩) 1 1) (hb_cons HNR.out.1 hneA) HNR.out.2
            have HG92 : (W88.setCell ⟨gr, 6, none⟩ (.slice (some ⟨gA, 0, none⟩) 1 1)).heap[gr]? = some (.cells (recCells { S.rec0 tt with kind := 2, page := bits .and .i64 x.page 3, off := bits .and .i64 x.off 7, sb := oneSv gA }).toArray 32 (0, 0)) := (heap_setCell_same W88 gr 6 _ 32 _ HG88).trans rfl
            generalize W88.setCell ⟨gr, 6, none⟩ (.slice (some ⟨gA, 0, none⟩) 1 1) = W92 at HS92 HI92 HG92 ⊢
            have HS93 : (W92.alloc (.cells #[byteOf (k + 1)] 5)).heap[gs]? = some (.cells (stCells x).toArray 66 (0, 0)) := (Below.heap_alloc _ _ _ (Array.getElem?_eq_some_iff.1 HS92).1).trans HS92
            refine step_to 12 53 (.slice (some ⟨W92.heap.size, 0, none⟩) 1 1) (W92.alloc (.cells #[byteOf (k + 1)] 5)) rfl (by kernel_rfl) rfl (by rfl) (by rw [buildSlice_op _ _ 30 1 0 (.tmp 52) rfl _ rfl]; exact buildByte _ _) HS93 ?_
            simp only [Act.put, List.setIfInBounds_toArray, List.set_cons_zero, List.set_cons_succ]
            have HI93 := HI92.addKeep ((Below.refl _ _).alloc (Nat.le_refl _) _) W92.heap.size (.cells #[byteOf (k + 1)] 5) (Nat.le_refl _) (heap_alloc_new W92 _)
            have HG93 : (W92.alloc (.cells #[byteOf (k + 1)] 5)).heap[gr]? = _ := (Below.heap_alloc _ _ _ (Array.getElem?_eq_some_iff.1 HG92).1).trans HG92
            have hneB : gr ≠ W92.heap.size := Nat.ne_of_lt (Array.getElem?_eq_some_iff.1 HG92).1
            generalize W92.alloc (.cells #[byteOf (k + 1)] 5) = W93 at HS93 HI93 HG93 ⊢
            generalize W92.heap.size = gB at HI93 hneB ⊢
            refine take_to 21 58 (.pointer (some ⟨gr, 7, none⟩)) rfl (by kernel_rfl) (by kernel_rfl) (by kernel_rfl) (fun _ _ _ h => (by cases h.1)) rfl (by rfl) (fun w hw => by kernel_rfl) HS93 ?_
            simp only [Act.put, List.setIfInBounds_toArray, List.set_cons_zero, List.set_cons_succ]
            have HS94 : (W93.setCell ⟨gr, 7, none⟩ (.slice (some ⟨gB, 0, none⟩) 1 1)).heap[gs]? = some (.cells (stCells x).toArray 66 (0, 0)) := (heap_setCell_other W93 _ gs _ (by exact hne1)).trans HS93
            refine step_store_to 22 (W93.setCell ⟨gr, 7, none⟩ (.slice (some ⟨gB, 0, none⟩) 1 1)) rfl (by kernel_rfl) rfl (by rfl) 30 (.tmp 58) (.tmp 53) rfl (.pointer (some ⟨gr, 7, none⟩)) (.slice (some ⟨gB, 0, none⟩) 1 1) rfl rfl (run_store30 W93 gr 7 _ _ (by rw [cell_of_row _ _ _ _ _ _ HG93]; rfl) (frozen_of_row _ _ _ _ _ HG93)) HS94 ?_
            have HI94 := HI93.setOther gr 7 (.slice (some ⟨gB, 0, none⟩) 1 1) (hb_cons (hb_cons HNR.out.1 hneA) hneB) HNR.out.2
            have HG94 : (W93.setCell ⟨gr, 7, none⟩ (.slice (some ⟨gB, 0, none⟩) 1 1)).heap[gr]? = some (.cells (recCells { S.rec0 tt with kind := 2, page := bits .and .i64 x.page 3, off := bits .and .i64 x.off 7, sb := oneSv gA, sa := oneSv gB }).toArray 32 (0, 0)) := (heap_setCell_same W93 gr 7 _ 32 _ HG93).trans rfl
            generalize W93.setCell ⟨gr, 7, none⟩ (.slice (some ⟨gB, 0, none⟩) 1 1) = W94 at HS94 HI94 HG94 ⊢
            refine wpAnyH_done (by kernel_rfl) ?_ _
            exact ⟨rfl, gA, gB, ⟨(HI94).swapK, HG94⟩, by rw [ha0]; kernel_rfl⟩
      · have HS95 : (W82.alloc (.cells #[byteOf (k + 1)] 5)).heap[gs]? = some (.cells (stCells x).toArray 66 (0, 0)) := (Below.heap_alloc _ _ _ (Array.getElem?_eq_some_iff.1 HS82).1).trans HS82
        refine op_to 53 (.slice (some ⟨W82.heap.size, 0, none⟩) 1 1) (W82.alloc (.cells #[byteOf (k + 1)] 5)) rfl rfl (by rfl) (by rw [buildSlice_op _ _ 30 1 0 (.tmp 52) rfl _ rfl]; exact buildByte _ _) ⟨HS95, ?_⟩
        simp only [Act.put, List.setIfInBounds_toArray, List.set_cons_zero, List.set_cons_succ]
        have HI95 := HI82.addKeep ((Below.refl _ _).alloc (Nat.le_refl _) _) W82.heap.size (.cells #[byteOf (k + 1)] 5) (Nat.le_refl _) (heap_alloc_new W82 _)
        have HG95 : (W82.alloc (.cells #[byteOf (k + 1)] 5)).heap[gr]? = _ := (Below.heap_alloc _ _ _ (Array.getElem?_eq_some_iff.1 HG82).1).trans HG82
        have hneB : gr ≠ W82.heap.size := Nat.ne_of_lt (Array.getElem?_eq_some_iff.1 HG82).1
        generalize W82.alloc (.cells #[byteOf (k + 1)] 5) = W95 at HS95 HI95 HG95 ⊢
        generalize W82.heap.size = gB at HI95 hneB ⊢
        refine wpAnyH_all (rs := [8, 18]) (by kernel_rfl) (by simp) ?_
        intro n hn
        rcases (by simpa using hn : n = 8 ∨ n = 18) with rfl | rfl
        · have HS96 : (W95.alloc (.cells #[byteOf k] 5)).heap[gs]? = some (.cells (stCells x).toArray 66 (0, 0)) := (Below.heap_alloc _ _ _ (Array.getElem?_eq_some_iff.1 HS95).1).trans HS95
          refine op_to 49 (.slice (some ⟨W95.heap.size, 0, none⟩) 1 1) (W95.alloc (.cells #[byteOf k] 5)) rfl rfl (by rfl) (by rw [buildSlice_op _ _ 30 1 0 (.tmp 48) rfl _ rfl]; exact buildByte _ _) ⟨HS96, ?_⟩
          simp only [Act.put, List.setIfInBounds_toArray, List.set_cons_zero, List.set_cons_succ]
          have HI96 := HI95.addKeep ((Below.refl _ _).alloc (Nat.le_refl _) _) W95.heap.size (.cells #[byteOf k] 5) (Nat.le_refl _) (heap_alloc_new W95 _)
          have HG96 : (W95.alloc (.cells #[byteOf k] 5)).heap[gr]? = _ := (Below.heap_alloc _ _ _ (Array.getElem?_eq_some_iff.1 HG95).1).trans HG95
          have hneA : gr ≠ W95.heap.size := Nat.ne_of_lt (Array.getElem?_eq_some_iff.1 HG95).1
          generalize W95.alloc (.cells #[byteOf k] 5) = W96 at HS96 HI96 HG96 ⊢
          generalize W95.heap.size = gA at HI96 hneA ⊢
          have HS97 : (W96.setCell ⟨gr, 5, none⟩ (.int .i64 (bits .and .i64 x.off 7))).heap[gs]? = some (.cells (stCells x).toArray 66 (0, 0)) := (heap_setCell_other W96 _ gs _ (by exact hne1)).trans HS96
          refine step_store_to 18 (W96.setCell ⟨gr, 5, none⟩ (.int .i64 (bits .and .i64 x.off 7))) rfl (by kernel_rfl) rfl (by rfl) 3 (.tmp 56) (.tmp 46) rfl (.pointer (some ⟨gr, 5, none⟩)) (.int .i64 (bits .and .i64 x.off 7)) rfl rfl (run_store3 W96 gr 5 _ _ (by rw [cell_of_row _ _ _ _ _ _ HG96]; rfl) (frozen_of_row _ _ _ _ _ HG96)) HS97 ?_
          have HI97 := HI96.setOther gr 5 (.int .i64 (bits .and .i64 x.off 7)) (hb_cons (hb_cons HNR.out.1 hneB) hneA) HNR.out.2
          have HG97 : (W96.setCell ⟨gr, 5, none⟩ (.int .i64 (bits .and .i64 x.off 7))).heap[gr]? = some (.cells (recCells { S.rec0 tt with kind := 2, page := bits .and .i64 x.page 3, off := bits .and .i64 x.off 7 }).toArray 32 (0, 0)) := (heap_setCell_same W96 gr 5 _ 32 _ HG96).trans rfl
          generalize W96.setCell ⟨gr, 5, none⟩ (.int .i64 (bits .and .i64 x.off 7)) = W97 at HS97 HI97 HG97 ⊢
          refine take_to 19 57 (.pointer (some ⟨gr, 6, none⟩)) rfl (by kernel_rfl) (by kernel_rfl) (by kernel_rfl) (fun _ _ _ h => (by cases h.1)) rfl (by rfl) (fun w hw => by kernel_rfl) HS97 ?_
          simp only [Act.put, List.setIfInBounds_toArray, List.set_cons_zero, List.set_cons_succ]
          have HS98 : (W97.setCell ⟨gr, 6, none⟩ (.slice (some ⟨gA, 0, none⟩) 1 1)).heap[gs]? = some (.cells (stCells x).toArray 66 (0, 0)) := (heap_setCell_other W97 _ gs _ (by exact hne1)).trans HS97
          refine step_store_to 20 (W97.setCell ⟨gr, 6, none⟩ (.slice (some ⟨gA, 0, none⟩) 1 1)) rfl (by kernel_rfl) rfl (by rfl) 30 (.tmp 57) (.tmp 49) rfl (.pointer (some ⟨gr, 6, none⟩)) (.slice (some ⟨gA, 0, none⟩) 1 1) rfl rfl (run_store30 W97 gr 6 _ _ (by rw [cell_of_row _ _ _ _ _ _ HG97]; rfl) (frozen_of_row _ _ _ _ _ HG97)) HS98 ?_
          have HI98 := HI97.setOther gr 6 (.slice (some ⟨gA, 0, none⟩) 1 1) (hb_cons (hb_cons HNR.out.1 hneB) hneA) HNR.out.2
          have HG98 : (W97.setCell ⟨gr, 6, none⟩ (.slice (some ⟨gA, 0, none⟩) 1 1)).heap[gr]? = some (.cells (recCells { S.rec0 tt with kind := 2, page := bits .and .i64 x.page 3, off := bits .and .i64 x.off 7, sb := oneSv gA }).toArray 32 (0, 0)) := (heap_setCell_same W97 gr 6 _ 32 _ HG97).trans rfl
          generalize W97.setCell ⟨gr, 6, none⟩ (.slice (some ⟨gA, 0, none⟩) 1 1) = W98 at HS98 HI98 HG98 ⊢
          refine take_to 21 58 (.pointer (some ⟨gr, 7, none⟩)) rfl (by kernel_rfl) (by kernel_rfl) (by kernel_rfl) (fun _ _ _ h => (by cases h.1)) rfl (by rfl) (fun w hw => by kernel_rfl) HS98 ?_
          simp only [Act.put, List.setIfInBounds_toArray, List.set_cons_zero, List.set_cons_succ]
          have HS99 : (W98.setCell ⟨gr, 7, none⟩ (.slice (some ⟨gB, 0, none⟩) 1 1)).heap[gs]? = some (.cells (stCells x).toArray 66 (0, 0)) := (heap_setCell_other W98 _ gs _ (by exact hne1)).trans HS98
          refine step_store_to 22 (W98.setCell ⟨gr, 7, none⟩ (.slice (some ⟨gB, 0, none⟩) 1 1)) rfl (by kernel_rfl) rfl (by rfl) 30 (.tmp 58) (.tmp 53) rfl (.pointer (some ⟨gr, 7, none⟩)) (.slice (some ⟨gB, 0, none⟩) 1 1) rfl rfl (run_store30 W98 gr 7 _ _ (by rw [cell_of_row _ _ _ _ _ _ HG98]; rfl) (frozen_of_row _ _ _ _ _ HG98)) HS99 ?_
          have HI99 := HI98.setOther gr 7 (.slice (some ⟨gB, 0, none⟩) 1 1) (hb_cons (hb_cons HNR.out.1 hneB) hneA) HNR.out.2
          have HG99 : (W98.setCell ⟨gr, 7, none⟩ (.slice (some ⟨gB, 0, none⟩) 1 1)).heap[gr]? = some (.cells (recCells { S.rec0 tt with kind := 2, page := bits .and .i64 x.page 3, off := bits .and .i64 x.off 7, sb := oneSv gA, sa := oneSv gB }).toArray 32 (0, 0)) := (heap_setCell_same W98 gr 7 _ 32 _ HG98).trans rfl
          generalize W98.setCell ⟨gr, 7, none⟩ (.slice (some ⟨gB, 0, none⟩) 1 1) = W99 at HS99 HI99 HG99 ⊢
          refine wpAnyH_done (by kernel_rfl) ?_ _
          exact ⟨rfl, gA, gB, ⟨HI99, HG99⟩, by rw [ha0]; kernel_rfl⟩
        · have HS100 : (W95.setCell ⟨gr, 5, none⟩ (.int .i64 (bits .and .i64 x.off 7))).heap[gs]? = some (.cells (stCells x).toArray 66 (0, 0)) := (heap_setCell_other W95 _ gs _ (by exact hne1)).trans HS95
          refine op_store_to (W95.setCell ⟨gr, 5, none⟩ (.int .i64 (bits .and .i64 x.off 7))) rfl rfl (by rfl) 3 (.tmp 56) (.tmp 46) rfl (.pointer (some ⟨gr, 5, none⟩)) (.int .i64 (bits .and .i64 x.off 7)) rfl rfl (run_store3 W95 gr 5 _ _ (by rw [cell_of_row _ _ _ _ _ _ HG95]; rfl) (frozen_of_row _ _ _ _ _ HG95)) ⟨HS100, ?_⟩
          have HI100 := HI95.setOther gr 5 (.int .i64 (bits .and .i64 x.off 7)) (hb_cons HNR.out.1 hneB) HNR.out.2
          have HG100 : (W95.setCell ⟨gr, 5, none⟩ (.int .i64 (bits .and .i64 x.off 7))).heap[gr]? = some (.cells (recCells { S.rec0 tt with kind := 2, page := bits .and .i64 x.page 3, off := bits .and .i64 x.off 7 }).toArray 32 (0, 0)) := (heap_setCell_same W95 gr 5 _ 32 _ HG95).trans rfl
          generalize W95.setCell ⟨gr, 5, none⟩ (.int .i64 (bits .and .i64 x.off 7)) = W100 at HS100 HI100 HG100 ⊢
          have HS101 : (W100.alloc (.cells #[byteOf k] 5)).heap[gs]? = some (.cells (stCells x).toArray 66 (0, 0)) := (Below.heap_alloc _ _ _ (Array.getElem?_eq_some_iff.1 HS100).1).trans HS100
          refine step_to 8 49 (.slice (some ⟨W100.heap.size, 0, none⟩) 1 1) (W100.alloc (.cells #[byteOf k] 5)) rfl (by kernel_rfl) rfl (by rfl) (by rw [buildSlice_op _ _ 30 1 0 (.tmp 48) rfl _ rfl]; exact buildByte _ _) HS101 ?_
          simp only [Act.put, List.setIfInBounds_toArray, List.set_cons_zero, List.set_cons_succ]
          have HI101 := HI100.addKeep ((Below.refl _ _).alloc (Nat.le_refl _) _) W100.heap.size (.cells #[byteOf k] 5) (Nat.le_refl _) (heap_alloc_new W100 _)
          have HG101 : (W100.alloc (.cells #[byteOf k] 5)).heap[gr]? = _ := (Below.heap_alloc _ _ _ (Array.getElem?_eq_some_iff.1 HG100).1).trans HG100
          have hneA : gr ≠ W100.heap.size := Nat.ne_of_lt (Array.getElem?_eq_some_iff.1 HG100).1
          generalize W100.alloc (.cells #[byteOf k] 5) = W101 at HS101 HI101 HG101 ⊢
          generalize W100.heap.size = gA at HI101 hneA ⊢
          refine take_to 19 57 (.pointer (some ⟨gr, 6, none⟩)) rfl (by kernel_rfl) (by kernel_rfl) (by kernel_rfl) (fun _ _ _ h => (by cases h.1)) rfl (by rfl) (fun w hw => by kernel_rfl) HS101 ?_
          simp only [Act.put, List.setIfInBounds_toArray, List.set_cons_zero, List.set_cons_succ]
          have HS102 : (W101.setCell ⟨gr, 6, none⟩ (.slice (some ⟨gA, 0, none⟩) 1 1)).heap[gs]? = some (.cells (stCells x).toArray 66 (0, 0)) := (heap_setCell_other W101 _ gs _ (by exact hne1)).trans HS101
          refine step_store_to 20 (W101.setCell ⟨gr, 6, none⟩ (.slice (some ⟨gA, 0, none⟩) 1 1)) rfl (by kernel_rfl) rfl (by rfl) 30 (.tmp 57) (.tmp 49) rfl (.pointer (some ⟨gr, 6, none⟩)) (.slice (some ⟨gA, 0, none⟩) 1 1) rfl rfl (run_store30 W101 gr 6 _ _ (by rw [cell_of_row _ _ _ _ _ _ HG101]; rfl) (frozen_of_row _ _ _ _ _ HG101)) HS102 ?_
          have HI102 := HI101.setOther gr 6 (.slice (some ⟨gA, 0, none⟩) 1 1) (hb_cons (hb_cons HNR.out.1 hneB) hneA) HNR.out.2
          have HG102 : (W101.setCell ⟨gr, 6, none⟩ (.slice (some ⟨gA, 0, none⟩) 1 1)).heap[gr]? = some (.cells (recCells { S.rec0 tt with kind := 2, page := bits .and .i64 x.page 3, off := bits .and .i64 x.off 7, sb := oneSv gA }).toArray 32 (0, 0)) := (heap_setCell_same W101 gr 6 _ 32 _ HG101).trans rfl
          generalize W101.setCell ⟨gr, 6, none⟩ (.slice (some ⟨gA, 0, none⟩) 1 1) = W102 at HS102 HI102 HG102 ⊢
          refine take_to 21 58 (.pointer (some ⟨gr, 7, none⟩)) rfl (by kernel_rfl) (by kernel_rfl) (by kernel_rfl) (fun _ _ _ h => (by cases h.1)) rfl (by rfl) (fun w hw => by kernel_rfl) HS102 ?_
          simp only [Act.put, List.setIfInBounds_toArray, List.set_cons_zero, List.set_cons_succ]
          have HS103 : (W102.setCell ⟨gr, 7, none⟩ (.slice (some ⟨gB, 0, none⟩) 1 1)).heap[gs]? = some (.cells (stCells x).toArray 66 (0, 0)) := (heap_setCell_other W102 _ gs _ (by exact hne1)).trans HS102
          refine step_store_to 22 (W102.setCell ⟨gr, 7, none⟩ (.slice (some ⟨gB, 0, none⟩) 1 1)) rfl (by kernel_rfl) rfl (by rfl) 30 (.tmp 58) (.tmp 53) rfl (.pointer (some ⟨gr, 7, none⟩)) (.slice (some ⟨gB, 0, none⟩) 1 1) rfl rfl (run_store30 W102 gr 7 _ _ (by rw [cell_of_row _ _ _ _ _ _ HG102]; rfl) (frozen_of_row _ _ _ _ _ HG102)) HS103 ?_
          have HI103 := HI102.setOther gr 7 (.slice (some ⟨gB, 0, none⟩) 1 1) (hb_cons (hb_cons HNR.out.1 hneB) hneA) HNR.out.2
          have HG103 : (W102.setCell ⟨gr, 7, none⟩ (.slice (some ⟨gB, 0, none⟩) 1 1)).heap[gr]? = some (.cells (recCells { S.rec0 tt with kind := 2, page := bits .and .i64 x.page 3, off := bits .and .i64 x.off 7, sb := oneSv gA, sa := oneSv gB }).toArray 32 (0, 0)) := (heap_setCell_same W102 gr 7 _ 32 _ HG102).trans rfl
          generalize W102.setCell ⟨gr, 7, none⟩ (.slice (some ⟨gB, 0, none⟩) 1 1) = W103 at HS103 HI103 HG103 ⊢
          refine wpAnyH_done (by kernel_rfl) ?_ _
          exact ⟨rfl, gA, gB, ⟨HI103, HG103⟩, by rw [ha0]; kernel_rfl⟩
      · have HS104 : (W82.setCell ⟨gr, 5, none⟩ (.int .i64 (bits .and .i64 x.off 7))).heap[gs]? = some (.cells (stCells x).toArray 66 (0, 0)) := (heap_setCell_other W82 _ gs _ (by exact hne1)).trans HS82
        refine op_store_to (W82.setCell ⟨gr, 5, none⟩ (.int .i64 (bits .and .i64 x.off 7))) rfl rfl (by rfl) 3 (.tmp 56) (.tmp 46) rfl (.pointer (some ⟨gr, 5, none⟩)) (.int .i64 (bits .and .i64 x.off 7)) rfl rfl (run_store3 W82 gr 5 _ _ (by rw [cell_of_row _ _ _ _ _ _ HG82]; rfl) (frozen_of_row _ _ _ _ _ HG82)) ⟨HS104, ?_⟩
        have HI104 := HI82.setOther gr 5 (.int .i64 (bits .and .i64 x.off 7)) HNR.out.1 HNR.out.2
        have HG104 : (W82.setCell ⟨gr, 5, none⟩ (.int .i64 (bits .and .i64 x.off 7))).heap[gr]? = some (.cells (recCells { S.rec0 tt with kind := 2, page := bits .and .i64 x.page 3, off := bits .and .i64 x.off 7 }).toArray 32 (0, 0)) := (heap_setCell_same W82 gr 5 _ 32 _ HG82).trans rfl
        generalize W82.setCell ⟨gr, 5, none⟩ (.int .i64 (bits .and .i64 x.off 7)) = W104 at HS104 HI104 HG104 ⊢
        refine wpAnyH_all (rs := [8, 12]) (by kernel_rfl) (by simp) ?_
        intro n hn
        rcases (by simpa using hn : n = 8 ∨ n = 12) with rfl | rfl
        · have HS105 : (W104.alloc (.cells #[byteOf k] 5)).heap[gs]? = some (.cells (stCells x).toArray 66 (0, 0)) := (Below.heap_alloc _ _ _ (Array.getElem?_eq_some_iff.1 HS104).1).trans HS104
          refine op_to 49 (.slice (some ⟨W104.heap.size, 0, none⟩) 1 1) (W104.alloc (.cells #[byteOf k] 5)) rfl rfl (by rfl) (by rw [buildSlice_op _ _ 30 1 0 (.tmp 48) rfl _ rfl]; exact buildByte _ _) ⟨HS105, ?_⟩
          simp only [Act.put, List.setIfInBounds_toArray, List.set_cons_zero, List.set_cons_succ]
          have HI105 := HI104.addKeep ((Below.refl _ _).alloc (Nat.le_refl _) _) W104.heap.size (.cells #[byteOf k] 5) (Nat.le_refl _) (heap_alloc_new W104 _)
          have HG105 : (W104.alloc (.cells #[byteOf k] 5)).heap[gr]? = _ := (Below.heap_alloc _ _ _ (Array.getElem?_eq_some_iff.1 HG104).1).trans HG104
          have hneA : gr ≠ W104.heap.size := Nat.ne_of_lt (Array.getElem?_eq_some_iff.1 HG104).1
          generalize W104.alloc (.cells #[byteOf k] 5) = W105 at HS105 HI105 HG105 ⊢
          generalize W104.heap.size = gA at HI105 hneA ⊢
          refine take_to 19 57 (.pointer (some ⟨gr, 6, none⟩)) rfl (by kernel_rfl) (by kernel_rfl) (by kernel_rfl) (fun _ _ _ h => (by cases h.1)) rfl (by rfl) (fun w hw => by kernel_rfl) HS105 ?_
          simp only [Act.put, List.setIfInBounds_toArray, List.set_cons_zero, List.set_cons_succ]
          refine wpAnyH_all (rs := [12, 20]) (by kernel_rfl) (by simp) ?_
          intro n hn
          rcases (by simpa using hn : n = 12 ∨ n = 20) with rfl | rfl
          · have HS106 : (W105.alloc (.cells #[byteOf (k + 1)] 5)).heap[gs]? = some (.cells (stCells x).toArray 66 (0, 0)) := (Below.heap_alloc _ _ _ (Array.getElem?_eq_some_iff.1 HS105).1).trans HS105
            refine op_to 53 (.slice (some ⟨W105.heap.size, 0, none⟩) 1 1) (W105.alloc (.cells #[byteOf (k + 1)] 5)) rfl rfl (by rfl) (by rw [buildSlice_op _ _ 30 1 0 (.tmp 52) rfl _ rfl]; exact buildByte _ _) ⟨HS106, ?_⟩
            simp only [Act.put, List.setIfInBounds_toArray, List.set_cons_zero, List.set_cons_succ]
            have HI106 := HI105.addKeep ((Below.refl _ _).alloc (Nat.le_refl _) _) W105.heap.size (.cells #[byteOf (k + 1)] 5) (Nat.le_refl _) (heap_alloc_new W105 _)
            have HG106 : (W105.alloc (.cells #[byteOf (k + 1)] 5)).heap[gr]? = _ := (Below.heap_alloc _ _ _ (Array.getElem?_eq_some_iff.1 HG105).1).trans HG105
            have hneB : gr ≠ W105.heap.size := Nat.ne_of_lt (Array.getElem?_eq_some_iff.1 HG105).1
            generalize W105.alloc (.cells #[byteOf (k + 1)] 5) = W106 at HS106 HI106 HG106 ⊢
            generalize W105.heap.size = gB at HI106 hneB ⊢
            have HS107 : (W106.setCell ⟨gr, 6, none⟩ (.slice (some ⟨gA, 0, none⟩) 1 1)).heap[gs]? = some (.cells (stCells x).toArray 66 (0, 0)) := (heap_setCell_other W106 _ gs _ (by exact hne1)).trans HS106
            refine step_store_to 20 (W106.setCell ⟨gr, 6, none⟩ (.slice (some ⟨gA, 0, none⟩) 1 1)) rfl (by kernel_rfl) rfl (by rfl) 30 (.tmp 57) (.tmp 49) rfl (.pointer (some ⟨gr, 6, none⟩)) (.slice (some ⟨gA, 0, none⟩) 1 1) rfl rfl (run_store30 W106 gr 6 _ _ (by rw [cell_of_row _ _ _ _ _ _ HG106]; rfl) (frozen_of_row _ _ _ _ _ HG106)) HS107 ?_
            have HI107 := HI106.setOther gr 6 (.slice (some ⟨gA, 0, none⟩) 1 1) (hb_cons (hb_cons HNR.out.1 hneA) hneB) HNR.out.2
            have HG107 : (W106.setCell ⟨gr, 6, none⟩ (.slice (some ⟨gA, 0, none⟩) 1 1)).heap[gr]? = some (.cells (recCells { S.rec0 tt with kind := 2, page := bits .and .i64 x.page 3, off := bits .and .i64 x.off 7, sb := oneSv gA }).toArray 32 (0, 0)) := (heap_setCell_same W106 gr 6 _ 32 _ HG106).trans rfl
            generalize W106.setCell ⟨gr, 6, none⟩ (.slice (some ⟨gA, 0, none⟩) 1 1) = W107 at HS107 HI107 HG107 ⊢
            refine take_to 21 58 (.pointer (some ⟨gr, 7, none⟩)) rfl (by kernel_rfl) (by kernel_rfl) (by kernel_rfl) (fun _ _ _ h => (by cases h.1)) rfl (by rfl) (fun w hw => by kernel_rfl) HS107 ?_
            simp only [Act.put, List.setIfInBounds_toArray, List.set_cons_zero, List.set_cons_succ]
            have HS108 : (W107.setCell ⟨gr, 7, none⟩ (.slice (some ⟨gB, 0, none⟩) 1 1)).heap[gs]? = some (.cells (stCells x).toArray 66 (0, 0)) := (heap_setCell_other W107 _ gs _ (by exact hne1)).trans HS107
            refine step_store_to 22 (W107.setCell ⟨gr, 7, none⟩ (.slice (some ⟨gB, 0, none⟩) 1 1)) rfl (by kernel_rfl) rfl (by rfl) 30 (.tmp 58) (.tmp 53) rfl (.pointer (some ⟨gr, 7, none⟩)) (.slice (some ⟨gB, 0, none⟩) 1 1) rfl rfl (run_store30 W107 gr 7 _ _ (by rw [cell_of_row _ _ _ _ _ _ HG107]; rfl) (frozen_of_row _ _ _ _ _ HG107)) HS108 ?_
            have HI108 := HI107.setOther gr 7 (.slice (some ⟨gB, 0, none⟩) 1 1) (hb_cons (hb_cons HNR.out.1 hneA) hneB) HNR.out.2
            have HG108 : (W107.setCell ⟨gr, 7, none⟩ (.slice (some ⟨gB, 0, none⟩) 1 1)).heap[gr]? = some (.cells (recCells { S.rec0 tt with kind := 2, page := bits .and .i64 x.page 3, off := bits .and .i64 x.off 7, sb := oneSv gA, sa := oneSv gB }).toArray 32 (0, 0)) := (heap_setCell_same W107 gr 7 _ 32 _ HG107).trans rfl
            generalize W107.setCell ⟨gr, 7, none⟩ (.slice (some ⟨gB, 0, none⟩) 1 1) = W108 at HS108 HI108 HG108 ⊢
            refine wpAnyH_done (by kernel_rfl) ?_ _
            exact ⟨rfl, gA, gB, ⟨(HI108).swapK, HG108⟩, by rw [ha0]; kernel_rfl⟩
          · have HS109 : (W105.setCell ⟨gr, 6, none⟩ (.slice (some ⟨gA, 0, none⟩) 1 1)).heap[gs]? = some (.cells (stCells x).toArray 66 (0, 0)) := (heap_setCell_other W105 _ gs _ (by exact hne1)).trans HS105
            refine op_store_to (W105.setCell ⟨gr, 6, none⟩ (.slice (some ⟨gA, 0, none⟩) 1 1)) rfl rfl (by rfl) 30 (.tmp 57) (.tmp 49) rfl (.pointer (some ⟨gr, 6, none⟩)) (.slice (some ⟨gA, 0, none⟩) 1 1) rfl rfl (run_store30 W105 gr 6 _ _ (by rw [cell_of_row _ _ _ _ _ _ HG105]; rfl) (frozen_of_row _ _ _ _ _ HG105)) ⟨HS109, ?_⟩
            have HI109 := HI105.setOther gr 6 (.slice (some ⟨gA, 0, none⟩) 1 1) (hb_cons HNR.out.1 hneA) HNR.out.2
            have HG109 : (W105.setCell ⟨gr, 6, none⟩ (.slice (some ⟨gA, 0, none⟩) 1 1)).heap[gr]? = some (.cells (recCells { S.rec0 tt with kind := 2, page := bits .and .i64 x.page 3, off := bits .and .i64 x.off 7, sb := oneSv gA }).toArray 32 (0, 0)) := (heap_setCell_same W105 gr 6 _ 32 _ HG105).trans rfl
            generalize W105.setCell ⟨gr, 6, none⟩ (.slice (some ⟨gA, 0, none⟩) 1 1) = W109 at HS109 HI109 HG109 ⊢
            have HS110 : (W109.alloc (.cells #[byteOf (k + 1)] 5)).heap[gs]? = some (.cells (stCells x).toArray 66 (0, 0)) := (Below.heap_alloc _ _ _ (Array.getElem?_eq_some_iff.1 HS109).1).trans HS109
            refine step_to 12 53 (.slice (some ⟨W109.heap.size, 0, none⟩) 1 1) (W109.alloc (.cells #[byteOf (k + 1)] 5)) rfl (by kernel_rfl) rfl (by rfl) (by rw [buildSlice_op _ _ 30 1 0 (.tmp 52) rfl _ rfl]; exact buildByte _ _) HS110 ?_
            simp only [Act.put, List.setIfInBounds_toArray, List.set_cons_zero, List.set_cons_succ]
            have HI110 := HI109.addKeep ((Below.refl _ _).alloc (Nat.le_refl _) _) W109.heap.size (.cells #[byteOf (k + 1)] 5) (Nat.le_refl _) (heap_alloc_new W109 _)
            have HG110 : (W109.alloc (.cells #[byteOf (k + 1)] 5)).heap[gr]? = _ := (Below.heap_alloc _ _ _ (Array.getElem?_eq_some_iff.1 HG109).1).trans HG109
            have hneB : gr ≠ W109.heap.size := Nat.ne_of_lt (Array.getElem?_eq_some_iff.1 HG109).1
            generalize W109.alloc (.cells #[byteOf (k + 1)] 5) = W110 at HS110 HI110 HG110 ⊢
            generalize W109.heap.size = gB at HI110 hneB ⊢
            refine take_to 21 58 (.pointer (some ⟨gr, 7, none⟩)) rfl (by kernel_rfl) (by kernel_rfl) (by kernel_rfl) (fun _ _ _ h => (by cases h.1)) rfl (by rfl) (fun w hw => by kernel_rfl) HS110 ?_
            simp only [Act.put, List.setIfInBounds_toArray, List.set_cons_zero, List.set_cons_succ]
            have HS111 : (W110.setCell ⟨gr, 7, none⟩ (.slice (some ⟨gB, 0, none⟩) 1 1)).heap[gs]? = some (.cells (stCells x).toArray 66 (0, 0)) := (heap_setCell_other W110 _ gs _ (by exact hne1)).trans HS110
            refine step_store_to 22 (W110.setCell ⟨gr, 7, none⟩ (.slice (some ⟨gB, 0, none⟩) 1 1)) rfl (by kernel_rfl) rfl (by rfl) 30 (.tmp 58) (.tmp 53) rfl (.pointer (some ⟨gr, 7, none⟩)) (.slice (some ⟨gB, 0, none⟩) 1 1) rfl rfl (run_store30 W110 gr 7 _ _ (by rw [cell_of_row _ _ _ _ _ _ HG110]; rfl) (frozen_of_row _ _ _ _ _ HG110)) HS111 ?_
            have HI111 := HI110.setOther gr 7 (.slice (some ⟨gB, 0, none⟩) 1 1) (hb_cons (hb_cons HNR.out.1 hneA) hneB) HNR.out.2
            have HG111 : (W110.setCell ⟨gr, 7, none⟩ (.slice (some ⟨gB, 0, none⟩) 1 1)).heap[gr]? = some (.cells (recCells { S.rec0 tt with kind := 2, page := bits .and .i64 x.page 3, off := bits .and .i64 x.off 7, sb := oneSv gA, sa := oneSv gB }).toArray 32 (0, 0)) := (heap_setCell_same W110 gr 7 _ 32 _ HG110).trans rfl
            generalize W110.setCell ⟨gr, 7, none⟩ (.slice (some ⟨gB, 0, none⟩) 1 1) = W111 at HS111 HI111 HG111 ⊢
            refine wpAnyH_done (by kernel_rfl) ?_ _
            exact ⟨rfl, gA, gB, ⟨(HI111).swapK, HG111⟩, by rw [ha0]; kernel_rfl⟩
        · have HS112 : (W104.alloc (.cells #[byteOf (k + 1)] 5)).heap[gs]? = some (.cells (stCells x).toArray 66 (0, 0)) := (Below.heap_alloc _ _ _ (Array.getElem?_eq_some_iff.1 HS104).1).trans HS104
          refine op_to 53 (.slice (some ⟨W104.heap.size, 0, none⟩) 1 1) (W104.alloc (.cells #[byteOf (k + 1)] 5)) rfl rfl (by rfl) (by rw [buildSlice_op _ _ 30 1 0 (.tmp 52) rfl _ rfl]; exact buildByte _ _) ⟨HS112, ?_⟩
          simp only [Act.put, List.setIfInBounds_toArray, List.set_cons_zero, List.set_cons_succ]
          have HI112 := HI104.addKeep ((Below.refl _ _).alloc (Nat.le_refl _) _) W104.heap.size (.cells #[byteOf (k + 1)] 5) (Nat.le_refl _) (heap_alloc_new W104 _)
          have HG112 : (W104.alloc (.cells #[byteOf (k + 1)] 5)).heap[gr]? = _ := (Below.heap_alloc _ _ _ (Array.getElem?_eq_some_iff.1 HG104).1).trans HG104
          have hneB : gr ≠ W104.heap.size := Nat.ne_of_lt (Array.getElem?_eq_some_iff.1 HG104).1
          generalize W104.alloc (.cells #[byteOf (k + 1)] 5) = W112 at HS112 HI112 HG112 ⊢
          generalize W104.heap.size = gB at HI112 hneB ⊢
          have HS113 : (W112.alloc (.cells #[byteOf k] 5)).heap[gs]? = some (.cells (stCells x).toArray 66 (0, 0)) := (Below.heap_alloc _ _ _ (Array.getElem?_eq_some_iff.1 HS112).1).trans HS112
          refine step_to 8 49 (.slice (some ⟨W112.heap.size, 0, none⟩) 1 1) (W112.alloc (.cells #[byteOf k] 5)) rfl (by kernel_rfl) rfl (by rfl) (by rw [buildSlice_op _ _ 30 1 0 (.tmp 48) rfl _ rfl]; exact buildByte _ _) HS113 ?_
          simp only [Act.put, List.setIfInBounds_toArray, List.set_cons_zero, List.set_cons_succ]
          have HI113 := HI112.addKeep ((Below.refl _ _).alloc (Nat.le_refl _) _) W112.heap.size (.cells #[byteOf k] 5) (Nat.le_refl _) (heap_alloc_new W112 _)
          have HG113 : (W112.alloc (.cells #[byteOf k] 5)).heap[gr]? = _ := (Below.heap_alloc _ _ _ (Array.getElem?_eq_some_iff.1 HG112).1).trans HG112
          have hneA : gr ≠ W112.heap.size := Nat.ne_of_lt (Array.getElem?_eq_some_iff.1 HG112).1
          generalize W112.alloc (.cells #[byteOf k] 5) = W113 at HS113 HI113 HG113 ⊢
          generalize W112.heap.size = gA at HI113 hneA ⊢
          refine take_to 19 57 (.pointer (some ⟨gr, 6, none⟩)) rfl (by kernel_rfl) (by kernel_rfl) (by kernel_rfl) (fun _ _ _ h => (by cases h.1)) rfl (by rfl) (fun w hw => by kernel_rfl) HS113 ?_
          simp only [Act.put, List.setIfInBounds_toArray, List.set_cons_zero, List.set_cons_succ]
          have HS114 : (W113.setCell ⟨gr, 6, none⟩ (.slice (some ⟨gA, 0, none⟩) 1 1)).heap[gs]? = some (.cells (stCells x).toArray 66 (0, 0)) := (heap_setCell_other W113 _ gs _ (by exact hne1)).trans HS113
          refine step_store_to 20 (W113.setCell ⟨gr, 6, none⟩ (.slice (some ⟨gA, 0, none⟩) 1 1)) rfl (by kernel_rfl) rfl (by rfl) 30 (.tmp 57) (.tmp 49) rfl (.pointer (some ⟨gr, 6, none⟩)) (.slice (some ⟨gA, 0, none⟩) 1 1) rfl rfl (run_store30 W113 gr 6 _ _ (by rw [cell_of_row _ _ _ _ _ _ HG113]; rfl) (frozen_of_row _ _ _ _ _ HG113)) HS114 ?_
          have HI114 := HI113.setOther gr 6 (.slice (some ⟨gA, 0, none⟩) 1 1) (hb_cons (hb_cons HNR.out.1 hneB) hneA) HNR.out.2
          have HG114 : (W113.setCell ⟨gr, 6, none⟩ (.slice (some ⟨gA, 0, none⟩) 1 1)).heap[gr]? = some (.cells (recCells { S.rec0 tt with kind := 2, page := bits .and .i64 x.page 3, off := bits .and .i64 x.off 7, sb := oneSv gA }).toArray 32 (0, 0)) := (heap_setCell_same W113 gr 6 _ 32 _ HG113).trans rfl
          generalize W113.setCell ⟨gr, 6, none⟩ (.slice (some ⟨gA, 0, none⟩) 1 1) = W114 at HS114 HI114 HG114 ⊢
          refine take_to 21 58 (.pointer (some ⟨gr, 7, none⟩)) rfl (by kernel_rfl) (by kernel_rfl) (by kernel_rfl) (fun _ _ _ h => (by cases h.1)) rfl (by rfl) (fun w hw => by kernel_rfl) HS114 ?_
          simp only [Act.put, List.setIfInBounds_toArray, List.set_cons_zero, List.set_cons_succ]
          have HS115 : (W114.setCell ⟨gr, 7, none⟩ (.slice (some ⟨gB, 0, none⟩) 1 1)).heap[gs]? = some (.cells (stCells x).toArray 66 (0, 0)) := (heap_setCell_other W114 _ gs _ (by exact hne1)).trans HS114
          refine step_store_to 22 (W114.setCell ⟨gr, 7, none⟩ (.slice (some ⟨gB, 0, none⟩) 1 1)) rfl (by kernel_rfl) rfl (by rfl) 30 (.tmp 58) (.tmp 53) rfl (.pointer (some ⟨gr, 7, none⟩)) (.slice (some ⟨gB, 0, none⟩) 1 1) rfl rfl (run_store30 W114 gr 7 _ _ (by rw [cell_of_row _ _ _ _ _ _ HG114]; rfl) (frozen_of_row _ _ _ _ _ HG114)) HS115 ?_
          have HI115 := HI114.setOther gr 7 (.slice (some ⟨gB, 0, none⟩) 1 1) (hb_cons (hb_cons HNR.out.1 hneB) hneA) HNR.out.2
          have HG115 : (W114.setCell ⟨gr, 7, none⟩ (.slice (some ⟨gB, 0, none⟩) 1 1)).heap[gr]? = some (.cells (recCells { S.rec0 tt with kind := 2, page := bits .and .i64 x.page 3, off := bits .and .i64 x.off 7, sb := oneSv gA, sa := oneSv gB }).toArray 32 (0, 0)) := (heap_setCell_same W114 gr 7 _ 32 _ HG114).trans rfl
          generalize W114.setCell ⟨gr, 7, none⟩ (.slice (some ⟨gB, 0, none⟩) 1 1) = W115 at HS115 HI115 HG115 ⊢
          refine wpAnyH_done (by kernel_rfl) ?_ _
          exact ⟨rfl, gA, gB, ⟨HI115, HG115⟩, by rw [ha0]; kernel_rfl⟩
end Go.Proofs.Ytpjppolbkdnkaaa
