/- The walk of KeyOrder: its first part. -/
import Derived.Test.YtojhaikafbnonaaAwake
import Derived.Test.YtojhaikafbnonaaBack
import Derived.Deep.DeepCutAuto
namespace Go.Proofs.Ytojhaikafbnonaa
open Go.RowKit
set_option linter.unusedVariables false
set_option linter.unusedSimpArgs false

theorem wp_with_act {P : Program} {c : Code} {Q : Exit → Act → World → Prop} {a : Act} {w : World} (h : ∀ a0, a0 = a → c.wp P Q a0 w) : c.wp P Q a w := h a rfl
theorem op_call1_to {P : Program} {ops : Array Oper} {Q : Exit → Act → World → Prop} {o : Oper} {a : Act} {w : World} {K : Act → World → Prop} {i : Nat} {R : Ending → World → Prop} (dst f : Nat) (hi : ops[i]? = some o)
    (hd : o.dst = some dst) (hw : Region.wanted o (yielded ops a.tmps) = true) (x : Operand) (ts : Array TypeId) (hop : o.op = Op.call { callee := Callee.value (Operand.func f), args := #[x], argTypes := ts })
    (vx : Value) (hx : a.eval x = vx) (hcf : ∀ args w, (callFunc f args).run P w = .ok (.enter f args) w) (hc : Calls P f #[vx] w R)
    (hK : ∀ e w', R e w' → ∃ v, e = .returned v ∧ K (a.put (some dst) v) w') : wpOp P ops Q i K a w := by
  refine wpOp_step hi (fun K' hK' => ?_)
  rw [if_pos hw]
  have hrun : (execOp a.eval o).run P w = .ok (.enter f #[vx]) w := by
    have hff : a.eval (.func f) = .func (.func f) #[] #[] := rfl
    unfold execOp
    simp [hop, resolve, hff, Deferred.ofValue, invoke, hx]
    exact hcf _ _
  unfold Oper.wp
  rw [hrun, Oper.upon_enter]
  refine hc.mono ?_
  intro e w' hR
  obtain ⟨v, rfl, hW⟩ := hK e w' hR
  show K' (a.put o.dst v) w'
  rw [hd]
  exact hK' _ _ hW
theorem op_alloc23 (ρ : Operand → Value) (o : Oper) (ho : o.op = .alloc 23) (w : World) : (execOp ρ o).run Try.prog w = .ok (.value (.pointer (some ⟨w.heap.size, 0, none⟩))) (w.alloc (.cells zeroV 23)) := by
  unfold execOp
  rw [ho]
  kernel_rfl
theorem load23 {w : World} {b : Nat} {V : Vl} (h : Box w b V) : (Instr.loadAt 23 (.pointer (some ⟨b, 0, none⟩))).run Try.prog w = .ok (.agg #[.int .i64 (V).ty, .int .i64 (V).n, .string (strOf (V).t), .bool (V).b]) w :=
  run_loadAt_mid w b 0 23 [.int .i64 V.ty, .int .i64 V.n, .string (strOf V.t), .bool V.b] _ (fun j v hv => by rw [Nat.zero_add, cell_row h]; simpa using hv) Try.underlying23 rfl Try.size23
theorem store23 {w : World} {b : Nat} (h : w.heap[b]? = some (.cells zeroV 23 (0, 0))) (V : Vl) : (Instr.storeAt 23 (.pointer (some ⟨b, 0, none⟩)) (.agg #[.int .i64 (V).ty, .int .i64 (V).n, .string (strOf (V).t), .bool (V).b])).run Try.prog w = .ok () (w.setRow b #[.int .i64 (V).ty, .int .i64 (V).n, .string (strOf (V).t), .bool (V).b]) :=
  run_storeAt_in w b 0 23 23 zeroV [.int .i64 V.ty, .int .i64 V.n, .string (strOf V.t), .bool V.b] h (by simp [zeroV]) Try.size23 (by intro v hv; simp at hv; rcases hv with rfl | rfl | rfl | rfl <;> rfl)
theorem heap_setRow_other (w : World) (g k : Nat) (cs : Array Value) (h : g ≠ k) : (w.setRow g cs).heap[k]? = w.heap[k]? := setRow_other w g k cs (fun e => h e.symm)
theorem wpAnyH_strong {P : Program} {ops : Array Oper} {Q : Exit → Act → World → Prop} {md : Region.Mode} {S S' : World → Prop} (hS : ∀ w, S' w → S w) : ∀ (fuel : Nat) (listed : Array Bool) (a : Act) (w : World), wpAnyH P md ops Q S' fuel listed a w → wpAnyH P md ops Q S fuel listed a w
  | 0, _, _, _, h => h
  | fuel + 1, _, _, _, h => ⟨h.1, fun i hi => wpOp_mono (fun a' w' h' => ⟨hS _ h'.1, wpAnyH_strong hS fuel _ a' w' h'.2⟩) (h.2 i hi)⟩
theorem run_index24 (w : World) (b o n cap i : Nat) (h : i < n) : (Instr.indexAt 24 (.slice (some ⟨b, o, none⟩) n cap) (.int .i64 (i : Int))).run Try.prog w = .ok (.pointer (some ⟨b, o + i * 4, none⟩)) w := by
  have hu := Try.underlying24
  have hs : ∀ w, (sizeOf 23).run Try.prog w = .ok 4 w := fun w => by kernel_rfl
  simp [go_sem, hu, hs, h]
theorem load23c {w : World} {g o : Nat} {V : Vl} (h : CellsAt w g o V) : (Instr.loadAt 23 (.pointer (some ⟨g, o, none⟩))).run Try.prog w = .ok (.agg #[.int .i64 (V).ty, .int .i64 (V).n, .string (strOf (V).t), .bool (V).b]) w :=
  run_loadAt_mid w g o 23 [.int .i64 V.ty, .int .i64 V.n, .string (strOf V.t), .bool V.b] _ (fun j v hv => by
    match j, hv with
    | 0, hv => simp at hv; subst hv; exact h.c0
    | 1, hv => simp at hv; subst hv; exact h.c1
    | 2, hv => simp at hv; subst hv; exact h.c2
    | 3, hv => simp at hv; subst hv; exact h.c3
    | j + 4, hv => simp at hv) Try.underlying23 rfl Try.size23
theorem CellsAt.belowW {w w' : World} {g o : Nat} {V : Vl} (h : CellsAt w g o V) (hb : Below w.heap.size w w') : CellsAt w' g o V :=
  ⟨(hb.cell (World.block_lt_of_cell? w _ h.c0)).trans h.c0, (hb.cell (World.block_lt_of_cell? w _ h.c1)).trans h.c1, (hb.cell (World.block_lt_of_cell? w _ h.c2)).trans h.c2, (hb.cell (World.block_lt_of_cell? w _ h.c3)).trans h.c3⟩
theorem cmpL_drop {U Y : List Vl} {k : Nat} (h1 : k < U.length) (h2 : k < Y.length) : cmpL (U.drop k) (Y.drop k) = if cmpV (U.getD k Vl.zero) (Y.getD k Vl.zero) ≠ 0 then cmpV (U.getD k Vl.zero) (Y.getD k Vl.zero) else cmpL (U.drop (k + 1)) (Y.drop (k + 1)) := by
  have e1 : U.getD k Vl.zero = U[k] := by simp [h1]
  have e2 : Y.getD k Vl.zero = Y[k] := by simp [h2]
  rw [e1, e2, List.drop_eq_getElem_cons h1, List.drop_eq_getElem_cons h2]
  rfl
theorem cmpL_end {U Y : List Vl} {k : Nat} (h1 : k ≤ U.length) (h2 : k ≤ Y.length) (h : k = U.length ∨ k = Y.length) : (U.length = Y.length → cmpL (U.drop k) (Y.drop k) = 0) ∧ (U.length < Y.length → cmpL (U.drop k) (Y.drop k) = -1) ∧ (Y.length < U.length → cmpL (U.drop k) (Y.drop k) = 1) := by
  refine ⟨fun e => ?_, fun e => ?_, fun e => ?_⟩
  · rw [List.drop_of_length_le (show U.length ≤ k by omega), List.drop_of_length_le (show Y.length ≤ k by omega)]
    rfl
  · have hk : k < Y.length := by omega
    rw [List.drop_of_length_le (show U.length ≤ k by omega), List.drop_eq_getElem_cons hk]
    rfl
  · have hk : k < U.length := by omega
    rw [List.drop_of_length_le (show Y.length ≤ k by omega), List.drop_eq_getElem_cons hk]
    rfl
theorem run_strcut (w : World) (t : List UInt8) (k : Nat) (hk : k ≤ t.length) : (Instr.sliceAt 9 (.string (strOf t)) none (some (.int .i64 (k : Int))) none).run Try.prog w = .ok (.string (strOf (t.take k))) w := by
  have hu := Try.underlying9
  have hs := strOf_size t
  have h1 : (k : Int) ≤ ((strOf t).size : Int) := by omega
  have h2 : k ≤ (strOf t).size := by omega
  have e : (strOf t).extract 0 k = strOf (t.take k) := by
    apply ByteArray.ext
    simp [strOf, ByteArray.data_extract]
  simp [Instr.sliceAt, Instr.slice, run_underlying hu, Instr.sliceBounds, Instr.sliceBound, asIntOf, h1, h2, e]
set_option maxHeartbeats 8000000 in
set_option maxRecDepth 100000 in
theorem order_walk {w : World} {A B : Vl} {vl vm : Value} {l m : List Vl} (hA : A.wf) (hB : B.wf) (hl : VsAt w vl l) (hm : VsAt w vm m) (hwl : ∀ V ∈ l, V.wf) (hwm : ∀ V ∈ m, V.wf) (bA : 2 * A.t.length + 20 ≤ 100000000) (bB : 2 * B.t.length + 20 ≤ 100000000) (bl : bulk l ≤ 100000000) (bm : bulk m ≤ 100000000) :
    Calls Try.prog 4 #[valOf A, valOf B, vl, vm] w fun e w' => e = .returned (.bool true) ∧ Below w.heap.size w w' := by
  obtain ⟨hX4, hX5, hBW⟩ := two_boxes w A B
  obtain ⟨W1, hW1⟩ : ∃ W1, (w.alloc (.cells #[.int .i64 A.ty, .int .i64 A.n, .string (strOf A.t), .bool A.b] 23)).alloc (.cells #[.int .i64 B.ty, .int .i64 B.n, .string (strOf B.t), .bool B.b] 23) = W1 := ⟨_, rfl⟩
  rw [hW1] at hX4 hX5 hBW
  have HX4 := hide hX4
  have HX5 := hide hX5
  have HBW := hide hBW
  have HLV := hide hl
  have HMV := hide hm
  have HWL := hide hwl
  have HWM := hide hwm
  have HBL := hide bl
  have HBM := hide bm
  clear hX4 hX5 hBW hl hm hwl hwm bl bm
  unfold valOf
  go_enter Try.func4, Try.ntmps4
  go_upto_region 1 with fail
  try rw [hW1]
  clear hW1
  generalize w.heap.size + 1 = b5 at HX5 ⊢
  generalize w.heap.size = b4 at HX4 ⊢
  refine wp_with_act (fun a0 ha0 => ?_)
  refine Code.wp_mono (Q := fun e a' W => e = .normal ∧ ∃ p q, (Box W p (clean A) ∧ Box W q (clean B) ∧ Below W1.heap.size W1 W) ∧ a' = ((((((a0.put (some 22) (.agg #[.int .i64 (A).ty, .int .i64 (A).n, .string (strOf (A).t), .bool (A).b])).put (some 24) (.agg #[.int .i64 (B).ty, .int .i64 (B).n, .string (strOf (B).t), .bool (B).b])).put (some 23) (.agg #[.int .i64 (clean A).ty, .int .i64 (clean A).n, .string (strOf (clean A).t), .bool (clean A).b])).put (some 25) (.agg #[.int .i64 (clean B).ty, .int .i64 (clean B).n, .string (strOf (clean B).t), .bool (clean B).b])).put (some 9) (.pointer (some ⟨p, 0, none⟩))).put (some 10) (.pointer (some ⟨q, 0, none⟩)))) ?cont ?region
  case region =>
    rw [ha0]
    refine wp_region_held_drew (S := fun w' => Box w' b4 A ∧ Box w' b5 B) (by kernel_rfl) ⟨HX4.out.belowW (below_drewN _ _ 1), HX5.out.belowW (below_drewN _ _ 1)⟩ (fun hH => ?_)
    refine take_to 0 22 (.agg #[.int .i64 (A).ty, .int .i64 (A).n, .string (strOf (A).t), .bool (A).b]) rfl (by kernel_rfl) (by kernel_rfl) (by kernel_rfl) (fun _ _ _ h => (by cases h.1)) rfl (by rfl) (fun w hw => op_load _ _ 23 (.tmp 4) rfl (.pointer (some ⟨b4, 0, none⟩)) _ rfl (load23 hw.1)) hH ?_
    simp only [Act.put, List.setIfInBounds_toArray, List.set_cons_zero, List.set_cons_succ]
    refine take_to 2 24 (.agg #[.int .i64 (B).ty, .int .i64 (B).n, .string (strOf (B).t), .bool (B).b]) rfl (by kernel_rfl) (by kernel_rfl) (by kernel_rfl) (fun _ _ _ h => (by cases h.1)) rfl (by rfl) (fun w hw => op_load _ _ 23 (.tmp 5) rfl (.pointer (some ⟨b5, 0, none⟩)) _ rfl (load23 hw.2)) hH ?_
    simp only [Act.put, List.setIfInBounds_toArray, List.set_cons_zero, List.set_cons_succ]
    have HB0 : Below W1.heap.size W1 W1.drew := below_drewN _ _ 1
    generalize W1.drew = U0 at hH HB0 ⊢
    refine wpAnyH_all (rs := [1, 4, 5]) (by kernel_rfl) (by simp) ?_
    intro n hn
    rcases (by simpa using hn : n = 1 ∨ n = 4 ∨ n = 5) with rfl | rfl | rfl
    · refine op_call1_to 23 18 rfl rfl (by rfl) (.tmp 22) _ rfl _ rfl Try.enters18 (clean_any A U0) ?_
      rintro e U47 ⟨rfl, hb⟩
      have HB47 := HB0.trans (hb.mono HB0.size)
      refine ⟨_, rfl, ⟨HX4.out.belowW HB47, HX5.out.belowW HB47⟩, ?_⟩
      unfold valOf
      simp only [Act.put, List.setIfInBounds_toArray, List.set_cons_zero, List.set_cons_succ]
      refine wpAnyH_all (rs := [3, 4, 5]) (by kernel_rfl) (by simp) ?_
      intro n hn
      rcases (by simpa using hn : n = 3 ∨ n = 4 ∨ n = 5) with rfl | rfl | rfl
      · refine op_call1_to 25 18 rfl rfl (by rfl) (.tmp 24) _ rfl _ rfl Try.enters18 (clean_any B U47) ?_
        rintro e U48 ⟨rfl, hb⟩
        have HB48 := HB47.trans (hb.mono HB47.size)
        refine ⟨_, rfl, ⟨HX4.out.belowW HB48, HX5.out.belowW HB48⟩, ?_⟩
        unfold valOf
        simp only [Act.put, List.setIfInBounds_toArray, List.set_cons_zero, List.set_cons_succ]
        refine wpAnyH_all (rs := [4, 5]) (by kernel_rfl) (by simp) ?_
        intro n hn
        rcases (by simpa using hn : n = 4 ∨ n = 5) with rfl | rfl
        · have HB49 := HB48.alloc HB48.size (.cells zeroV 23)
          refine op_to 9 (.pointer (some ⟨U48.heap.size, 0, none⟩)) (U48.alloc (.cells zeroV 23)) rfl rfl (by rfl) (op_alloc23 _ _ rfl _) ⟨⟨HX4.out.belowW HB49, HX5.out.belowW HB49⟩, ?_⟩
          simp only [Act.put, List.setIfInBounds_toArray, List.set_cons_zero, List.set_cons_succ]
          have HN49 : (U48.alloc (.cells zeroV 23)).heap[U48.heap.size]? = some (.cells zeroV 23 (0, 0)) := heap_alloc_new U48 _
          have hp := HB48.size
          generalize U48.alloc (.cells zeroV 23) = U49 at HB49 HN49 ⊢
          generalize U48.heap.size = p at HN49 hp ⊢
          have HB50 := HB49.alloc HB49.size (.cells zeroV 23)
          refine step_to 5 10 (.pointer (some ⟨U49.heap.size, 0, none⟩)) (U49.alloc (.cells zeroV 23)) rfl (by kernel_rfl) rfl (by rfl) (op_alloc23 _ _ rfl _) ⟨HX4.out.belowW HB50, HX5.out.belowW HB50⟩ ?_
          simp only [Act.put, List.setIfInBounds_toArray, List.set_cons_zero, List.set_cons_succ]
          have HN50 : (U49.alloc (.cells zeroV 23)).heap[U49.heap.size]? = some (.cells zeroV 23 (0, 0)) := heap_alloc_new U49 _
          have hq := HB49.size
          have HO50 := (Below.heap_alloc U49 (.cells zeroV 23) p (lt_of_heap HN49)).trans HN49
          have hpq : p ≠ U49.heap.size := Nat.ne_of_lt (lt_of_heap HN49)
          generalize U49.alloc (.cells zeroV 23) = U50 at HB50 HN50 HO50 ⊢
          generalize U49.heap.size = q at HN50 hq hpq ⊢
          have hb6 : Below W1.heap.size W1 (U50.setRow p #[.int .i64 (clean A).ty, .int .i64 (clean A).n, .string (strOf (clean A).t), .bool (clean A).b]) := below_setRow HB50 hp _
          have hq6 : (U50.setRow p #[.int .i64 (clean A).ty, .int .i64 (clean A).n, .string (strOf (clean A).t), .bool (clean A).b]).heap[q]? = some (.cells zeroV 23 (0, 0)) := (heap_setRow_other _ _ _ _ hpq).trans HN50
          have hp6 : Box (U50.setRow p #[.int .i64 (clean A).ty, .int .i64 (clean A).n, .string (strOf (clean A).t), .bool (clean A).b]) p (clean A) := setRow_heap _ _ _ _ _ _ HO50
          have hb7 : Below W1.heap.size W1 ((U50.setRow p #[.int .i64 (clean A).ty, .int .i64 (clean A).n, .string (strOf (clean A).t), .bool (clean A).b]).setRow q #[.int .i64 (clean B).ty, .int .i64 (clean B).n, .string (strOf (clean B).t), .bool (clean B).b]) := below_setRow hb6 hq _
          have hq7 : Box ((U50.setRow p #[.int .i64 (clean A).ty, .int .i64 (clean A).n, .string (strOf (clean A).t), .bool (clean A).b]).setRow q #[.int .i64 (clean B).ty, .int .i64 (clean B).n, .string (strOf (clean B).t), .bool (clean B).b]) q (clean B) := setRow_heap _ _ _ _ _ _ hq6
          have hp7 : Box ((U50.setRow p #[.int .i64 (clean A).ty, .int .i64 (clean A).n, .string (strOf (clean A).t), .bool (clean A).b]).setRow q #[.int .i64 (clean B).ty, .int .i64 (clean B).n, .string (strOf (clean B).t), .bool (clean B).b]) p (clean A) := (heap_setRow_other _ _ _ _ (fun e => hpq e.symm)).trans hp6
          refine step_store_to 6 (U50.setRow p #[.int .i64 (clean A).ty, .int .i64 (clean A).n, .string (strOf (clean A).t), .bool (clean A).b]) rfl (by kernel_rfl) rfl (by rfl) 23 (.tmp 9) (.tmp 23) rfl (.pointer (some ⟨p, 0, none⟩)) (.agg #[.int .i64 (clean A).ty, .int .i64 (clean A).n, .string (strOf (clean A).t), .bool (clean A).b]) rfl rfl (store23 HO50 _) ⟨HX4.out.belowW hb6, HX5.out.belowW hb6⟩ ?_
          refine step_store_to 7 ((U50.setRow p #[.int .i64 (clean A).ty, .int .i64 (clean A).n, .string (strOf (clean A).t), .bool (clean A).b]).setRow q #[.int .i64 (clean B).ty, .int .i64 (clean B).n, .string (strOf (clean B).t), .bool (clean B).b]) rfl (by kernel_rfl) rfl (by rfl) 23 (.tmp 10) (.tmp 25) rfl (.pointer (some ⟨q, 0, none⟩)) (.agg #[.int .i64 (clean B).ty, .int .i64 (clean B).n, .string (strOf (clean B).t), .bool (clean B).b]) rfl rfl (store23 hq6 _) ⟨HX4.out.belowW hb7, HX5.out.belowW hb7⟩ ?_
          refine wpAnyH_done (by kernel_rfl) ?_ _
          exact ⟨rfl, p, q, ⟨hp7, hq7, hb7⟩, rfl⟩
        · have HB52 := HB48.alloc HB48.size (.cells zeroV 23)
          refine op_to 10 (.pointer (some ⟨U48.heap.size, 0, none⟩)) (U48.alloc (.cells zeroV 23)) rfl rfl (by rfl) (op_alloc23 _ _ rfl _) ⟨⟨HX4.out.belowW HB52, HX5.out.belowW HB52⟩, ?_⟩
          simp only [Act.put, List.setIfInBounds_toArray, List.set_cons_zero, List.set_cons_succ]
          have HN52 : (U48.alloc (.cells zeroV 23)).heap[U48.heap.size]? = some (.cells zeroV 23 (0, 0)) := heap_alloc_new U48 _
          have hq := HB48.size
          generalize U48.alloc (.cells zeroV 23) = U52 at HB52 HN52 ⊢
          generalize U48.heap.size = q at HN52 hq ⊢
          have HB53 := HB52.alloc HB52.size (.cells zeroV 23)
          refine step_to 4 9 (.pointer (some ⟨U52.heap.size, 0, none⟩)) (U52.alloc (.cells zeroV 23)) rfl (by kernel_rfl) rfl (by rfl) (op_alloc23 _ _ rfl _) ⟨HX4.out.belowW HB53, HX5.out.belowW HB53⟩ ?_
          simp only [Act.put, List.setIfInBounds_toArray, List.set_cons_zero, List.set_cons_succ]
          have HN53 : (U52.alloc (.cells zeroV 23)).heap[U52.heap.size]? = some (.cells zeroV 23 (0, 0)) := heap_alloc_new U52 _
          have hp := HB52.size
          have HO53 := (Below.heap_alloc U52 (.cells zeroV 23) q (lt_of_heap HN52)).trans HN52
          have hpq : U52.heap.size ≠ q := fun e => Nat.ne_of_lt (lt_of_heap HN52) e.symm
          generalize U52.alloc (.cells zeroV 23) = U53 at HB53 HN53 HO53 ⊢
          generalize U52.heap.size = p at HN53 hp hpq ⊢
          have hb6 : Below W1.heap.size W1 (U53.setRow p #[.int .i64 (clean A).ty, .int .i64 (clean A).n, .string (strOf (clean A).t), .bool (clean A).b]) := below_setRow HB53 hp _
          have hq6 : (U53.setRow p #[.int .i64 (clean A).ty, .int .i64 (clean A).n, .string (strOf (clean A).t), .bool (clean A).b]).heap[q]? = some (.cells zeroV 23 (0, 0)) := (heap_setRow_other _ _ _ _ hpq).trans HO53
          have hp6 : Box (U53.setRow p #[.int .i64 (clean A).ty, .int .i64 (clean A).n, .string (strOf (clean A).t), .bool (clean A).b]) p (clean A) := setRow_heap _ _ _ _ _ _ HN53
          have hb7 : Below W1.heap.size W1 ((U53.setRow p #[.int .i64 (clean A).ty, .int .i64 (clean A).n, .string (strOf (clean A).t), .bool (clean A).b]).setRow q #[.int .i64 (clean B).ty, .int .i64 (clean B).n, .string (strOf (clean B).t), .bool (clean B).b]) := below_setRow hb6 hq _
          have hq7 : Box ((U53.setRow p #[.int .i64 (clean A).ty, .int .i64 (clean A).n, .string (strOf (clean A).t), .bool (clean A).b]).setRow q #[.int .i64 (clean B).ty, .int .i64 (clean B).n, .string (strOf (clean B).t), .bool (clean B).b]) q (clean B) := setRow_heap _ _ _ _ _ _ hq6
          have hp7 : Box ((U53.setRow p #[.int .i64 (clean A).ty, .int .i64 (clean A).n, .string (strOf (clean A).t), .bool (clean A).b]).setRow q #[.int .i64 (clean B).ty, .int .i64 (clean B).n, .string (strOf (clean B).t), .bool (clean B).b]) p (clean A) := (heap_setRow_other _ _ _ _ (fun e => hpq e.symm)).trans hp6
          refine step_store_to 6 (U53.setRow p #[.int .i64 (clean A).ty, .int .i64 (clean A).n, .string (strOf (clean A).t), .bool (clean A).b]) rfl (by kernel_rfl) rfl (by rfl) 23 (.tmp 9) (.tmp 23) rfl (.pointer (some ⟨p, 0, none⟩)) (.agg #[.int .i64 (clean A).ty, .int .i64 (clean A).n, .string (strOf (clean A).t), .bool (clean A).b]) rfl rfl (store23 HN53 _) ⟨HX4.out.belowW hb6, HX5.out.belowW hb6⟩ ?_
          refine step_store_to 7 ((U53.setRow p #[.int .i64 (clean A).ty, .int .i64 (clean A).n, .string (strOf (clean A).t), .bool (clean A).b]).setRow q #[.int .i64 (clean B).ty, .int .i64 (clean B).n, .string (strOf (clean B).t), .bool (clean B).b]) rfl (by kernel_rfl) rfl (by rfl) 23 (.tmp 10) (.tmp 25) rfl (.pointer (some ⟨q, 0, none⟩)) (.agg #[.int .i64 (clean B).ty, .int .i64 (clean B).n, .string (strOf (clean B).t), .bool (clean B).b]) rfl rfl (store23 hq6 _) ⟨HX4.out.belowW hb7, HX5.out.belowW hb7⟩ ?_
          refine wpAnyH_done (by kernel_rfl) ?_ _
          exact ⟨rfl, p, q, ⟨hp7, hq7, hb7⟩, rfl⟩
      · have HB55 := HB47.alloc HB47.size (.cells zeroV 23)
        refine op_to 9 (.pointer (some ⟨U47.heap.size, 0, none⟩)) (U47.alloc (.cells zeroV 23)) rfl rfl (by rfl) (op_alloc23 _ _ rfl _) ⟨⟨HX4.out.belowW HB55, HX5.out.belowW HB55⟩, ?_⟩
        simp only [Act.put, List.setIfInBounds_toArray, List.set_cons_zero, List.set_cons_succ]
        have HN55 : (U47.alloc (.cells zeroV 23)).heap[U47.heap.size]? = some (.cells zeroV 23 (0, 0)) := heap_alloc_new U47 _
        have hp := HB47.size
        generalize U47.alloc (.cells zeroV 23) = U55 at HB55 HN55 ⊢
        generalize U47.heap.size = p at HN55 hp ⊢
        refine wpAnyH_all (rs := [3, 5]) (by kernel_rfl) (by simp) ?_
        intro n hn
        rcases (by simpa using hn : n = 3 ∨ n = 5) with rfl | rfl
        · refine op_call1_to 25 18 rfl rfl (by rfl) (.tmp 24) _ rfl _ rfl Try.enters18 (clean_any B U55) ?_
          rintro e U56 ⟨rfl, hb⟩
          have HB56 := HB55.trans (hb.mono HB55.size)
          have HP56 := (hb.block _ (lt_of_heap HN55)).trans HN55
          refine ⟨_, rfl, ⟨HX4.out.belowW HB56, HX5.out.belowW HB56⟩, ?_⟩
          unfold valOf
          simp only [Act.put, List.setIfInBounds_toArray, List.set_cons_zero, List.set_cons_succ]
          have HB57 := HB56.alloc HB56.size (.cells zeroV 23)
          refine step_to 5 10 (.pointer (some ⟨U56.heap.size, 0, none⟩)) (U56.alloc (.cells zeroV 23)) rfl (by kernel_rfl) rfl (by rfl) (op_alloc23 _ _ rfl _) ⟨HX4.out.belowW HB57, HX5.out.belowW HB57⟩ ?_
          simp only [Act.put, List.setIfInBounds_toArray, List.set_cons_zero, List.set_cons_succ]
          have HN57 : (U56.alloc (.cells zeroV 23)).heap[U56.heap.size]? = some (.cells zeroV 23 (0, 0)) := heap_alloc_new U56 _
          have hq := HB56.size
          have HO57 := (Below.heap_alloc U56 (.cells zeroV 23) p (lt_of_heap HP56)).trans HP56
          have hpq : p ≠ U56.heap.size := Nat.ne_of_lt (lt_of_heap HP56)
          generalize U56.alloc (.cells zeroV 23) = U57 at HB57 HN57 HO57 ⊢
          generalize U56.heap.size = q at HN57 hq hpq ⊢
          have hb6 : Below W1.heap.size W1 (U57.setRow p #[.int .i64 (clean A).ty, .int .i64 (clean A).n, .string (strOf (clean A).t), .bool (clean A).b]) := below_setRow HB57 hp _
          have hq6 : (U57.setRow p #[.int .i64 (clean A).ty, .int .i64 (clean A).n, .string (strOf (clean A).t), .bool (clean A).b]).heap[q]? = some (.cells zeroV 23 (0, 0)) := (heap_setRow_other _ _ _ _ hpq).trans HN57
          have hp6 : Box (U57.setRow p #[.int .i64 (clean A).ty, .int .i64 (clean A).n, .string (strOf (clean A).t), .bool (clean A).b]) p (clean A) := setRow_heap _ _ _ _ _ _ HO57
          have hb7 : Below W1.heap.size W1 ((U57.setRow p #[.int .i64 (clean A).ty, .int .i64 (clean A).n, .string (strOf (clean A).t), .bool (clean A).b]).setRow q #[.int .i64 (clean B).ty, .int .i64 (clean B).n, .string (strOf (clean B).t), .bool (clean B).b]) := below_setRow hb6 hq _
          have hq7 : Box ((U57.setRow p #[.int .i64 (clean A).ty, .int .i64 (clean A).n, .string (strOf (clean A).t), .bool (clean A).b]).setRow q #[.int .i64 (clean B).ty, .int .i64 (clean B).n, .string (strOf (clean B).t), .bool (clean B).b]) q (clean B) := setRow_heap _ _ _ _ _ _ hq6
          have hp7 : Box ((U57.setRow p #[.int .i64 (clean A).ty, .int .i64 (clean A).n, .string (strOf (clean A).t), .bool (clean A).b]).setRow q #[.int .i64 (clean B).ty, .int .i64 (clean B).n, .string (strOf (clean B).t), .bool (clean B).b]) p (clean A) := (heap_setRow_other _ _ _ _ (fun e => hpq e.symm)).trans hp6
          refine step_store_to 6 (U57.setRow p #[.int .i64 (clean A).ty, .int .i64 (clean A).n, .string (strOf (clean A).t), .bool (clean A).b]) rfl (by kernel_rfl) rfl (by rfl) 23 (.tmp 9) (.tmp 23) rfl (.pointer (some ⟨p, 0, none⟩)) (.agg #[.int .i64 (clean A).ty, .int .i64 (clean A).n, .string (strOf (clean A).t), .bool (clean A).b]) rfl rfl (store23 HO57 _) ⟨HX4.out.belowW hb6, HX5.out.belowW hb6⟩ ?_
          refine step_store_to 7 ((U57.setRow p #[.int .i64 (clean A).ty, .int .i64 (clean A).n, .string (strOf (clean A).t), .bool (clean A).b]).setRow q #[.int .i64 (clean B).ty, .int .i64 (clean B).n, .string (strOf (clean B).t), .bool (clean B).b]) rfl (by kernel_rfl) rfl (by rfl) 23 (.tmp 10) (.tmp 25) rfl (.pointer (some ⟨q, 0, none⟩)) (.agg #[.int .i64 (clean B).ty, .int .i64 (clean B).n, .string (strOf (clean B).t), .bool (clean B).b]) rfl rfl (store23 hq6 _) ⟨HX4.out.belowW hb7, HX5.out.belowW hb7⟩ ?_
          refine wpAnyH_done (by kernel_rfl) ?_ _
          exact ⟨rfl, p, q, ⟨hp7, hq7, hb7⟩, rfl⟩
        · have HB59 := HB55.alloc HB55.size (.cells zeroV 23)
          refine op_to 10 (.pointer (some ⟨U55.heap.size, 0, none⟩)) (U55.alloc (.cells zeroV 23)) rfl rfl (by rfl) (op_alloc23 _ _ rfl _) ⟨⟨HX4.out.belowW HB59, HX5.out.belowW HB59⟩, ?_⟩
          simp only [Act.put, List.setIfInBounds_toArray, List.set_cons_zero, List.set_cons_succ]
          have HN59 : (U55.alloc (.cells zeroV 23)).heap[U55.heap.size]? = some (.cells zeroV 23 (0, 0)) := heap_alloc_new U55 _
          have hq := HB55.size
          have HO59 := (Below.heap_alloc U55 (.cells zeroV 23) p (lt_of_heap HN55)).trans HN55
          have hpq : p ≠ U55.heap.size := Nat.ne_of_lt (lt_of_heap HN55)
          generalize U55.alloc (.cells zeroV 23) = U59 at HB59 HN59 HO59 ⊢
          generalize U55.heap.size = q at HN59 hq hpq ⊢
          refine step_call1_to 3 25 18 rfl (by kernel_rfl) rfl (by rfl) (.tmp 24) _ rfl _ rfl Try.enters18 (clean_any B U59) ?_
          rintro e U60 ⟨rfl, hb⟩
          have HB60 := HB59.trans (hb.mono HB59.size)
          have HP60 := (hb.block _ (lt_of_heap HO59)).trans HO59
          have HQ60 := (hb.block _ (lt_of_heap HN59)).trans HN59
          refine ⟨_, rfl, ⟨HX4.out.belowW HB60, HX5.out.belowW HB60⟩, ?_⟩
          unfold valOf
          simp only [Act.put, List.setIfInBounds_toArray, List.set_cons_zero, List.set_cons_succ]
          have hb6 : Below W1.heap.size W1 (U60.setRow p #[.int .i64 (clean A).ty, .int .i64 (clean A).n, .string (strOf (clean A).t), .bool (clean A).b]) := below_setRow HB60 hp _
          have hq6 : (U60.setRow p #[.int .i64 (clean A).ty, .int .i64 (clean A).n, .string (strOf (clean A).t), .bool (clean A).b]).heap[q]? = some (.cells zeroV 23 (0, 0)) := (heap_setRow_other _ _ _ _ hpq).trans HQ60
          have hp6 : Box (U60.setRow p #[.int .i64 (clean A).ty, .int .i64 (clean A).n, .string (strOf (clean A).t), .bool (clean A).b]) p (clean A) := setRow_heap _ _ _ _ _ _ HP60
          have hb7 : Below W1.heap.size W1 ((U60.setRow p #[.int .i64 (clean A).ty, .int .i64 (clean A).n, .string (strOf (clean A).t), .bool (clean A).b]).setRow q #[.int .i64 (clean B).ty, .int .i64 (clean B).n, .string (strOf (clean B).t), .bool (clean B).b]) := below_setRow hb6 hq _
          have hq7 : Box ((U60.setRow p #[.int .i64 (clean A).ty, .int .i64 (clean A).n, .string (strOf (clean A).t), .bool (clean A).b]).setRow q #[.int .i64 (clean B).ty, .int .i64 (clean B).n, .string (strOf (clean B).t), .bool (clean B).b]) q (clean B) := setRow_heap _ _ _ _ _ _ hq6
          have hp7 : Box ((U60.setRow p #[.int .i64 (clean A).ty, .int .i64 (clean A).n, .string (strOf (clean A).t), .bool (clean A).b]).setRow q #[.int .i64 (clean B).ty, .int .i64 (clean B).n, .string (strOf (clean B).t), .bool (clean B).b]) p (clean A) := (heap_setRow_other _ _ _ _ (fun e => hpq e.symm)).trans hp6
          refine step_store_to 6 (U60.setRow p #[.int .i64 (clean A).ty, .int .i64 (clean A).n, .string (strOf (clean A).t), .bool (clean A).b]) rfl (by kernel_rfl) rfl (by rfl) 23 (.tmp 9) (.tmp 23) rfl (.pointer (some ⟨p, 0, none⟩)) (.agg #[.int .i64 (clean A).ty, .int .i64 (clean A).n, .string (strOf (clean A).t), .bool (clean A).b]) rfl rfl (store23 HP60 _) ⟨HX4.out.belowW hb6, HX5.out.belowW hb6⟩ ?_
          refine step_store_to 7 ((U60.setRow p #[.int .i64 (clean A).ty, .int .i64 (clean A).n, .string (strOf (clean A).t), .bool (clean A).b]).setRow q #[.int .i64 (clean B).ty, .int .i64 (clean B).n, .string (strOf (clean B).t), .bool (clean B).b]) rfl (by kernel_rfl) rfl (by rfl) 23 (.tmp 10) (.tmp 25) rfl (.pointer (some ⟨q, 0, none⟩)) (.agg #[.int .i64 (clean B).ty, .int .i64 (clean B).n, .string (strOf (clean B).t), .bool (clean B).b]) rfl rfl (store23 hq6 _) ⟨HX4.out.belowW hb7, HX5.out.belowW hb7⟩ ?_
          refine wpAnyH_done (by kernel_rfl) ?_ _
          exact ⟨rfl, p, q, ⟨hp7, hq7, hb7⟩, rfl⟩
      · have HB62 := HB47.alloc HB47.size (.cells zeroV 23)
        refine op_to 10 (.pointer (some ⟨U47.heap.size, 0, none⟩)) (U47.alloc (.cells zeroV 23)) rfl rfl (by rfl) (op_alloc23 _ _ rfl _) ⟨⟨HX4.out.belowW HB62, HX5.out.belowW HB62⟩, ?_⟩
        simp only [Act.put, List.setIfInBounds_toArray, List.set_cons_zero, List.set_cons_succ]
        have HN62 : (U47.alloc (.cells zeroV 23)).heap[U47.heap.size]? = some (.cells zeroV 23 (0, 0)) := heap_alloc_new U47 _
        have hq := HB47.size
        generalize U47.alloc (.cells zeroV 23) = U62 at HB62 HN62 ⊢
        generalize U47.heap.size = q at HN62 hq ⊢
        refine wpAnyH_all (rs := [3, 4]) (by kernel_rfl) (by simp) ?_
        intro n hn
        rcases (by simpa using hn : n = 3 ∨ n = 4) with rfl | rfl
        · refine op_call1_to 25 18 rfl rfl (by rfl) (.tmp 24) _ rfl _ rfl Try.enters18 (clean_any B U62) ?_
          rintro e U63 ⟨rfl, hb⟩
          have HB63 := HB62.trans (hb.mono HB62.size)
          have HQ63 := (hb.block _ (lt_of_heap HN62)).trans HN62
          refine ⟨_, rfl, ⟨HX4.out.belowW HB63, HX5.out.belowW HB63⟩, ?_⟩
          unfold valOf
          simp only [Act.put, List.setIfInBounds_toArray, List.set_cons_zero, List.set_cons_succ]
          have HB64 := HB63.alloc HB63.size (.cells zeroV 23)
          refine step_to 4 9 (.pointer (some ⟨U63.heap.size, 0, none⟩)) (U63.alloc (.cells zeroV 23)) rfl (by kernel_rfl) rfl (by rfl) (op_alloc23 _ _ rfl _) ⟨HX4.out.belowW HB64, HX5.out.belowW HB64⟩ ?_
          simp only [Act.put, List.setIfInBounds_toArray, List.set_cons_zero, List.set_cons_succ]
          have HN64 : (U63.alloc (.cells zeroV 23)).heap[U63.heap.size]? = some (.cells zeroV 23 (0, 0)) := heap_alloc_new U63 _
          have hp := HB63.size
          have HO64 := (Below.heap_alloc U63 (.cells zeroV 23) q (lt_of_heap HQ63)).trans HQ63
          have hpq : U63.heap.size ≠ q := fun e => Nat.ne_of_lt (lt_of_heap HQ63) e.symm
          generalize U63.alloc (.cells zeroV 23) = U64 at HB64 HN64 HO64 ⊢
          generalize U63.heap.size = p at HN64 hp hpq ⊢
          have hb6 : Below W1.heap.size W1 (U64.setRow p #[.int .i64 (clean A).ty, .int .i64 (clean A).n, .string (strOf (clean A).t), .bool (clean A).b]) := below_setRow HB64 hp _
          have hq6 : (U64.setRow p #[.int .i64 (clean A).ty, .int .i64 (clean A).n, .string (strOf (clean A).t), .bool (clean A).b]).heap[q]? = some (.cells zeroV 23 (0, 0)) := (heap_setRow_other _ _ _ _ hpq).trans HO64
          have hp6 : Box (U64.setRow p #[.int .i64 (clean A).ty, .int .i64 (clean A).n, .string (strOf (clean A).t), .bool (clean A).b]) p (clean A) := setRow_heap _ _ _ _ _ _ HN64
          have hb7 : Below W1.heap.size W1 ((U64.setRow p #[.int .i64 (clean A).ty, .int .i64 (clean A).n, .string (strOf (clean A).t), .bool (clean A).b]).setRow q #[.int .i64 (clean B).ty, .int .i64 (clean B).n, .string (strOf (clean B).t), .bool (clean B).b]) := below_setRow hb6 hq _
          have hq7 : Box ((U64.setRow p #[.int .i64 (clean A).ty, .int .i64 (clean A).n, .string (strOf (clean A).t), .bool (clean A).b]).setRow q #[.int .i64 (clean B).ty, .int .i64 (clean B).n, .string (strOf (clean B).t), .bool (clean B).b]) q (clean B) := setRow_heap _ _ _ _ _ _ hq6
          have hp7 : Box ((U64.setRow p #[.int .i64 (clean A).ty, .int .i64 (clean A).n, .string (strOf (clean A).t), .bool (clean A).b]).setRow q #[.int .i64 (clean B).ty, .int .i64 (clean B).n, .string (strOf (clean B).t), .bool (clean B).b]) p (clean A) := (heap_setRow_other _ _ _ _ (fun e => hpq e.symm)).trans hp6
          refine step_store_to 6 (U64.setRow p #[.int .i64 (clean A).ty, .int .i64 (clean A).n, .string (strOf (clean A).t), .bool (clean A).b]) rfl (by kernel_rfl) rfl (by rfl) 23 (.tmp 9) (.tmp 23) rfl (.pointer (some ⟨p, 0, none⟩)) (.agg #[.int .i64 (clean A).ty, .int .i64 (clean A).n, .string (strOf (clean A).t), .bool (clean A).b]) rfl rfl (store23 HN64 _) ⟨HX4.out.belowW hb6, HX5.out.belowW hb6⟩ ?_
          refine step_store_to 7 ((U64.setRow p #[.int .i64 (clean A).ty, .int .i64 (clean A).n, .string (strOf (clean A).t), .bool (clean A).b]).setRow q #[.int .i64 (clean B).ty, .int .i64 (clean B).n, .string (strOf (clean B).t), .bool (clean B).b]) rfl (by kernel_rfl) rfl (by rfl) 23 (.tmp 10) (.tmp 25) rfl (.pointer (some ⟨q, 0, none⟩)) (.agg #[.int .i64 (clean B).ty, .int .i64 (clean B).n, .string (strOf (clean B).t), .bool (clean B).b]) rfl rfl (store23 hq6 _) ⟨HX4.out.belowW hb7, HX5.out.belowW hb7⟩ ?_
          refine wpAnyH_done (by kernel_rfl) ?_ _
          exact ⟨rfl, p, q, ⟨hp7, hq7, hb7⟩, rfl⟩
        · have HB66 := HB62.alloc HB62.size (.cells zeroV 23)
          refine op_to 9 (.pointer (some ⟨U62.heap.size, 0, none⟩)) (U62.alloc (.cells zeroV 23)) rfl rfl (by rfl) (op_alloc23 _ _ rfl _) ⟨⟨HX4.out.belowW HB66, HX5.out.belowW HB66⟩, ?_⟩
          simp only [Act.put, List.setIfInBounds_toArray, List.set_cons_zero, List.set_cons_succ]
          have HN66 : (U62.alloc (.cells zeroV 23)).heap[U62.heap.size]? = some (.cells zeroV 23 (0, 0)) := heap_alloc_new U62 _
          have hp := HB62.size
          have HO66 := (Below.heap_alloc U62 (.cells zeroV 23) q (lt_of_heap HN62)).trans HN62
          have hpq : U62.heap.size ≠ q := fun e => Nat.ne_of_lt (lt_of_heap HN62) e.symm
          generalize U62.alloc (.cells zeroV 23) = U66 at HB66 HN66 HO66 ⊢
          generalize U62.heap.size = p at HN66 hp hpq ⊢
          refine step_call1_to 3 25 18 rfl (by kernel_rfl) rfl (by rfl) (.tmp 24) _ rfl _ rfl Try.enters18 (clean_any B U66) ?_
          rintro e U67 ⟨rfl, hb⟩
          have HB67 := HB66.trans (hb.mono HB66.size)
          have HP67 := (hb.block _ (lt_of_heap HN66)).trans HN66
          have HQ67 := (hb.block _ (lt_of_heap HO66)).trans HO66
          refine ⟨_, rfl, ⟨HX4.out.belowW HB67, HX5.out.belowW HB67⟩, ?_⟩
          unfold valOf
          simp only [Act.put, List.setIfInBounds_toArray, List.set_cons_zero, List.set_cons_succ]
          have hb6 : Below W1.heap.size W1 (U67.setRow p #[.int .i64 (clean A).ty, .int .i64 (clean A).n, .string (strOf (clean A).t), .bool (clean A).b]) := below_setRow HB67 hp _
          have hq6 : (U67.setRow p #[.int .i64 (clean A).ty, .int .i64 (clean A).n, .string (strOf (clean A).t), .bool (clean A).b]).heap[q]? = some (.cells zeroV 23 (0, 0)) := (heap_setRow_other _ _ _ _ hpq).trans HQ67
          have hp6 : Box (U67.setRow p #[.int .i64 (clean A).ty, .int .i64 (clean A).n, .string (strOf (clean A).t), .bool (clean A).b]) p (clean A) := setRow_heap _ _ _ _ _ _ HP67
          have hb7 : Below W1.heap.size W1 ((U67.setRow p #[.int .i64 (clean A).ty, .int .i64 (clean A).n, .string (strOf (clean A).t), .bool (clean A).b]).setRow q #[.int .i64 (clean B).ty, .int .i64 (clean B).n, .string (strOf (clean B).t), .bool (clean B).b]) := below_setRow hb6 hq _
          have hq7 : Box ((U67.setRow p #[.int .i64 (clean A).ty, .int .i64 (clean A).n, .string (strOf (clean A).t), .bool (clean A).b]).setRow q #[.int .i64 (clean B).ty, .int .i64 (clean B).n, .string (strOf (clean B).t), .bool (clean B).b]) q (clean B) := setRow_heap _ _ _ _ _ _ hq6
          have hp7 : Box ((U67.setRow p #[.int .i64 (clean A).ty, .int .i64 (clean A).n, .string (strOf (clean A).t), .bool (clean A).b]).setRow q #[.int .i64 (clean B).ty, .int .i64 (clean B).n, .string (strOf (clean B).t), .bool (clean B).b]) p (clean A) := (heap_setRow_other _ _ _ _ (fun e => hpq e.symm)).trans hp6
          refine step_store_to 6 (U67.setRow p #[.int .i64 (clean A).ty, .int .i64 (clean A).n, .string (strOf (clean A).t), .bool (clean A).b]) rfl (by kernel_rfl) rfl (by rfl) 23 (.tmp 9) (.tmp 23) rfl (.pointer (some ⟨p, 0, none⟩)) (.agg #[.int .i64 (clean A).ty, .int .i64 (clean A).n, .string (strOf (clean A).t), .bool (clean A).b]) rfl rfl (store23 HP67 _) ⟨HX4.out.belowW hb6, HX5.out.belowW hb6⟩ ?_
          refine step_store_to 7 ((U67.setRow p #[.int .i64 (clean A).ty, .int .i64 (clean A).n, .string (strOf (clean A).t), .bool (clean A).b]).setRow q #[.int .i64 (clean B).ty, .int .i64 (clean B).n, .string (strOf (clean B).t), .bool (clean B).b]) rfl (by kernel_rfl) rfl (by rfl) 23 (.tmp 10) (.tmp 25) rfl (.pointer (some ⟨q, 0, none⟩)) (.agg #[.int .i64 (clean B).ty, .int .i64 (clean B).n, .string (strOf (clean B).t), .bool (clean B).b]) rfl rfl (store23 hq6 _) ⟨HX4.out.belowW hb7, HX5.out.belowW hb7⟩ ?_
          refine wpAnyH_done (by kernel_rfl) ?_ _
          exact ⟨rfl, p, q, ⟨hp7, hq7, hb7⟩, rfl⟩
    · have HB69 := HB0.alloc HB0.size (.cells zeroV 23)
      refine op_to 9 (.pointer (some ⟨U0.heap.size, 0, none⟩)) (U0.alloc (.cells zeroV 23)) rfl rfl (by rfl) (op_alloc23 _ _ rfl _) ⟨⟨HX4.out.belowW HB69, HX5.out.belowW HB69⟩, ?_⟩
      simp only [Act.put, List.setIfInBounds_toArray, List.set_cons_zero, List.set_cons_succ]
      have HN69 : (U0.alloc (.cells zeroV 23)).heap[U0.heap.size]? = some (.cells zeroV 23 (0, 0)) := heap_alloc_new U0 _
      have hp := HB0.size
      generalize U0.alloc (.cells zeroV 23) = U69 at HB69 HN69 ⊢
      generalize U0.heap.size = p at HN69 hp ⊢
      refine wpAnyH_all (rs := [1, 5]) (by kernel_rfl) (by simp) ?_
      intro n hn
      rcases (by simpa using hn : n = 1 ∨ n = 5) with rfl | rfl
      · refine op_call1_to 23 18 rfl rfl (by rfl) (.tmp 22) _ rfl _ rfl Try.enters18 (clean_any A U69) ?_
        rintro e U70 ⟨rfl, hb⟩
        have HB70 := HB69.trans (hb.mono HB69.size)
        have HP70 := (hb.block _ (lt_of_heap HN69)).trans HN69
        refine ⟨_, rfl, ⟨HX4.out.belowW HB70, HX5.out.belowW HB70⟩, ?_⟩
        unfold valOf
        simp only [Act.put, List.setIfInBounds_toArray, List.set_cons_zero, List.set_cons_succ]
        refine wpAnyH_all (rs := [3, 5]) (by kernel_rfl) (by simp) ?_
        intro n hn
        rcases (by simpa using hn : n = 3 ∨ n = 5) with rfl | rfl
        · refine op_call1_to 25 18 rfl rfl (by rfl) (.tmp 24) _ rfl _ rfl Try.enters18 (clean_any B U70) ?_
          rintro e U71 ⟨rfl, hb⟩
          have HB71 := HB70.trans (hb.mono HB70.size)
          have HP71 := (hb.block _ (lt_of_heap HP70)).trans HP70
          refine ⟨_, rfl, ⟨HX4.out.belowW HB71, HX5.out.belowW HB71⟩, ?_⟩
          unfold valOf
          simp only [Act.put, List.setIfInBounds_toArray, List.set_cons_zero, List.set_cons_succ]
          have HB72 := HB71.alloc HB71.size (.cells zeroV 23)
          refine step_to 5 10 (.pointer (some ⟨U71.heap.size, 0, none⟩)) (U71.alloc (.cells zeroV 23)) rfl (by kernel_rfl) rfl (by rfl) (op_alloc23 _ _ rfl _) ⟨HX4.out.belowW HB72, HX5.out.belowW HB72⟩ ?_
          simp only [Act.put, List.setIfInBounds_toArray, List.set_cons_zero, List.set_cons_succ]
          have HN72 : (U71.alloc (.cells zeroV 23)).heap[U71.heap.size]? = some (.cells zeroV 23 (0, 0)) := heap_alloc_new U71 _
          have hq := HB71.size
          have HO72 := (Below.heap_alloc U71 (.cells zeroV 23) p (lt_of_heap HP71)).trans HP71
          have hpq : p ≠ U71.heap.size := Nat.ne_of_lt (lt_of_heap HP71)
          generalize U71.alloc (.cells zeroV 23) = U72 at HB72 HN72 HO72 ⊢
          generalize U71.heap.size = q at HN72 hq hpq ⊢
          have hb6 : Below W1.heap.size W1 (U72.setRow p #[.int .i64 (clean A).ty, .int .i64 (clean A).n, .string (strOf (clean A).t), .bool (clean A).b]) := below_setRow HB72 hp _
          have hq6 : (U72.setRow p #[.int .i64 (clean A).ty, .int .i64 (clean A).n, .string (strOf (clean A).t), .bool (clean A).b]).heap[q]? = some (.cells zeroV 23 (0, 0)) := (heap_setRow_other _ _ _ _ hpq).trans HN72
          have hp6 : Box (U72.setRow p #[.int .i64 (clean A).ty, .int .i64 (clean A).n, .string (strOf (clean A).t), .bool (clean A).b]) p (clean A) := setRow_heap _ _ _ _ _ _ HO72
          have hb7 : Below W1.heap.size W1 ((U72.setRow p #[.int .i64 (clean A).ty, .int .i64 (clean A).n, .string (strOf (clean A).t), .bool (clean A).b]).setRow q #[.int .i64 (clean B).ty, .int .i64 (clean B).n, .string (strOf (clean B).t), .bool (clean B).b]) := below_setRow hb6 hq _
          have hq7 : Box ((U72.setRow p #[.int .i64 (clean A).ty, .int .i64 (clean A).n, .string (strOf (clean A).t), .bool (clean A).b]).setRow q #[.int .i64 (clean B).ty, .int .i64 (clean B).n, .string (strOf (clean B).t), .bool (clean B).b]) q (clean B) := setRow_heap _ _ _ _ _ _ hq6
          have hp7 : Box ((U72.setRow p #[.int .i64 (clean A).ty, .int .i64 (clean A).n, .string (strOf (clean A).t), .bool (clean A).b]).setRow q #[.int .i64 (clean B).ty, .int .i64 (clean B).n, .string (strOf (clean B).t), .bool (clean B).b]) p (clean A) := (heap_setRow_other _ _ _ _ (fun e => hpq e.symm)).trans hp6
          refine step_store_to 6 (U72.setRow p #[.int .i64 (clean A).ty, .int .i64 (clean A).n, .string (strOf (clean A).t), .bool (clean A).b]) rfl (by kernel_rfl) rfl (by rfl) 23 (.tmp 9) (.tmp 23) rfl (.pointer (some ⟨p, 0, none⟩)) (.agg #[.int .i64 (clean A).ty, .int .i64 (clean A).n, .string (strOf (clean A).t), .bool (clean A).b]) rfl rfl (store23 HO72 _) ⟨HX4.out.belowW hb6, HX5.out.belowW hb6⟩ ?_
          refine step_store_to 7 ((U72.setRow p #[.int .i64 (clean A).ty, .int .i64 (clean A).n, .string (strOf (clean A).t), .bool (clean A).b]).setRow q #[.int .i64 (clean B).ty, .int .i64 (clean B).n, .string (strOf (clean B).t), .bool (clean B).b]) rfl (by kernel_rfl) rfl (by rfl) 23 (.tmp 10) (.tmp 25) rfl (.pointer (some ⟨q, 0, none⟩)) (.agg #[.int .i64 (clean B).ty, .int .i64 (clean B).n, .string (strOf (clean B).t), .bool (clean B).b]) rfl rfl (store23 hq6 _) ⟨HX4.out.belowW hb7, HX5.out.belowW hb7⟩ ?_
          refine wpAnyH_done (by kernel_rfl) ?_ _
          exact ⟨rfl, p, q, ⟨hp7, hq7, hb7⟩, rfl⟩
        · have HB74 := HB70.alloc HB70.size (.cells zeroV 23)
          refine op_to 10 (.pointer (some ⟨U70.heap.size, 0, none⟩)) (U70.alloc (.cells zeroV 23)) rfl rfl (by rfl) (op_alloc23 _ _ rfl _) ⟨⟨HX4.out.belowW HB74, HX5.out.belowW HB74⟩, ?_⟩
          simp only [Act.put, List.setIfInBounds_toArray, List.set_cons_zero, List.set_cons_succ]
          have HN74 : (U70.alloc (.cells zeroV 23)).heap[U70.heap.size]? = some (.cells zeroV 23 (0, 0)) := heap_alloc_new U70 _
          have hq := HB70.size
          have HO74 := (Below.heap_alloc U70 (.cells zeroV 23) p (lt_of_heap HP70)).trans HP70
          have hpq : p ≠ U70.heap.size := Nat.ne_of_lt (lt_of_heap HP70)
          generalize U70.alloc (.cells zeroV 23) = U74 at HB74 HN74 HO74 ⊢
          generalize U70.heap.size = q at HN74 hq hpq ⊢
          refine step_call1_to 3 25 18 rfl (by kernel_rfl) rfl (by rfl) (.tmp 24) _ rfl _ rfl Try.enters18 (clean_any B U74) ?_
          rintro e U75 ⟨rfl, hb⟩
          have HB75 := HB74.trans (hb.mono HB74.size)
          have HP75 := (hb.block _ (lt_of_heap HO74)).trans HO74
          have HQ75 := (hb.block _ (lt_of_heap HN74)).trans HN74
          refine ⟨_, rfl, ⟨HX4.out.belowW HB75, HX5.out.belowW HB75⟩, ?_⟩
          unfold valOf
          simp only [Act.put, List.setIfInBounds_toArray, List.set_cons_zero, List.set_cons_succ]
          have hb6 : Below W1.heap.size W1 (U75.setRow p #[.int .i64 (clean A).ty, .int .i64 (clean A).n, .string (strOf (clean A).t), .bool (clean A).b]) := below_setRow HB75 hp _
          have hq6 : (U75.setRow p #[.int .i64 (clean A).ty, .int .i64 (clean A).n, .string (strOf (clean A).t), .bool (clean A).b]).heap[q]? = some (.cells zeroV 23 (0, 0)) := (heap_setRow_other _ _ _ _ hpq).trans HQ75
          have hp6 : Box (U75.setRow p #[.int .i64 (clean A).ty, .int .i64 (clean A).n, .string (strOf (clean A).t), .bool (clean A).b]) p (clean A) := setRow_heap _ _ _ _ _ _ HP75
          have hb7 : Below W1.heap.size W1 ((U75.setRow p #[.int .i64 (clean A).ty, .int .i64 (clean A).n, .string (strOf (clean A).t), .bool (clean A).b]).setRow q #[.int .i64 (clean B).ty, .int .i64 (clean B).n, .string (strOf (clean B).t), .bool (clean B).b]) := below_setRow hb6 hq _
          have hq7 : Box ((U75.setRow p #[.int .i64 (clean A).ty, .int .i64 (clean A).n, .string (strOf (clean A).t), .bool (clean A).b]).setRow q #[.int .i64 (clean B).ty, .int .i64 (clean B).n, .string (strOf (clean B).t), .bool (clean B).b]) q (clean B) := setRow_heap _ _ _ _ _ _ hq6
          have hp7 : Box ((U75.setRow p #[.int .i64 (clean A).ty, .int .i64 (clean A).n, .string (strOf (clean A).t), .bool (clean A).b]).setRow q #[.int .i64 (clean B).ty, .int .i64 (clean B).n, .string (strOf (clean B).t), .bool (clean B).b]) p (clean A) := (heap_setRow_other _ _ _ _ (fun e => hpq e.symm)).trans hp6
          refine step_store_to 6 (U75.setRow p #[.int .i64 (clean A).ty, .int .i64 (clean A).n, .string (strOf (clean A).t), .bool (clean A).b]) rfl (by kernel_rfl) rfl (by rfl) 23 (.tmp 9) (.tmp 23) rfl (.pointer (some ⟨p, 0, none⟩)) (.agg #[.int .i64 (clean A).ty, .int .i64 (clean A).n, .string (strOf (clean A).t), .bool (clean A).b]) rfl rfl (store23 HP75 _) ⟨HX4.out.belowW hb6, HX5.out.belowW hb6⟩ ?_
          refine step_store_to 7 ((U75.setRow p #[.int .i64 (clean A).ty, .int .i64 (clean A).n, .string (strOf (clean A).t), .bool (clean A).b]).setRow q #[.int .i64 (clean B).ty, .int .i64 (clean B).n, .string (strOf (clean B).t), .bool (clean B).b]) rfl (by kernel_rfl) rfl (by rfl) 23 (.tmp 10) (.tmp 25) rfl (.pointer (some ⟨q, 0, none⟩)) (.agg #[.int .i64 (clean B).ty, .int .i64 (clean B).n, .string (strOf (clean B).t), .bool (clean B).b]) rfl rfl (store23 hq6 _) ⟨HX4.out.belowW hb7, HX5.out.belowW hb7⟩ ?_
          refine wpAnyH_done (by kernel_rfl) ?_ _
          exact ⟨rfl, p, q, ⟨hp7, hq7, hb7⟩, rfl⟩
      · have HB77 := HB69.alloc HB69.size (.cells zeroV 23)
        refine op_to 10 (.pointer (some ⟨U69.heap.size, 0, none⟩)) (U69.alloc (.cells zeroV 23)) rfl rfl (by rfl) (op_alloc23 _ _ rfl _) ⟨⟨HX4.out.belowW HB77, HX5.out.belowW HB77⟩, ?_⟩
        simp only [Act.put, List.setIfInBounds_toArray, List.set_cons_zero, List.set_cons_succ]
        have HN77 : (U69.alloc (.cells zeroV 23)).heap[U69.heap.size]? = some (.cells zeroV 23 (0, 0)) := heap_alloc_new U69 _
        have hq := HB69.size
        have HO77 := (Below.heap_alloc U69 (.cells zeroV 23) p (lt_of_heap HN69)).trans HN69
        have hpq : p ≠ U69.heap.size := Nat.ne_of_lt (lt_of_heap HN69)
        generalize U69.alloc (.cells zeroV 23) = U77 at HB77 HN77 HO77 ⊢
        generalize U69.heap.size = q at HN77 hq hpq ⊢
        refine step_call1_to 1 23 18 rfl (by kernel_rfl) rfl (by rfl) (.tmp 22) _ rfl _ rfl Try.enters18 (clean_any A U77) ?_
        rintro e U78 ⟨rfl, hb⟩
        have HB78 := HB77.trans (hb.mono HB77.size)
        have HP78 := (hb.block _ (lt_of_heap HO77)).trans HO77
        have HQ78 := (hb.block _ (lt_of_heap HN77)).trans HN77
        refine ⟨_, rfl, ⟨HX4.out.belowW HB78, HX5.out.belowW HB78⟩, ?_⟩
        unfold valOf
        simp only [Act.put, List.setIfInBounds_toArray, List.set_cons_zero, List.set_cons_succ]
        refine step_call1_to 3 25 18 rfl (by kernel_rfl) rfl (by rfl) (.tmp 24) _ rfl _ rfl Try.enters18 (clean_any B U78) ?_
        rintro e U79 ⟨rfl, hb⟩
        have HB79 := HB78.trans (hb.mono HB78.size)
        have HP79 := (hb.block _ (lt_of_heap HP78)).trans HP78
        have HQ79 := (hb.block _ (lt_of_heap HQ78)).trans HQ78
        refine ⟨_, rfl, ⟨HX4.out.belowW HB79, HX5.out.belowW HB79⟩, ?_⟩
        unfold valOf
        simp only [Act.put, List.setIfInBounds_toArray, List.set_cons_zero, List.set_cons_succ]
        have hb6 : Below W1.heap.size W1 (U79.setRow p #[.int .i64 (clean A).ty, .int .i64 (clean A).n, .string (strOf (clean A).t), .bool (clean A).b]) := below_setRow HB79 hp _
        have hq6 : (U79.setRow p #[.int .i64 (clean A).ty, .int .i64 (clean A).n, .string (strOf (clean A).t), .bool (clean A).b]).heap[q]? = some (.cells zeroV 23 (0, 0)) := (heap_setRow_other _ _ _ _ hpq).trans HQ79
        have hp6 : Box (U79.setRow p #[.int .i64 (clean A).ty, .int .i64 (clean A).n, .string (strOf (clean A).t), .bool (clean A).b]) p (clean A) := setRow_heap _ _ _ _ _ _ HP79
        have hb7 : Below W1.heap.size W1 ((U79.setRow p #[.int .i64 (clean A).ty, .int .i64 (clean A).n, .string (strOf (clean A).t), .bool (clean A).b]).setRow q #[.int .i64 (clean B).ty, .int .i64 (clean B).n, .string (strOf (clean B).t), .bool (clean B).b]) := below_setRow hb6 hq _
        have hq7 : Box ((U79.setRow p #[.int .i64 (clean A).ty, .int .i64 (clean A).n, .string (strOf (clean A).t), .bool (clean A).b]).setRow q #[.int .i64 (clean B).ty, .int .i64 (clean B).n, .string (strOf (clean B).t), .bool (clean B).b]) q (clean B) := setRow_heap _ _ _ _ _ _ hq6
        have hp7 : Box ((U79.setRow p #[.int .i64 (clean A).ty, .int .i64 (clean A).n, .string (strOf (clean A).t), .bool (clean A).b]).setRow q #[.int .i64 (clean B).ty, .int .i64 (clean B).n, .string (strOf (clean B).t), .bool (clean B).b]) p (clean A) := (heap_setRow_other _ _ _ _ (fun e => hpq e.symm)).trans hp6
        refine step_store_to 6 (U79.setRow p #[.int .i64 (clean A).ty, .int .i64 (clean A).n, .string (strOf (clean A).t), .bool (clean A).b]) rfl (by kernel_rfl) rfl (by rfl) 23 (.tmp 9) (.tmp 23) rfl (.pointer (some ⟨p, 0, none⟩)) (.agg #[.int .i64 (clean A).ty, .int .i64 (clean A).n, .string (strOf (clean A).t), .bool (clean A).b]) rfl rfl (store23 HP79 _) ⟨HX4.out.belowW hb6, HX5.out.belowW hb6⟩ ?_
        refine step_store_to 7 ((U79.setRow p #[.int .i64 (clean A).ty, .int .i64 (clean A).n, .string (strOf (clean A).t), .bool (clean A).b]).setRow q #[.int .i64 (clean B).ty, .int .i64 (clean B).n, .string (strOf (clean B).t), .bool (clean B).b]) rfl (by kernel_rfl) rfl (by rfl) 23 (.tmp 10) (.tmp 25) rfl (.pointer (some ⟨q, 0, none⟩)) (.agg #[.int .i64 (clean B).ty, .int .i64 (clean B).n, .string (strOf (clean B).t), .bool (clean B).b]) rfl rfl (store23 hq6 _) ⟨HX4.out.belowW hb7, HX5.out.belowW hb7⟩ ?_
        refine wpAnyH_done (by kernel_rfl) ?_ _
        exact ⟨rfl, p, q, ⟨hp7, hq7, hb7⟩, rfl⟩
    · have HB81 := HB0.alloc HB0.size (.cells zeroV 23)
      refine op_to 10 (.pointer (some ⟨U0.heap.size, 0, none⟩)) (U0.alloc (.cells zeroV 23)) rfl rfl (by rfl) (op_alloc23 _ _ rfl _) ⟨⟨HX4.out.belowW HB81, HX5.out.belowW HB81⟩, ?_⟩
      simp only [Act.put, List.setIfInBounds_toArray, List.set_cons_zero, List.set_cons_succ]
      have HN81 : (U0.alloc (.cells zeroV 23)).heap[U0.heap.size]? = some (.cells zeroV 23 (0, 0)) := heap_alloc_new U0 _
      have hq := HB0.size
      generalize U0.alloc (.cells zeroV 23) = U81 at HB81 HN81 ⊢
      generalize U0.heap.size = q at HN81 hq ⊢
      refine wpAnyH_all (rs := [1, 4]) (by kernel_rfl) (by simp) ?_
      intro n hn
      rcases (by simpa using hn : n = 1 ∨ n = 4) with rfl | rfl
      · refine op_call1_to 23 18 rfl rfl (by rfl) (.tmp 22) _ rfl _ rfl Try.enters18 (clean_any A U81) ?_
        rintro e U82 ⟨rfl, hb⟩
        have HB82 := HB81.trans (hb.mono HB81.size)
        have HQ82 := (hb.block _ (lt_of_heap HN81)).trans HN81
        refine ⟨_, rfl, ⟨HX4.out.belowW HB82, HX5.out.belowW HB82⟩, ?_⟩
        unfold valOf
        simp only [Act.put, List.setIfInBounds_toArray, List.set_cons_zero, List.set_cons_succ]
        refine wpAnyH_all (rs := [3, 4]) (by kernel_rfl) (by simp) ?_
        intro n hn
        rcases (by simpa using hn : n = 3 ∨ n = 4) with rfl | rfl
        · refine op_call1_to 25 18 rfl rfl (by rfl) (.tmp 24) _ rfl _ rfl Try.enters18 (clean_any B U82) ?_
          rintro e U83 ⟨rfl, hb⟩
          have HB83 := HB82.trans (hb.mono HB82.size)
          have HQ83 := (hb.block _ (lt_of_heap HQ82)).trans HQ82
          refine ⟨_, rfl, ⟨HX4.out.belowW HB83, HX5.out.belowW HB83⟩, ?_⟩
          unfold valOf
          simp only [Act.put, List.setIfInBounds_toArray, List.set_cons_zero, List.set_cons_succ]
          have HB84 := HB83.alloc HB83.size (.cells zeroV 23)
          refine step_to 4 9 (.pointer (some ⟨U83.heap.size, 0, none⟩)) (U83.alloc (.cells zeroV 23)) rfl (by kernel_rfl) rfl (by rfl) (op_alloc23 _ _ rfl _) ⟨HX4.out.belowW HB84, HX5.out.belowW HB84⟩ ?_
          simp only [Act.put, List.setIfInBounds_toArray, List.set_cons_zero, List.set_cons_succ]
          have HN84 : (U83.alloc (.cells zeroV 23)).heap[U83.heap.size]? = some (.cells zeroV 23 (0, 0)) := heap_alloc_new U83 _
          have hp := HB83.size
          have HO84 := (Below.heap_alloc U83 (.cells zeroV 23) q (lt_of_heap HQ83)).trans HQ83
          have hpq : U83.heap.size ≠ q := fun e => Nat.ne_of_lt (lt_of_heap HQ83) e.symm
          generalize U83.alloc (.cells zeroV 23) = U84 at HB84 HN84 HO84 ⊢
          generalize U83.heap.size = p at HN84 hp hpq ⊢
          have hb6 : Below W1.heap.size W1 (U84.setRow p #[.int .i64 (clean A).ty, .int .i64 (clean A).n, .string (strOf (clean A).t), .bool (clean A).b]) := below_setRow HB84 hp _
          have hq6 : (U84.setRow p #[.int .i64 (clean A).ty, .int .i64 (clean A).n, .string (strOf (clean A).t), .bool (clean A).b]).heap[q]? = some (.cells zeroV 23 (0, 0)) := (heap_setRow_other _ _ _ _ hpq).trans HO84
          have hp6 : Box (U84.setRow p #[.int .i64 (clean A).ty, .int .i64 (clean A).n, .string (strOf (clean A).t), .bool (clean A).b]) p (clean A) := setRow_heap _ _ _ _ _ _ HN84
          have hb7 : Below W1.heap.size W1 ((U84.setRow p #[.int .i64 (clean A).ty, .int .i64 (clean A).n, .string (strOf (clean A).t), .bool (clean A).b]).setRow q #[.int .i64 (clean B).ty, .int .i64 (clean B).n, .string (strOf (clean B).t), .bool (clean B).b]) := below_setRow hb6 hq _
          have hq7 : Box ((U84.setRow p #[.int .i64 (clean A).ty, .int .i64 (clean A).n, .string (strOf (clean A).t), .bool (clean A).b]).setRow q #[.int .i64 (clean B).ty, .int .i64 (clean B).n, .string (strOf (clean B).t), .bool (clean B).b]) q (clean B) := setRow_heap _ _ _ _ _ _ hq6
          have hp7 : Box ((U84.setRow p #[.int .i64 (clean A).ty, .int .i64 (clean A).n, .string (strOf (clean A).t), .bool (clean A).b]).setRow q #[.int .i64 (clean B).ty, .int .i64 (clean B).n, .string (strOf (clean B).t), .bool (clean B).b]) p (clean A) := (heap_setRow_other _ _ _ _ (fun e => hpq e.symm)).trans hp6
          refine step_store_to 6 (U84.setRow p #[.int .i64 (clean A).ty, .int .i64 (clean A).n, .string (strOf (clean A).t), .bool (clean A).b]) rfl (by kernel_rfl) rfl (by rfl) 23 (.tmp 9) (.tmp 23) rfl (.pointer (some ⟨p, 0, none⟩)) (.agg #[.int .i64 (clean A).ty, .int .i64 (clean A).n, .string (strOf (clean A).t), .bool (clean A).b]) rfl rfl (store23 HN84 _) ⟨HX4.out.belowW hb6, HX5.out.belowW hb6⟩ ?_
          refine step_store_to 7 ((U84.setRow p #[.int .i64 (clean A).ty, .int .i64 (clean A).n, .string (strOf (clean A).t), .bool (clean A).b]).setRow q #[.int .i64 (clean B).ty, .int .i64 (clean B).n, .string (strOf (clean B).t), .bool (clean B).b]) rfl (by kernel_rfl) rfl (by rfl) 23 (.tmp 10) (.tmp 25) rfl (.pointer (some ⟨q, 0, none⟩)) (.agg #[.int .i64 (clean B).ty, .int .i64 (clean B).n, .string (strOf (clean B).t), .bool (clean B).b]) rfl rfl (store23 hq6 _) ⟨HX4.out.belowW hb7, HX5.out.belowW hb7⟩ ?_
          refine wpAnyH_done (by kernel_rfl) ?_ _
          exact ⟨rfl, p, q, ⟨hp7, hq7, hb7⟩, rfl⟩
        · have HB86 := HB82.alloc HB82.size (.cells zeroV 23)
          refine op_to 9 (.pointer (some ⟨U82.heap.size, 0, none⟩)) (U82.alloc (.cells zeroV 23)) rfl rfl (by rfl) (op_alloc23 _ _ rfl _) ⟨⟨HX4.out.belowW HB86, HX5.out.belowW HB86⟩, ?_⟩
          simp only [Act.put, List.setIfInBounds_toArray, List.set_cons_zero, List.set_cons_succ]
          have HN86 : (U82.alloc (.cells zeroV 23)).heap[U82.heap.size]? = some (.cells zeroV 23 (0, 0)) := heap_alloc_new U82 _
          have hp := HB82.size
          have HO86 := (Below.heap_alloc U82 (.cells zeroV 23) q (lt_of_heap HQ82)).trans HQ82
          have hpq : U82.heap.size ≠ q := fun e => Nat.ne_of_lt (lt_of_heap HQ82) e.symm
          generalize U82.alloc (.cells zeroV 23) = U86 at HB86 HN86 HO86 ⊢
          generalize U82.heap.size = p at HN86 hp hpq ⊢
          refine step_call1_to 3 25 18 rfl (by kernel_rfl) rfl (by rfl) (.tmp 24) _ rfl _ rfl Try.enters18 (clean_any B U86) ?_
          rintro e U87 ⟨rfl, hb⟩
          have HB87 := HB86.trans (hb.mono HB86.size)
          have HP87 := (hb.block _ (lt_of_heap HN86)).trans HN86
          have HQ87 := (hb.block _ (lt_of_heap HO86)).trans HO86
          refine ⟨_, rfl, ⟨HX4.out.belowW HB87, HX5.out.belowW HB87⟩, ?_⟩
          unfold valOf
          simp only [Act.put, List.setIfInBounds_toArray, List.set_cons_zero, List.set_cons_succ]
          have hb6 : Below W1.heap.size W1 (U87.setRow p #[.int .i64 (clean A).ty, .int .i64 (clean A).n, .string (strOf (clean A).t), .bool (clean A).b]) := below_setRow HB87 hp _
          have hq6 : (U87.setRow p #[.int .i64 (clean A).ty, .int .i64 (clean A).n, .string (strOf (clean A).t), .bool (clean A).b]).heap[q]? = some (.cells zeroV 23 (0, 0)) := (heap_setRow_other _ _ _ _ hpq).trans HQ87
          have hp6 : Box (U87.setRow p #[.int .i64 (clean A).ty, .int .i64 (clean A).n, .string (strOf (clean A).t), .bool (clean A).b]) p (clean A) := setRow_heap _ _ _ _ _ _ HP87
          have hb7 : Below W1.heap.size W1 ((U87.setRow p #[.int .i64 (clean A).ty, .int .i64 (clean A).n, .string (strOf (clean A).t), .bool (clean A).b]).setRow q #[.int .i64 (clean B).ty, .int .i64 (clean B).n, .string (strOf (clean B).t), .bool (clean B).b]) := below_setRow hb6 hq _
          have hq7 : Box ((U87.setRow p #[.int .i64 (clean A).ty, .int .i64 (clean A).n, .string (strOf (clean A).t), .bool (clean A).b]).setRow q #[.int .i64 (clean B).ty, .int .i64 (clean B).n, .string (strOf (clean B).t), .bool (clean B).b]) q (clean B) := setRow_heap _ _ _ _ _ _ hq6
          have hp7 : Box ((U87.setRow p #[.int .i64 (clean A).ty, .int .i64 (clean A).n, .string (strOf (clean A).t), .bool (clean A).b]).setRow q #[.int .i64 (clean B).ty, .int .i64 (clean B).n, .string (strOf (clean B).t), .bool (clean B).b]) p (clean A) := (heap_setRow_other _ _ _ _ (fun e => hpq e.symm)).trans hp6
          refine step_store_to 6 (U87.setRow p #[.int .i64 (clean A).ty, .int .i64 (clean A).n, .string (strOf (clean A).t), .bool (clean A).b]) rfl (by kernel_rfl) rfl (by rfl) 23 (.tmp 9) (.tmp 23) rfl (.pointer (some ⟨p, 0, none⟩)) (.agg #[.int .i64 (clean A).ty, .int .i64 (clean A).n, .string (strOf (clean A).t), .bool (clean A).b]) rfl rfl (store23 HP87 _) ⟨HX4.out.belowW hb6, HX5.out.belowW hb6⟩ ?_
          refine step_store_to 7 ((U87.setRow p #[.int .i64 (clean A).ty, .int .i64 (clean A).n, .string (strOf (clean A).t), .bool (clean A).b]).setRow q #[.int .i64 (clean B).ty, .int .i64 (clean B).n, .string (strOf (clean B).t), .bool (clean B).b]) rfl (by kernel_rfl) rfl (by rfl) 23 (.tmp 10) (.tmp 25) rfl (.pointer (some ⟨q, 0, none⟩)) (.agg #[.int .i64 (clean B).ty, .int .i64 (clean B).n, .string (strOf (clean B).t), .bool (clean B).b]) rfl rfl (store23 hq6 _) ⟨HX4.out.belowW hb7, HX5.out.belowW hb7⟩ ?_
          refine wpAnyH_done (by kernel_rfl) ?_ _
          exact ⟨rfl, p, q, ⟨hp7, hq7, hb7⟩, rfl⟩
      · have HB89 := HB81.alloc HB81.size (.cells zeroV 23)
        refine op_to 9 (.pointer (some ⟨U81.heap.size, 0, none⟩)) (U81.alloc (.cells zeroV 23)) rfl rfl (by rfl) (op_alloc23 _ _ rfl _) ⟨⟨HX4.out.belowW HB89, HX5.out.belowW HB89⟩, ?_⟩
        simp only [Act.put, List.setIfInBounds_toArray, List.set_cons_zero, List.set_cons_succ]
        have HN89 : (U81.alloc (.cells zeroV 23)).heap[U81.heap.size]? = some (.cells zeroV 23 (0, 0)) := heap_alloc_new U81 _
        have hp := HB81.size
        have HO89 := (Below.heap_alloc U81 (.cells zeroV 23) q (lt_of_heap HN81)).trans HN81
        have hpq : U81.heap.size ≠ q := fun e => Nat.ne_of_lt (lt_of_heap HN81) e.symm
        generalize U81.alloc (.cells zeroV 23) = U89 at HB89 HN89 HO89 ⊢
        generalize U81.heap.size = p at HN89 hp hpq ⊢
        refine step_call1_to 1 23 18 rfl (by kernel_rfl) rfl (by rfl) (.tmp 22) _ rfl _ rfl Try.enters18 (clean_any A U89) ?_
        rintro e U90 ⟨rfl, hb⟩
        have HB90 := HB89.trans (hb.mono HB89.size)
        have HP90 := (hb.block _ (lt_of_heap HN89)).trans HN89
        have HQ90 := (hb.block _ (lt_of_heap HO89)).trans HO89
        refine ⟨_, rfl, ⟨HX4.out.belowW HB90, HX5.out.belowW HB90⟩, ?_⟩
        unfold valOf
        simp only [Act.put, List.setIfInBounds_toArray, List.set_cons_zero, List.set_cons_succ]
        refine step_call1_to 3 25 18 rfl (by kernel_rfl) rfl (by rfl) (.tmp 24) _ rfl _ rfl Try.enters18 (clean_any B U90) ?_
        rintro e U91 ⟨rfl, hb⟩
        have HB91 := HB90.trans (hb.mono HB90.size)
        have HP91 := (hb.block _ (lt_of_heap HP90)).trans HP90
        have HQ91 := (hb.block _ (lt_of_heap HQ90)).trans HQ90
        refine ⟨_, rfl, ⟨HX4.out.belowW HB91, HX5.out.belowW HB91⟩, ?_⟩
        unfold valOf
        simp only [Act.put, List.setIfInBounds_toArray, List.set_cons_zero, List.set_cons_succ]
        have hb6 : Below W1.heap.size W1 (U91.setRow p #[.int .i64 (clean A).ty, .int .i64 (clean A).n, .string (strOf (clean A).t), .bool (clean A).b]) := below_setRow HB91 hp _
        have hq6 : (U91.setRow p #[.int .i64 (clean A).ty, .int .i64 (clean A).n, .string (strOf (clean A).t), .bool (clean A).b]).heap[q]? = some (.cells zeroV 23 (0, 0)) := (heap_setRow_other _ _ _ _ hpq).trans HQ91
        have hp6 : Box (U91.setRow p #[.int .i64 (clean A).ty, .int .i64 (clean A).n, .string (strOf (clean A).t), .bool (clean A).b]) p (clean A) := setRow_heap _ _ _ _ _ _ HP91
        have hb7 : Below W1.heap.size W1 ((U91.setRow p #[.int .i64 (clean A).ty, .int .i64 (clean A).n, .string (strOf (clean A).t), .bool (clean A).b]).setRow q #[.int .i64 (clean B).ty, .int .i64 (clean B).n, .string (strOf (clean B).t), .bool (clean B).b]) := below_setRow hb6 hq _
        have hq7 : Box ((U91.setRow p #[.int .i64 (clean A).ty, .int .i64 (clean A).n, .string (strOf (clean A).t), .bool (clean A).b]).setRow q #[.int .i64 (clean B).ty, .int .i64 (clean B).n, .string (strOf (clean B).t), .bool (clean B).b]) q (clean B) := setRow_heap _ _ _ _ _ _ hq6
        have hp7 : Box ((U91.setRow p #[.int .i64 (clean A).ty, .int .i64 (clean A).n, .string (strOf (clean A).t), .bool (clean A).b]).setRow q #[.int .i64 (clean B).ty, .int .i64 (clean B).n, .string (strOf (clean B).t), .bool (clean B).b]) p (clean A) := (heap_setRow_other _ _ _ _ (fun e => hpq e.symm)).trans hp6
        refine step_store_to 6 (U91.setRow p #[.int .i64 (clean A).ty, .int .i64 (clean A).n, .string (strOf (clean A).t), .bool (clean A).b]) rfl (by kernel_rfl) rfl (by rfl) 23 (.tmp 9) (.tmp 23) rfl (.pointer (some ⟨p, 0, none⟩)) (.agg #[.int .i64 (clean A).ty, .int .i64 (clean A).n, .string (strOf (clean A).t), .bool (clean A).b]) rfl rfl (store23 HP91 _) ⟨HX4.out.belowW hb6, HX5.out.belowW hb6⟩ ?_
        refine step_store_to 7 ((U91.setRow p #[.int .i64 (clean A).ty, .int .i64 (clean A).n, .string (strOf (clean A).t), .bool (clean A).b]).setRow q #[.int .i64 (clean B).ty, .int .i64 (clean B).n, .string (strOf (clean B).t), .bool (clean B).b]) rfl (by kernel_rfl) rfl (by rfl) 23 (.tmp 10) (.tmp 25) rfl (.pointer (some ⟨q, 0, none⟩)) (.agg #[.int .i64 (clean B).ty, .int .i64 (clean B).n, .string (strOf (clean B).t), .bool (clean B).b]) rfl rfl (store23 hq6 _) ⟨HX4.out.belowW hb7, HX5.out.belowW hb7⟩ ?_
        refine wpAnyH_done (by kernel_rfl) ?_ _
        exact ⟨rfl, p, q, ⟨hp7, hq7, hb7⟩, rfl⟩
  case cont =>
    rintro e a' W2 ⟨rfl, p, q, ⟨hp, hq, hB2⟩, ha'⟩
    rw [ha', ha0]
    simp only [Act.put, List.setIfInBounds_toArray, List.set_cons_zero, List.set_cons_succ]
    clear ha' ha0
    have HP := hide hp
    have HQ := hide hq
    have HB : Hid (Below w.heap.size w W2) := HBW.out.trans (hB2.mono HBW.out.size)
    clear hp hq hB2 HX4 HX5 HBW
    have HST := hide (stand hA hB)
    have HWX := hide (wf_clean hA)
    have HWY := hide (wf_clean hB)
    have HLX : Hid (2 * (clean A).t.length + 20 ≤ 500000000) := by have := clean_len A; rw [Hid]; omega
    have HLY : Hid (2 * (clean B).t.length + 20 ≤ 500000000) := by have := clean_len B; rw [Hid]; omega
    have HLEX : Hid ((enc (clean A)).length ≤ 500000000) := by have := (length_enc (clean A)).2; have := HLX.out; rw [Hid]; omega
    have HLEY : Hid ((enc (clean B)).length ≤ 500000000) := by have := (length_enc (clean B)).2; have := HLY.out; rw [Hid]; omega
    clear hA hB bA bB
    generalize clean A = X at *
    generalize clean B = Y at *
    go_upto_region 2 with fail
    refine wp_region_held_drew (S := fun w' => Box w' p X ∧ Box w' q Y) (by kernel_rfl) ⟨HP.out.belowW (below_drewN _ _ 1), HQ.out.belowW (below_drewN _ _ 1)⟩ (fun hH => ?_)
    refine take_to 0 26 (.agg #[.int .i64 (X).ty, .int .i64 (X).n, .string (strOf (X).t), .bool (X).b]) rfl (by kernel_rfl) (by kernel_rfl) (by kernel_rfl) (fun _ _ _ h => h) rfl (by rfl) (fun w hw => op_load _ _ 23 (.tmp 9) rfl (.pointer (some ⟨p, 0, none⟩)) _ rfl (load23 hw.1)) hH ?_
    simp only [Act.put, List.setIfInBounds_toArray, List.set_cons_zero, List.set_cons_succ]
    refine take_to 3 29 (.agg #[.int .i64 (Y).ty, .int .i64 (Y).n, .string (strOf (Y).t), .bool (Y).b]) rfl (by kernel_rfl) (by kernel_rfl) (by kernel_rfl) (fun _ _ _ h => h) rfl (by rfl) (fun w hw => op_load _ _ 23 (.tmp 10) rfl (.pointer (some ⟨q, 0, none⟩)) _ rfl (load23 hw.2)) hH ?_
    simp only [Act.put, List.setIfInBounds_toArray, List.set_cons_zero, List.set_cons_succ]
    have HB0 : Below W2.heap.size W2 W2.drew := below_drewN _ _ 1
    generalize W2.drew = U0 at hH HB0 ⊢
    refine step_call1_to 1 27 10 rfl (by kernel_rfl) rfl (by rfl) (.tmp 26) _ rfl _ rfl Try.enters10 (encode_any U0 U0 (Below.refl _ _) X HWX.out HLX.out) ?_
    rintro e U1 ⟨u1, rfl, hB1, _⟩
    have s1 : Box U1 p X ∧ Box U1 q Y := ⟨hH.1.belowW hB1.below, hH.2.belowW hB1.below⟩
    have HB1 := HB0.trans (hB1.below.mono HB0.size)
    obtain ⟨a1, c1, e1, _, _⟩ := hB1.sl.len
    subst e1
    refine ⟨_, rfl, s1, ?_⟩
    simp only [Act.put, List.setIfInBounds_toArray, List.set_cons_zero, List.set_cons_succ]
    refine wpAnyH_strong (S' := fun w' => (Box w' p X ∧ Box w' q Y) ∧ Sl w' (.slice a1 (enc X).length c1) (enc X)) (fun _ h => h.1) _ _ _ _ ?_
    have s1' := And.intro s1 hB1.sl
    refine take_to 2 28 (.string (strOf (enc X))) rfl (by kernel_rfl) (by kernel_rfl) (by kernel_rfl) (fun _ _ _ h => h) rfl (by rfl) (fun w hw => op_conv _ _ 25 9 (.tmp 27) rfl _ _ rfl (run_str hw.2)) s1' ?_
    simp only [Act.put, List.setIfInBounds_toArray, List.set_cons_zero, List.set_cons_succ]
    refine step_call1_to 4 30 10 rfl (by kernel_rfl) rfl (by rfl) (.tmp 29) _ rfl _ rfl Try.enters10 (encode_any U1 U1 (Below.refl _ _) Y HWY.out HLY.out) ?_
    rintro e U2 ⟨u2, rfl, hB2, _⟩
    have s2 : (Box U2 p X ∧ Box U2 q Y) ∧ Sl U2 (.slice a1 (enc X).length c1) (enc X) := ⟨⟨s1.1.belowW hB2.below, s1.2.belowW hB2.below⟩, hB1.sl.belowW hB2.below⟩
    have HB2 := HB1.trans (hB2.below.mono HB1.size)
    obtain ⟨a2, c2, e2, _, _⟩ := hB2.sl.len
    subst e2
    refine ⟨_, rfl, s2, ?_⟩
    simp only [Act.put, List.setIfInBounds_toArray, List.set_cons_zero, List.set_cons_succ]
    refine wpAnyH_strong (S' := fun w' => ((Box w' p X ∧ Box w' q Y) ∧ Sl w' (.slice a1 (enc X).length c1) (enc X)) ∧ Sl w' (.slice a2 (enc Y).length c2) (enc Y)) (fun _ h => h.1) _ _ _ _ ?_
    have s2' := And.intro s2 hB2.sl
    refine take_to 5 31 (.string (strOf (enc Y))) rfl (by kernel_rfl) (by kernel_rfl) (by kernel_rfl) (fun _ _ _ h => h) rfl (by rfl) (fun w hw => op_conv _ _ 25 9 (.tmp 30) rfl _ _ rfl (run_str hw.2)) s2' ?_
    simp only [Act.put, List.setIfInBounds_toArray, List.set_cons_zero, List.set_cons_succ]
    refine step_to 6 11 (.string (strOf (enc X))) U2 rfl (by kernel_rfl) rfl (by rfl) (rfl) s2' ?_
    simp only [Act.put, List.setIfInBounds_toArray, List.set_cons_zero, List.set_cons_succ]
    refine step_to 7 12 (.string (strOf (enc Y))) U2 rfl (by kernel_rfl) rfl (by rfl) (rfl) s2' ?_
    simp only [Act.put, List.setIfInBounds_toArray, List.set_cons_zero, List.set_cons_succ]
    refine wpAnyH_done (by kernel_rfl) ?_ _
    have HP2 := hide s2.1.1
    have HQ2 := hide s2.1.2
    have HBB := hide (HB.out.trans (HB2.mono HB.out.size))
    clear hB1 hB2 s1 s1' s2 s2' hH HB0 HB1 HB2 HP HQ HB
    have HCC := hide (compare_any X Y U2)
    unfold valOf at HCC
    obtain ⟨p0, p1, p2, p3⟩ := HP2.out.cells
    obtain ⟨q0, q1, q2, q3⟩ := HQ2.out.cells
    go_upto_region 4 with (go_at_call 15; refine HCC.out.mono ?_; rintro e U3 ⟨rfl, hB3⟩)
    have HB3 := hide (HBB.out.trans (hB3.mono HBB.out.size))
    clear hB3 HCC HP2 HQ2 p0 p1 p2 p3 q0 q1 q2 q3 HBB HWX HWY HLX HLY
    go_cut [82] (fun c wx => c = .bool false ∧ wx = U3)
    case first =>
      have e1 := strOf_toList (enc X)
      have e2 := strOf_toList (enc Y)
      have z1 := strOf_size (enc X)
      have z2 := strOf_size (enc Y)
      have hlx := HLEX.out
      have hly := HLEY.out
      rcases HST.out with ⟨hc, hd⟩ | ⟨hc, hd⟩ | ⟨hc, hd⟩
      · have b1 : decide (cmpV X Y < 0) = true := decide_eq_true (by omega)
        have b2 : (cmpV X Y == 0) = false := beq_eq_false_iff_ne.2 (by omega)
        have b2' : (cmpV X Y != 0) = true := by simp; omega
        have b3 : Op.bytesLess (enc X) (enc Y) = true := hd.less.1
        have b4 : (enc X == enc Y) = false := beq_eq_false_iff_ne.2 hd.ne
        have np1 : ∀ s, s = (enc Y).take (enc X).length → (s == enc X) = false := fun s hs => beq_eq_false_iff_ne.2 fun e => hd.not_pre.1 (by rw [← e, hs]; exact List.take_prefix _ _)
        have np2 : ∀ s, s = (enc X).take (enc Y).length → (s == enc Y) = false := fun s hs => beq_eq_false_iff_ne.2 fun e => hd.not_pre.2 (by rw [← e, hs]; exact List.take_prefix _ _)
        have r1 := fun w h => run_strcut w (enc Y) (enc X).length h
        have r2 := fun w h => run_strcut w (enc X) (enc Y).length h
        have e3 := strOf_toList ((enc Y).take (enc X).length)
        have e4 := strOf_toList ((enc X).take (enc Y).length)
        have n1 := np1 _ rfl
        have n2 := np2 _ rfl
        clear np1 np2 hd hc HST
        generalize strOf ((enc Y).take (enc X).length) = s1 at *
        generalize strOf ((enc X).take (enc Y).length) = s2 at *
        generalize (enc Y).take (enc X).length = t1 at *
        generalize (enc X).take (enc Y).length = t2 at *
        generalize strOf (enc X) = sx at *
        generalize strOf (enc Y) = sy at *
        generalize (enc X).length = nx at *
        generalize (enc Y).length = ny at *
        generalize enc X = ex at *
        generalize enc Y = ey at *
        generalize cmpV X Y = cv at *
        rcases Nat.lt_trichotomy nx ny with hc | hc | hc
        · have d1 : decide ((nx : Int) ≤ (ny : Int)) = true := decide_eq_true (by omega)
          have d2 : decide ((ny : Int) ≤ (nx : Int)) = false := decide_eq_false (by omega)
          have r1 := fun w => r1 w (by omega)
          clear r2
          go_wp2
          go_meet
          exact ⟨rfl, rfl⟩
        · have d1 : decide ((nx : Int) ≤ (ny : Int)) = true := decide_eq_true (by omega)
          have d2 : decide ((ny : Int) ≤ (nx : Int)) = true := decide_eq_true (by omega)
          have r1 := fun w => r1 w (by omega)
          have r2 := fun w => r2 w (by omega)
          have m1 : nx ≤ ny := by omega
          have m2 : ny ≤ nx := by omega
          clear hc
          go_wp2
          go_meet
          exact ⟨rfl, rfl⟩
        · have d1 : decide ((nx : Int) ≤ (ny : Int)) = false := decide_eq_false (by omega)
          have d2 : decide ((ny : Int) ≤ (nx : Int)) = true := decide_eq_true (by omega)
          have r2 := fun w => r2 w (by omega)
          clear r1
          go_wp2
          go_meet
          exact ⟨rfl, rfl⟩
      · have b1 : decide (cmpV X Y < 0) = false := decide_eq_false (by omega)
        have b2 : (cmpV X Y == 0) = true := beq_iff_eq.2 hc
        have b2' : (cmpV X Y != 0) = false := by simp [hc]
        have b3 : Op.bytesLess (enc X) (enc Y) = false := by rw [hd]; exact less_irrefl _
        have b4 : (enc X == enc Y) = true := beq_iff_eq.2 (by rw [hd])
        clear hd hc HST
        generalize strOf (enc X) = sx at *
        generalize strOf (enc Y) = sy at *
        generalize enc X = ex at *
        generalize enc Y = ey at *
        generalize cmpV X Y = cv at *
        go_wp2
        go_meet
        exact ⟨rfl, rfl⟩
      · have b1 : decide (cmpV X Y < 0) = false := decide_eq_false (by omega)
        have b2 : (cmpV X Y == 0) = false := beq_eq_false_iff_ne.2 (by omega)
        have b2' : (cmpV X Y != 0) = true := by simp; omega
        have b3 : Op.bytesLess (enc X) (enc Y) = false := hd.less.2
        have b4 : (enc X == enc Y) = false := beq_eq_false_iff_ne.2 (fun e => hd.ne e.symm)
        have np1 : ∀ s, s = (enc Y).take (enc X).length → (s == enc X) = false := fun s hs => beq_eq_false_iff_ne.2 fun e => hd.not_pre.2 (by rw [← e, hs]; exact List.take_prefix _ _)
        have np2 : ∀ s, s = (enc X).take (enc Y).length → (s == enc Y) = false := fun s hs => beq_eq_false_iff_ne.2 fun e => hd.not_pre.1 (by rw [← e, hs]; exact List.take_prefix _ _)
        have r1 := fun w h => run_strcut w (enc Y) (enc X).length h
        have r2 := fun w h => run_strcut w (enc X) (enc Y).length h
        have e3 := strOf_toList ((enc Y).take (enc X).length)
        have e4 := strOf_toList ((enc X).take (enc Y).length)
        have n1 := np1 _ rfl
        have n2 := np2 _ rfl
        clear np1 np2 hd hc HST
        generalize strOf ((enc Y).take (enc X).length) = s1 at *
        generalize strOf ((enc X).take (enc Y).length) = s2 at *
        generalize (enc Y).take (enc X).length = t1 at *
        generalize (enc X).take (enc Y).length = t2 at *
        generalize strOf (enc X) = sx at *
        generalize strOf (enc Y) = sy at *
        generalize (enc X).length = nx at *
        generalize (enc Y).length = ny at *
        generalize enc X = ex at *
        generalize enc Y = ey at *
        generalize cmpV X Y = cv at *
        rcases Nat.lt_trichotomy nx ny with hc | hc | hc
        · have d1 : decide ((nx : Int) ≤ (ny : Int)) = true := decide_eq_true (by omega)
          have d2 : decide ((ny : Int) ≤ (nx : Int)) = false := decide_eq_false (by omega)
          have r1 := fun w => r1 w (by omega)
          clear r2
          go_wp2
          go_meet
          exact ⟨rfl, rfl⟩
        · have d1 : decide ((nx : Int) ≤ (ny : Int)) = true := decide_eq_true (by omega)
          have d2 : decide ((ny : Int) ≤ (nx : Int)) = true := decide_eq_true (by omega)
          have r1 := fun w => r1 w (by omega)
          have r2 := fun w => r2 w (by omega)
          have m1 : nx ≤ ny := by omega
          have m2 : ny ≤ nx := by omega
          clear hc
          go_wp2
          go_meet
          exact ⟨rfl, rfl⟩
        · have d1 : decide ((nx : Int) ≤ (ny : Int)) = false := decide_eq_false (by omega)
          have d2 : decide ((ny : Int) ≤ (nx : Int)) = true := decide_eq_true (by omega)
          have r2 := fun w => r2 w (by omega)
          clear r1
          go_wp2
          go_meet
          exact ⟨rfl, rfl⟩
    case rest =>
      obtain ⟨rfl, rfl⟩ := hcut
      clear HST HLEX HLEY
      obtain ⟨ao, c, rfl, hc1, hc2⟩ := HLV.out.len
      obtain ⟨am, cm, rfl, hm1, hm2⟩ := HMV.out.len
      simp only [maxLen] at hc2 hm2
      have hll : l.length ≤ 100000000 := by have := length_bulk l; have := HBL.out; omega
      have hml : m.length ≤ 100000000 := by have := length_bulk m; have := HBM.out; omega
      have HMTl : Hid (∀ k, k < l.length → (l.take (k + 1)).map clean = (l.take k).map clean ++ [clean (l.getD k Vl.zero)]) := fun k hk => map_take_succ hk
      have HMTm : Hid (∀ k, k < m.length → (m.take (k + 1)).map clean = (m.take k).map clean ++ [clean (m.getD k Vl.zero)]) := fun k hk => map_take_succ hk
      have HTLl : Hid (l.take l.length = l) := List.take_length
      have HTLm : Hid (m.take m.length = m) := List.take_length
      have HTKl : Hid (∀ k, k ≤ l.length → ((l.take k).map clean).length = k) := fun k hk => by rw [List.length_map, List.length_take]; omega
      have HTKm : Hid (∀ k, k ≤ m.length → ((m.take k).map clean).length = k) := fun k hk => by rw [List.length_map, List.length_take]; omega
      generalize hL : l.length = L at *
      have HLl := hide hL
      generalize hM : m.length = M at *
      have HLm := hide hM
      clear hL hM
      go_wp2
      go_loopw [16, 14] (fun i u wr => ∃ k : Nat, k ≤ L ∧ i = .int .i64 (k : Int) ∧ Vals w wr u ((l.take k).map clean)) (fun i _ _ => L - (intOf i).toNat)
      case atStart => exact ⟨0, by omega, rfl, Vals.nil HB3.out⟩
      case round =>
        obtain ⟨k, hk, rfl, hV⟩ := hrel
        have HV := hide hV
        clear hV HB3
        by_cases hlt : k < L
        · skip
          obtain ⟨g, o, hao, hC⟩ := (HLV.out.belowW HV.out.below).get k (by rw [HLl.out]; exact hlt)
          subst hao
          obtain ⟨k0, k1, k2, k3⟩ := hC
          have HMk := hide (HMTl.out k hlt)
          have HTk := hide (HTKl.out k hk)
          have hgl := World.block_lt_of_cell? wr _ k0
          generalize l.getD k Vl.zero = V0 at *
          have HCL : Hid (Calls Try.prog 18 #[.agg #[.int .i64 V0.ty, .int .i64 V0.n, .string (strOf V0.t), .bool V0.b]] wr fun e w' => e = .returned (.agg #[.int .i64 (clean V0).ty, .int .i64 (clean V0).n, .string (strOf (clean V0).t), .bool (clean V0).b]) ∧ Below wr.heap.size wr w') := clean_any V0 wr
          generalize clean V0 = V at *
          have hbv := buildV V
          have HXV : Hid (∀ W : World, VsAt (W.alloc (.cells #[.int .i64 V.ty, .int .i64 V.n, .string (strOf V.t), .bool V.b] 23)) (.slice (some ⟨W.heap.size, 0, none⟩) 1 1) [V]) := fun W => vsAt1 W V
          go_wp2_with (first
            | (go_at_call 18; refine HCL.out.mono ?_; rintro e W5 ⟨rfl, hB5⟩)
            | (refine wpList_append_vals rfl (.tmp 89) (.tmp 95) rfl w _ _ _ _ rfl rfl ((HV.out.belowW hB5).alloc _) (HXV.out _) (by rw [HTk.out]; simp; omega) ?_; intro u6' W6 hV6 hg6))
          go_roundw
          case rel =>
            refine ⟨k + 1, by omega, by go_num, ?_⟩
            rw [HMk.out]
            exact hV6
          case measure => simp [intOf]; omega
        · have hkL : k = L := by omega
          rw [hkL] at HV ⊢
          rw [HTLl.out] at HV
          clear hkL hlt hk
          generalize wr = W8 at *
          go_wp2
          go_loopw [17, 15] (fun i u wr => ∃ k : Nat, k ≤ M ∧ i = .int .i64 (k : Int) ∧ Vals W8 wr u ((m.take k).map clean)) (fun i _ _ => M - (intOf i).toNat)
          case atStart => exact ⟨0, by omega, rfl, Vals.nil (Below.refl _ _)⟩
          case round =>
            obtain ⟨k, hk, rfl, hV2⟩ := hrel
            have HV2 := hide hV2
            clear hV2
            by_cases hlt : k < M
            · skip
              obtain ⟨g, o, hao, hC⟩ := (HMV.out.belowW (HV.out.below.trans (HV2.out.below.mono HV.out.below.size))).get k (by rw [HLm.out]; exact hlt)
              subst hao
              obtain ⟨k0, k1, k2, k3⟩ := hC
              have HMk := hide (HMTm.out k hlt)
              have HTk := hide (HTKm.out k hk)
              have hgl := World.block_lt_of_cell? wr _ k0
              generalize m.getD k Vl.zero = V0 at *
              have HCL : Hid (Calls Try.prog 18 #[.agg #[.int .i64 V0.ty, .int .i64 V0.n, .string (strOf V0.t), .bool V0.b]] wr fun e w' => e = .returned (.agg #[.int .i64 (clean V0).ty, .int .i64 (clean V0).n, .string (strOf (clean V0).t), .bool (clean V0).b]) ∧ Below wr.heap.size wr w') := clean_any V0 wr
              generalize clean V0 = V at *
              have hbv := buildV V
              have HXV : Hid (∀ W : World, VsAt (W.alloc (.cells #[.int .i64 V.ty, .int .i64 V.n, .string (strOf V.t), .bool V.b] 23)) (.slice (some ⟨W.heap.size, 0, none⟩) 1 1) [V]) := fun W => vsAt1 W V
              go_wp2_with (first
                | (go_at_call 18; refine HCL.out.mono ?_; rintro e W5 ⟨rfl, hB5⟩)
                | (refine wpList_append_vals rfl (.tmp 103) (.tmp 109) rfl W8 _ _ _ _ rfl rfl ((HV2.out.belowW hB5).alloc _) (HXV.out _) (by rw [HTk.out]; simp; omega) ?_; intro u6' W6 hV6 hg6))
              go_roundw
              case rel =>
                refine ⟨k + 1, by omega, by go_num, ?_⟩
                rw [HMk.out]
                exact hV6
              case measure => simp [intOf]; omega
            · have hkM : k = M := by omega
              rw [hkM] at HV2 ⊢
              rw [HTLm.out] at HV2
              clear hkM hlt hk
              generalize wr = W9 at *
              obtain ⟨ax, cx, ex, hx1, hx2⟩ := HV.out.at.len
              obtain ⟨ay, cy, ey, hy1, hy2⟩ := HV2.out.at.len
              have HUL : Hid ((l.map clean).length = L) := by rw [Hid, List.length_map]; exact HLl.out
              have HYL : Hid ((m.map clean).length = M) := by rw [Hid, List.length_map]; exact HLm.out
              rw [HUL.out] at ex hx1
              rw [HYL.out] at ey hy1
              subst ex ey
              simp only [maxLen] at hx2 hy2
              have HU9 := hide (HV.out.at.belowW HV2.out.below)
              have HY9 := hide HV2.out.at
              have HB9 := hide (HV.out.below.trans (HV2.out.below.mono HV.out.below.size))
              have HSTL := hide (standL l m HWL.out HWM.out)
              have HWU : Hid (∀ V ∈ l.map clean, V.wf) := fun V hV => by obtain ⟨Z, hZ, rfl⟩ := List.mem_map.1 hV; exact wf_clean (HWL.out Z hZ)
              have HWY2 : Hid (∀ V ∈ m.map clean, V.wf) := fun V hV => by obtain ⟨Z, hZ, rfl⟩ := List.mem_map.1 hV; exact wf_clean (HWM.out Z hZ)
              have HBU : Hid (bulk (l.map clean) ≤ 400000000) := by have := bulk_clean l; have := HBL.out; rw [Hid]; omega
              have HBY : Hid (bulk (m.map clean) ≤ 400000000) := by have := bulk_clean m; have := HBM.out; rw [Hid]; omega
              have HAW : Hid (∀ W, Calls Try.prog 17 #[] W fun e w' => e = .returned (.bool true) ∧ Below W.heap.size W w') := awake_any
              clear HV HV2 HLV HMV HWL HWM HBL HBM HMTl HMTm HTLl HTLm HTKl HTKm HLl HLm
              generalize l.map clean = U at *
              generalize m.map clean = Y at *
              go_upto_block 4 with fail
              go_cut [18] (fun f wx => ∃ fi : Int, f = .int .i64 fi ∧ Below W9.heap.size W9 wx ∧ (fi ≠ 0 → cmpL U Y = fi) ∧ (fi = 0 → (L = M → cmpL U Y = 0) ∧ (L < M → cmpL U Y = -1) ∧ (M < L → cmpL U Y = 1)))
              case first =>
                go_wp2_with fail
                go_loopw [19, 18] (fun i f wr => ∃ (k : Nat) (fi : Int), k ≤ L ∧ k ≤ M ∧ i = .int .i64 (k : Int) ∧ f = .int .i64 fi ∧ Below W9.heap.size W9 wr ∧ (fi ≠ 0 → cmpL U Y = fi) ∧ (fi = 0 → cmpL U Y = cmpL (U.drop k) (Y.drop k))) (fun i _ _ => L - (intOf i).toNat)
                case atStart => exact ⟨0, 0, by omega, by omega, rfl, rfl, Below.refl _ _, by simp, by simp⟩
                case round =>
                  obtain ⟨k, fi, hk1, hk2, rfl, rfl, hBr, hf1, hf0⟩ := hrel
                  have HBr := hide hBr
                  have HF1 := hide hf1
                  have HF0 := hide hf0
                  clear hBr hf1 hf0
                  by_cases hkL : k < L
                  · by_cases hkM : k < M
                    · by_cases hfi : fi = 0
                      · have d3 : (fi == 0) = true := beq_iff_eq.2 hfi
                        obtain ⟨g1, o1, hao1, hC1⟩ := (HU9.out.belowW HBr.out).get k (by rw [HUL.out]; exact hkL)
                        obtain ⟨g2, o2, hao2, hC2⟩ := (HY9.out.belowW HBr.out).get k (by rw [HYL.out]; exact hkM)
                        have HCD := hide (cmpL_drop (U := U) (Y := Y) (k := k) (by rw [HUL.out]; exact hkL) (by rw [HYL.out]; exact hkM))
                        have HC0 := hide (HF0.out hfi)
                        subst hao1 hao2
                        generalize U.getD k Vl.zero = P at *
                        generalize Y.getD k Vl.zero = R at *
                        have HCC := hide (And.intro hC1 hC2)
                        clear hC1 hC2 hfi
                        go_upto_region 19 with fail
                        refine wp_region_held_drew (S := fun w' => CellsAt w' g1 (o1 + k * 4) P ∧ CellsAt w' g2 (o2 + k * 4) R) (by kernel_rfl) ⟨HCC.out.1.belowW (below_drewN _ _ 1), HCC.out.2.belowW (below_drewN _ _ 1)⟩ (fun hH => ?_)
                        refine take_to 0 127 (.slice (some ⟨g1, o1, none⟩) L cx) rfl (by kernel_rfl) (by kernel_rfl) (by kernel_rfl) (fun _ _ _ h => h) rfl (by rfl) (fun w hw => by rfl) hH ?_
                        simp only [Act.put, List.setIfInBounds_toArray, List.set_cons_zero, List.set_cons_succ]
                        refine take_to 1 128 (.int .i64 (k : Int)) rfl (by kernel_rfl) (by kernel_rfl) (by kernel_rfl) (fun _ _ _ h => h) rfl (by rfl) (fun w hw => by rfl) hH ?_
                        simp only [Act.put, List.setIfInBounds_toArray, List.set_cons_zero, List.set_cons_succ]
                        refine take_to 2 129 (.pointer (some ⟨g1, o1 + k * 4, none⟩)) rfl (by kernel_rfl) (by kernel_rfl) (by kernel_rfl) (fun _ _ _ h => h) rfl (by rfl) (fun w hw => op_index _ _ 24 (.tmp 127) (.tmp 128) rfl _ _ _ rfl rfl (run_index24 w g1 o1 L cx k hkL)) hH ?_
                        simp only [Act.put, List.setIfInBounds_toArray, List.set_cons_zero, List.set_cons_succ]
                        refine take_to 3 130 (.agg #[.int .i64 (P).ty, .int .i64 (P).n, .string (strOf (P).t), .bool (P).b]) rfl (by kernel_rfl) (by kernel_rfl) (by kernel_rfl) (fun _ _ _ h => h) rfl (by rfl) (fun w hw => op_load _ _ 23 (.tmp 129) rfl (.pointer (some ⟨g1, o1 + k * 4, none⟩)) _ rfl (load23c hw.1)) hH ?_
                        simp only [Act.put, List.setIfInBounds_toArray, List.set_cons_zero, List.set_cons_succ]
                        refine take_to 4 131 (.slice (some ⟨g2, o2, none⟩) M cy) rfl (by kernel_rfl) (by kernel_rfl) (by kernel_rfl) (fun _ _ _ h => h) rfl (by rfl) (fun w hw => by rfl) hH ?_
                        simp only [Act.put, List.setIfInBounds_toArray, List.set_cons_zero, List.set_cons_succ]
                        refine take_to 5 132 (.int .i64 (k : Int)) rfl (by kernel_rfl) (by kernel_rfl) (by kernel_rfl) (fun _ _ _ h => h) rfl (by rfl) (fun w hw => by rfl) hH ?_
                        simp only [Act.put, List.setIfInBounds_toArray, List.set_cons_zero, List.set_cons_succ]
                        refine take_to 6 133 (.pointer (some ⟨g2, o2 + k * 4, none⟩)) rfl (by kernel_rfl) (by kernel_rfl) (by kernel_rfl) (fun _ _ _ h => h) rfl (by rfl) (fun w hw => op_index _ _ 24 (.tmp 131) (.tmp 132) rfl _ _ _ rfl rfl (run_index24 w g2 o2 M cy k hkM)) hH ?_
                        simp only [Act.put, List.setIfInBounds_toArray, List.set_cons_zero, List.set_cons_succ]
                        refine take_to 7 134 (.agg #[.int .i64 (R).ty, .int .i64 (R).n, .string (strOf (R).t), .bool (R).b]) rfl (by kernel_rfl) (by kernel_rfl) (by kernel_rfl) (fun _ _ _ h => h) rfl (by rfl) (fun w hw => op_load _ _ 23 (.tmp 133) rfl (.pointer (some ⟨g2, o2 + k * 4, none⟩)) _ rfl (load23c hw.2)) hH ?_
                        simp only [Act.put, List.setIfInBounds_toArray, List.set_cons_zero, List.set_cons_succ]
                        refine step_call2_to 8 135 15 rfl (by kernel_rfl) rfl (by rfl) (.tmp 130) (.tmp 134) _ rfl _ _ rfl rfl Try.enters15 (compare_any P R wr.drew) ?_
                        rintro e U5 ⟨rfl, hB5⟩
                        have s5 : CellsAt U5 g1 (o1 + k * 4) P ∧ CellsAt U5 g2 (o2 + k * 4) R := ⟨hH.1.belowW hB5, hH.2.belowW hB5⟩
                        refine ⟨_, rfl, s5, ?_⟩
                        simp only [Act.put, List.setIfInBounds_toArray, List.set_cons_zero, List.set_cons_succ]
                        refine step_to 9 18 (.int .i64 (cmpV P R)) U5 rfl (by kernel_rfl) rfl (by rfl) (rfl) s5 ?_
                        simp only [Act.put, List.setIfInBounds_toArray, List.set_cons_zero, List.set_cons_succ]
                        refine wpAnyH_done (by kernel_rfl) ?_ _
                        have HB5 : Hid (Below W9.heap.size W9 U5) := (HBr.out.trans (below_drewN _ _ 1)).trans (hB5.mono HBr.out.size)
                        clear hB5 s5 hH
                        go_wp2
                        go_roundw
                        case rel =>
                          refine ⟨k + 1, cmpV P R, by omega, by omega, by go_num, rfl, HB5.out, fun h => ?_, fun h => ?_⟩
                          · rw [HC0.out, HCD.out, if_pos h]
                          · rw [HC0.out, HCD.out, if_neg (by simp [h])]
                        case measure => simp [intOf]; omega
                      · have d3 : (fi == 0) = false := beq_eq_false_iff_ne.2 hfi
                        have hfn := hfi
                        clear hfi
                        go_wp2
                        go_meet
                        exact ⟨fi, rfl, HBr.out, HF1.out, fun h => absurd h hfn⟩
                    · have HEN := hide (cmpL_end (U := U) (Y := Y) (k := k) (by rw [HUL.out]; exact hk1) (by rw [HYL.out]; exact hk2) (by rw [HUL.out, HYL.out]; omega))
                      rw [HUL.out, HYL.out] at HEN
                      go_wp2
                      go_meet
                      exact ⟨fi, rfl, HBr.out, HF1.out, fun h => by rw [HF0.out h]; exact HEN.out⟩
                  · have HEN := hide (cmpL_end (U := U) (Y := Y) (k := k) (by rw [HUL.out]; exact hk1) (by rw [HYL.out]; exact hk2) (by rw [HUL.out, HYL.out]; omega))
                    rw [HUL.out, HYL.out] at HEN
                    go_wp2
                    go_meet
                    exact ⟨fi, rfl, HBr.out, HF1.out, fun h => by rw [HF0.out h]; exact HEN.out⟩
              case rest =>
                obtain ⟨fi, rfl, hBc, hf1, hf0⟩ := hcut
                have HUc := hide (HU9.out.belowW hBc)
                have HYc := hide (HY9.out.belowW hBc)
                have HBc := hide (HB9.out.trans (hBc.mono HB9.out.size))
                have HF1 := hide hf1
                have HF0 := hide hf0
                clear hBc hf1 hf0 HU9 HY9 HB9
                by_cases hfi : fi = 0
                · rcases Nat.lt_trichotomy L M with hlm | hlm | hlm
                  · have hF : cmpL U Y = -1 := (HF0.out hfi).2.1 hlm
                    have x1 : (fi == 0) = true := beq_iff_eq.2 hfi
                    have x2 : ((L : Int) != (M : Int)) = true := by simp; omega
                    have x3 : decide ((L : Int) < (M : Int)) = true := decide_eq_true (by omega)
                    clear hfi
                    have b1 : decide ((-1 : Int) < 0) = true := by first | rfl | exact decide_eq_true (by omega)
                    have b2 : Op.bytesLess (joinL U) (joinL Y) = true := by rw [← HSTL.out.1]; rw [hF]; exact b1
                    have b3 : ((-1 : Int) == 0) = false := by first | rfl | exact beq_eq_false_iff_ne.2 (by omega)
                    have b4 : (joinL U == joinL Y) = false := beq_eq_false_iff_ne.2 (fun e => by have := HSTL.out.2.2 e; omega)
                    have e1 := strOf_toList (joinL U)
                    have e2 := strOf_toList (joinL Y)
                    clear hF
                    go_upto_region 24 with fail
                    refine wp_region_held_drew (S := fun w' => VsAt w' (.slice ax L cx) U ∧ VsAt w' (.slice ay M cy) Y) (by kernel_rfl) ⟨HUc.out.belowW (below_drewN _ _ 1), HYc.out.belowW (below_drewN _ _ 1)⟩ (fun hH => ?_)
                    refine take_to 0 150 (.slice ax L cx) rfl (by kernel_rfl) (by kernel_rfl) (by kernel_rfl) (fun _ _ _ h => h) rfl (by rfl) (fun w hw => by rfl) hH ?_
                    simp only [Act.put, List.setIfInBounds_toArray, List.set_cons_zero, List.set_cons_succ]
                    refine take_to 3 153 (.slice ay M cy) rfl (by kernel_rfl) (by kernel_rfl) (by kernel_rfl) (fun _ _ _ h => h) rfl (by rfl) (fun w hw => by rfl) hH ?_
                    simp only [Act.put, List.setIfInBounds_toArray, List.set_cons_zero, List.set_cons_succ]
                    have HB0 : Below wc.heap.size wc wc.drew := below_drewN _ _ 1
                    generalize wc.drew = U0 at hH HB0 ⊢
                    refine step_call1_to 1 151 12 rfl (by kernel_rfl) rfl (by rfl) (.tmp 150) _ rfl _ rfl Try.enters12 (join_any hH.1 HWU.out HBU.out) ?_
                    rintro e U1 ⟨v1, rfl, hB1⟩
                    have s1 : VsAt U1 (.slice ax L cx) U ∧ VsAt U1 (.slice ay M cy) Y := ⟨hH.1.belowW hB1.below, hH.2.belowW hB1.below⟩
                    have HB1 := HB0.trans (hB1.below.mono HB0.size)
                    obtain ⟨a1, c1, e3, _, _⟩ := hB1.sl.len
                    subst e3
                    refine ⟨_, rfl, s1, ?_⟩
                    simp only [Act.put, List.setIfInBounds_toArray, List.set_cons_zero, List.set_cons_succ]
                    refine wpAnyH_strong (S' := fun w' => (VsAt w' (.slice ax L cx) U ∧ VsAt w' (.slice ay M cy) Y) ∧ Sl w' (.slice a1 (joinL U).length c1) (joinL U)) (fun _ h => h.1) _ _ _ _ ?_
                    have s1' := And.intro s1 hB1.sl
                    refine take_to 2 152 (.string (strOf (joinL U))) rfl (by kernel_rfl) (by kernel_rfl) (by kernel_rfl) (fun _ _ _ h => h) rfl (by rfl) (fun w hw => op_conv _ _ 25 9 (.tmp 151) rfl _ _ rfl (run_str hw.2)) s1' ?_
                    simp only [Act.put, List.setIfInBounds_toArray, List.set_cons_zero, List.set_cons_succ]
                    refine step_call1_to 4 154 12 rfl (by kernel_rfl) rfl (by rfl) (.tmp 153) _ rfl _ rfl Try.enters12 (join_any s1.2 HWY2.out HBY.out) ?_
                    rintro e U2 ⟨v2, rfl, hB2⟩
                    have s2 : (VsAt U2 (.slice ax L cx) U ∧ VsAt U2 (.slice ay M cy) Y) ∧ Sl U2 (.slice a1 (joinL U).length c1) (joinL U) := ⟨⟨s1.1.belowW hB2.below, s1.2.belowW hB2.below⟩, hB1.sl.belowW hB2.below⟩
                    have HB2 := HB1.trans (hB2.below.mono HB1.size)
                    obtain ⟨a2, c2, e4, _, _⟩ := hB2.sl.len
                    subst e4
                    refine ⟨_, rfl, s2, ?_⟩
                    simp only [Act.put, List.setIfInBounds_toArray, List.set_cons_zero, List.set_cons_succ]
                    refine wpAnyH_strong (S' := fun w' => ((VsAt w' (.slice ax L cx) U ∧ VsAt w' (.slice ay M cy) Y) ∧ Sl w' (.slice a1 (joinL U).length c1) (joinL U)) ∧ Sl w' (.slice a2 (joinL Y).length c2) (joinL Y)) (fun _ h => h.1) _ _ _ _ ?_
                    have s2' := And.intro s2 hB2.sl
                    refine take_to 5 155 (.string (strOf (joinL Y))) rfl (by kernel_rfl) (by kernel_rfl) (by kernel_rfl) (fun _ _ _ h => h) rfl (by rfl) (fun w hw => op_conv _ _ 25 9 (.tmp 154) rfl _ _ rfl (run_str hw.2)) s2' ?_
                    simp only [Act.put, List.setIfInBounds_toArray, List.set_cons_zero, List.set_cons_succ]
                    refine step_to 6 20 (.string (strOf (joinL U))) U2 rfl (by kernel_rfl) rfl (by rfl) (rfl) s2' ?_
                    simp only [Act.put, List.setIfInBounds_toArray, List.set_cons_zero, List.set_cons_succ]
                    refine step_to 7 21 (.string (strOf (joinL Y))) U2 rfl (by kernel_rfl) rfl (by rfl) (rfl) s2' ?_
                    simp only [Act.put, List.setIfInBounds_toArray, List.set_cons_zero, List.set_cons_succ]
                    refine wpAnyH_done (by kernel_rfl) ?_ _
                    have HBB := hide (HBc.out.trans (HB2.mono HBc.out.size))
                    clear s1 s1' s2 s2' hB1 hB2 hH HB0 HB1 HB2
                    generalize strOf (joinL U) = sx at *
                    generalize strOf (joinL Y) = sy at *
                    generalize joinL U = ju at *
                    generalize joinL Y = jy at *
                    go_wp2_with (go_at_call 17; refine (HAW.out _).mono ?_; rintro e W4 ⟨rfl, hB4⟩)
                    go_ret
                    exact ⟨rfl, HBB.out.trans (hB4.mono HBB.out.size)⟩
                  · have hF : cmpL U Y = 0 := (HF0.out hfi).1 hlm
                    have x2 : ((L : Int) != (M : Int)) = false := by simp; omega
                    clear HF1 HF0
                    subst hfi
                    clear hlm
                    have b1 : decide ((0 : Int) < 0) = false := by first | rfl | exact decide_eq_false (by omega)
                    have b2 : Op.bytesLess (joinL U) (joinL Y) = false := by rw [← HSTL.out.1]; rw [hF]; exact b1
                    have b3 : ((0 : Int) == 0) = true := by first | rfl | exact beq_eq_false_iff_ne.2 (by omega)
                    have b4 : (joinL U == joinL Y) = true := beq_iff_eq.2 (HSTL.out.2.1 hF)
                    have e1 := strOf_toList (joinL U)
                    have e2 := strOf_toList (joinL Y)
                    clear hF
                    go_upto_region 24 with fail
                    refine wp_region_held_drew (S := fun w' => VsAt w' (.slice ax L cx) U ∧ VsAt w' (.slice ay M cy) Y) (by kernel_rfl) ⟨HUc.out.belowW (below_drewN _ _ 1), HYc.out.belowW (below_drewN _ _ 1)⟩ (fun hH => ?_)
                    refine take_to 0 150 (.slice ax L cx) rfl (by kernel_rfl) (by kernel_rfl) (by kernel_rfl) (fun _ _ _ h => h) rfl (by rfl) (fun w hw => by rfl) hH ?_
                    simp only [Act.put, List.setIfInBounds_toArray, List.set_cons_zero, List.set_cons_succ]
                    refine take_to 3 153 (.slice ay M cy) rfl (by kernel_rfl) (by kernel_rfl) (by kernel_rfl) (fun _ _ _ h => h) rfl (by rfl) (fun w hw => by rfl) hH ?_
                    simp only [Act.put, List.setIfInBounds_toArray, List.set_cons_zero, List.set_cons_succ]
                    have HB0 : Below wc.heap.size wc wc.drew := below_drewN _ _ 1
                    generalize wc.drew = U0 at hH HB0 ⊢
                    refine step_call1_to 1 151 12 rfl (by kernel_rfl) rfl (by rfl) (.tmp 150) _ rfl _ rfl Try.enters12 (join_any hH.1 HWU.out HBU.out) ?_
                    rintro e U1 ⟨v1, rfl, hB1⟩
                    have s1 : VsAt U1 (.slice ax L cx) U ∧ VsAt U1 (.slice ay M cy) Y := ⟨hH.1.belowW hB1.below, hH.2.belowW hB1.below⟩
                    have HB1 := HB0.trans (hB1.below.mono HB0.size)
                    obtain ⟨a1, c1, e3, _, _⟩ := hB1.sl.len
                    subst e3
                    refine ⟨_, rfl, s1, ?_⟩
                    simp only [Act.put, List.setIfInBounds_toArray, List.set_cons_zero, List.set_cons_succ]
                    refine wpAnyH_strong (S' := fun w' => (VsAt w' (.slice ax L cx) U ∧ VsAt w' (.slice ay M cy) Y) ∧ Sl w' (.slice a1 (joinL U).length c1) (joinL U)) (fun _ h => h.1) _ _ _ _ ?_
                    have s1' := And.intro s1 hB1.sl
                    refine take_to 2 152 (.string (strOf (joinL U))) rfl (by kernel_rfl) (by kernel_rfl) (by kernel_rfl) (fun _ _ _ h => h) rfl (by rfl) (fun w hw => op_conv _ _ 25 9 (.tmp 151) rfl _ _ rfl (run_str hw.2)) s1' ?_
                    simp only [Act.put, List.setIfInBounds_toArray, List.set_cons_zero, List.set_cons_succ]
                    refine step_call1_to 4 154 12 rfl (by kernel_rfl) rfl (by rfl) (.tmp 153) _ rfl _ rfl Try.enters12 (join_any s1.2 HWY2.out HBY.out) ?_
                    rintro e U2 ⟨v2, rfl, hB2⟩
                    have s2 : (VsAt U2 (.slice ax L cx) U ∧ VsAt U2 (.slice ay M cy) Y) ∧ Sl U2 (.slice a1 (joinL U).length c1) (joinL U) := ⟨⟨s1.1.belowW hB2.below, s1.2.belowW hB2.below⟩, hB1.sl.belowW hB2.below⟩
                    have HB2 := HB1.trans (hB2.below.mono HB1.size)
                    obtain ⟨a2, c2, e4, _, _⟩ := hB2.sl.len
                    subst e4
                    refine ⟨_, rfl, s2, ?_⟩
                    simp only [Act.put, List.setIfInBounds_toArray, List.set_cons_zero, List.set_cons_succ]
                    refine wpAnyH_strong (S' := fun w' => ((VsAt w' (.slice ax L cx) U ∧ VsAt w' (.slice ay M cy) Y) ∧ Sl w' (.slice a1 (joinL U).length c1) (joinL U)) ∧ Sl w' (.slice a2 (joinL Y).length c2) (joinL Y)) (fun _ h => h.1) _ _ _ _ ?_
                    have s2' := And.intro s2 hB2.sl
                    refine take_to 5 155 (.string (strOf (joinL Y))) rfl (by kernel_rfl) (by kernel_rfl) (by kernel_rfl) (fun _ _ _ h => h) rfl (by rfl) (fun w hw => op_conv _ _ 25 9 (.tmp 154) rfl _ _ rfl (run_str hw.2)) s2' ?_
                    simp only [Act.put, List.setIfInBounds_toArray, List.set_cons_zero, List.set_cons_succ]
                    refine step_to 6 20 (.string (strOf (joinL U))) U2 rfl (by kernel_rfl) rfl (by rfl) (rfl) s2' ?_
                    simp only [Act.put, List.setIfInBounds_toArray, List.set_cons_zero, List.set_cons_succ]
                    refine step_to 7 21 (.string (strOf (joinL Y))) U2 rfl (by kernel_rfl) rfl (by rfl) (rfl) s2' ?_
                    simp only [Act.put, List.setIfInBounds_toArray, List.set_cons_zero, List.set_cons_succ]
                    refine wpAnyH_done (by kernel_rfl) ?_ _
                    have HBB := hide (HBc.out.trans (HB2.mono HBc.out.size))
                    clear s1 s1' s2 s2' hB1 hB2 hH HB0 HB1 HB2
                    generalize strOf (joinL U) = sx at *
                    generalize strOf (joinL Y) = sy at *
                    generalize joinL U = ju at *
                    generalize joinL Y = jy at *
                    go_wp2_with (go_at_call 17; refine (HAW.out _).mono ?_; rintro e W4 ⟨rfl, hB4⟩)
                    go_ret
                    exact ⟨rfl, HBB.out.trans (hB4.mono HBB.out.size)⟩
                  · have hF : cmpL U Y = 1 := (HF0.out hfi).2.2 hlm
                    have x1 : (fi == 0) = true := beq_iff_eq.2 hfi
                    have x2 : ((L : Int) != (M : Int)) = true := by simp; omega
                    have x3 : decide ((L : Int) < (M : Int)) = false := decide_eq_false (by omega)
                    clear hfi
                    have b1 : decide ((1 : Int) < 0) = false := by first | rfl | exact decide_eq_false (by omega)
                    have b2 : Op.bytesLess (joinL U) (joinL Y) = false := by rw [← HSTL.out.1]; rw [hF]; exact b1
                    have b3 : ((1 : Int) == 0) = false := by first | rfl | exact beq_eq_false_iff_ne.2 (by omega)
                    have b4 : (joinL U == joinL Y) = false := beq_eq_false_iff_ne.2 (fun e => by have := HSTL.out.2.2 e; omega)
                    have e1 := strOf_toList (joinL U)
                    have e2 := strOf_toList (joinL Y)
                    clear hF
                    go_upto_region 24 with fail
                    refine wp_region_held_drew (S := fun w' => VsAt w' (.slice ax L cx) U ∧ VsAt w' (.slice ay M cy) Y) (by kernel_rfl) ⟨HUc.out.belowW (below_drewN _ _ 1), HYc.out.belowW (below_drewN _ _ 1)⟩ (fun hH => ?_)
                    refine take_to 0 150 (.slice ax L cx) rfl (by kernel_rfl) (by kernel_rfl) (by kernel_rfl) (fun _ _ _ h => h) rfl (by rfl) (fun w hw => by rfl) hH ?_
                    simp only [Act.put, List.setIfInBounds_toArray, List.set_cons_zero, List.set_cons_succ]
                    refine take_to 3 153 (.slice ay M cy) rfl (by kernel_rfl) (by kernel_rfl) (by kernel_rfl) (fun _ _ _ h => h) rfl (by rfl) (fun w hw => by rfl) hH ?_
                    simp only [Act.put, List.setIfInBounds_toArray, List.set_cons_zero, List.set_cons_succ]
                    have HB0 : Below wc.heap.size wc wc.drew := below_drewN _ _ 1
                    generalize wc.drew = U0 at hH HB0 ⊢
                    refine step_call1_to 1 151 12 rfl (by kernel_rfl) rfl (by rfl) (.tmp 150) _ rfl _ rfl Try.enters12 (join_any hH.1 HWU.out HBU.out) ?_
                    rintro e U1 ⟨v1, rfl, hB1⟩
                    have s1 : VsAt U1 (.slice ax L cx) U ∧ VsAt U1 (.slice ay M cy) Y := ⟨hH.1.belowW hB1.below, hH.2.belowW hB1.below⟩
                    have HB1 := HB0.trans (hB1.below.mono HB0.size)
                    obtain ⟨a1, c1, e3, _, _⟩ := hB1.sl.len
                    subst e3
                    refine ⟨_, rfl, s1, ?_⟩
                    simp only [Act.put, List.setIfInBounds_toArray, List.set_cons_zero, List.set_cons_succ]
                    refine wpAnyH_strong (S' := fun w' => (VsAt w' (.slice ax L cx) U ∧ VsAt w' (.slice ay M cy) Y) ∧ Sl w' (.slice a1 (joinL U).length c1) (joinL U)) (fun _ h => h.1) _ _ _ _ ?_
                    have s1' := And.intro s1 hB1.sl
                    refine take_to 2 152 (.string (strOf (joinL U))) rfl (by kernel_rfl) (by kernel_rfl) (by kernel_rfl) (fun _ _ _ h => h) rfl (by rfl) (fun w hw => op_conv _ _ 25 9 (.tmp 151) rfl _ _ rfl (run_str hw.2)) s1' ?_
                    simp only [Act.put, List.setIfInBounds_toArray, List.set_cons_zero, List.set_cons_succ]
                    refine step_call1_to 4 154 12 rfl (by kernel_rfl) rfl (by rfl) (.tmp 153) _ rfl _ rfl Try.enters12 (join_any s1.2 HWY2.out HBY.out) ?_
                    rintro e U2 ⟨v2, rfl, hB2⟩
                    have s2 : (VsAt U2 (.slice ax L cx) U ∧ VsAt U2 (.slice ay M cy) Y) ∧ Sl U2 (.slice a1 (joinL U).length c1) (joinL U) := ⟨⟨s1.1.belowW hB2.below, s1.2.belowW hB2.below⟩, hB1.sl.belowW hB2.below⟩
                    have HB2 := HB1.trans (hB2.below.mono HB1.size)
                    obtain ⟨a2, c2, e4, _, _⟩ := hB2.sl.len
                    subst e4
                    refine ⟨_, rfl, s2, ?_⟩
                    simp only [Act.put, List.setIfInBounds_toArray, List.set_cons_zero, List.set_cons_succ]
                    refine wpAnyH_strong (S' := fun w' => ((VsAt w' (.slice ax L cx) U ∧ VsAt w' (.slice ay M cy) Y) ∧ Sl w' (.slice a1 (joinL U).length c1) (joinL U)) ∧ Sl w' (.slice a2 (joinL Y).length c2) (joinL Y)) (fun _ h => h.1) _ _ _ _ ?_
                    have s2' := And.intro s2 hB2.sl
                    refine take_to 5 155 (.string (strOf (joinL Y))) rfl (by kernel_rfl) (by kernel_rfl) (by kernel_rfl) (fun _ _ _ h => h) rfl (by rfl) (fun w hw => op_conv _ _ 25 9 (.tmp 154) rfl _ _ rfl (run_str hw.2)) s2' ?_
                    simp only [Act.put, List.setIfInBounds_toArray, List.set_cons_zero, List.set_cons_succ]
                    refine step_to 6 20 (.string (strOf (joinL U))) U2 rfl (by kernel_rfl) rfl (by rfl) (rfl) s2' ?_
                    simp only [Act.put, List.setIfInBounds_toArray, List.set_cons_zero, List.set_cons_succ]
                    refine step_to 7 21 (.string (strOf (joinL Y))) U2 rfl (by kernel_rfl) rfl (by rfl) (rfl) s2' ?_
                    simp only [Act.put, List.setIfInBounds_toArray, List.set_cons_zero, List.set_cons_succ]
                    refine wpAnyH_done (by kernel_rfl) ?_ _
                    have HBB := hide (HBc.out.trans (HB2.mono HBc.out.size))
                    clear s1 s1' s2 s2' hB1 hB2 hH HB0 HB1 HB2
                    generalize strOf (joinL U) = sx at *
                    generalize strOf (joinL Y) = sy at *
                    generalize joinL U = ju at *
                    generalize joinL Y = jy at *
                    go_wp2_with (go_at_call 17; refine (HAW.out _).mono ?_; rintro e W4 ⟨rfl, hB4⟩)
                    go_ret
                    exact ⟨rfl, HBB.out.trans (hB4.mono HBB.out.size)⟩
                · have hF : cmpL U Y = fi := HF1.out hfi
                  have x1 : (fi == 0) = false := beq_eq_false_iff_ne.2 hfi
                  by_cases hneg : fi < 0
                  · skip
                    have b1 : decide ((fi : Int) < 0) = true := by first | rfl | exact decide_eq_true (by omega)
                    have b2 : Op.bytesLess (joinL U) (joinL Y) = true := by rw [← HSTL.out.1]; rw [hF]; exact b1
                    have b3 : ((fi : Int) == 0) = false := by first | rfl | exact beq_eq_false_iff_ne.2 (by omega)
                    have b4 : (joinL U == joinL Y) = false := beq_eq_false_iff_ne.2 (fun e => by have := HSTL.out.2.2 e; omega)
                    have e1 := strOf_toList (joinL U)
                    have e2 := strOf_toList (joinL Y)
                    clear hF
                    go_upto_region 24 with fail
                    refine wp_region_held_drew (S := fun w' => VsAt w' (.slice ax L cx) U ∧ VsAt w' (.slice ay M cy) Y) (by kernel_rfl) ⟨HUc.out.belowW (below_drewN _ _ 1), HYc.out.belowW (below_drewN _ _ 1)⟩ (fun hH => ?_)
                    refine take_to 0 150 (.slice ax L cx) rfl (by kernel_rfl) (by kernel_rfl) (by kernel_rfl) (fun _ _ _ h => h) rfl (by rfl) (fun w hw => by rfl) hH ?_
                    simp only [Act.put, List.setIfInBounds_toArray, List.set_cons_zero, List.set_cons_succ]
                    refine take_to 3 153 (.slice ay M cy) rfl (by kernel_rfl) (by kernel_rfl) (by kernel_rfl) (fun _ _ _ h => h) rfl (by rfl) (fun w hw => by rfl) hH ?_
                    simp only [Act.put, List.setIfInBounds_toArray, List.set_cons_zero, List.set_cons_succ]
                    have HB0 : Below wc.heap.size wc wc.drew := below_drewN _ _ 1
                    generalize wc.drew = U0 at hH HB0 ⊢
                    refine step_call1_to 1 151 12 rfl (by kernel_rfl) rfl (by rfl) (.tmp 150) _ rfl _ rfl Try.enters12 (join_any hH.1 HWU.out HBU.out) ?_
                    rintro e U1 ⟨v1, rfl, hB1⟩
                    have s1 : VsAt U1 (.slice ax L cx) U ∧ VsAt U1 (.slice ay M cy) Y := ⟨hH.1.belowW hB1.below, hH.2.belowW hB1.below⟩
                    have HB1 := HB0.trans (hB1.below.mono HB0.size)
                    obtain ⟨a1, c1, e3, _, _⟩ := hB1.sl.len
                    subst e3
                    refine ⟨_, rfl, s1, ?_⟩
                    simp only [Act.put, List.setIfInBounds_toArray, List.set_cons_zero, List.set_cons_succ]
                    refine wpAnyH_strong (S' := fun w' => (VsAt w' (.slice ax L cx) U ∧ VsAt w' (.slice ay M cy) Y) ∧ Sl w' (.slice a1 (joinL U).length c1) (joinL U)) (fun _ h => h.1) _ _ _ _ ?_
                    have s1' := And.intro s1 hB1.sl
                    refine take_to 2 152 (.string (strOf (joinL U))) rfl (by kernel_rfl) (by kernel_rfl) (by kernel_rfl) (fun _ _ _ h => h) rfl (by rfl) (fun w hw => op_conv _ _ 25 9 (.tmp 151) rfl _ _ rfl (run_str hw.2)) s1' ?_
                    simp only [Act.put, List.setIfInBounds_toArray, List.set_cons_zero, List.set_cons_succ]
                    refine step_call1_to 4 154 12 rfl (by kernel_rfl) rfl (by rfl) (.tmp 153) _ rfl _ rfl Try.enters12 (join_any s1.2 HWY2.out HBY.out) ?_
                    rintro e U2 ⟨v2, rfl, hB2⟩
                    have s2 : (VsAt U2 (.slice ax L cx) U ∧ VsAt U2 (.slice ay M cy) Y) ∧ Sl U2 (.slice a1 (joinL U).length c1) (joinL U) := ⟨⟨s1.1.belowW hB2.below, s1.2.belowW hB2.below⟩, hB1.sl.belowW hB2.below⟩
                    have HB2 := HB1.trans (hB2.below.mono HB1.size)
                    obtain ⟨a2, c2, e4, _, _⟩ := hB2.sl.len
                    subst e4
                    refine ⟨_, rfl, s2, ?_⟩
                    simp only [Act.put, List.setIfInBounds_toArray, List.set_cons_zero, List.set_cons_succ]
                    refine wpAnyH_strong (S' := fun w' => ((VsAt w' (.slice ax L cx) U ∧ VsAt w' (.slice ay M cy) Y) ∧ Sl w' (.slice a1 (joinL U).length c1) (joinL U)) ∧ Sl w' (.slice a2 (joinL Y).length c2) (joinL Y)) (fun _ h => h.1) _ _ _ _ ?_
                    have s2' := And.intro s2 hB2.sl
                    refine take_to 5 155 (.string (strOf (joinL Y))) rfl (by kernel_rfl) (by kernel_rfl) (by kernel_rfl) (fun _ _ _ h => h) rfl (by rfl) (fun w hw => op_conv _ _ 25 9 (.tmp 154) rfl _ _ rfl (run_str hw.2)) s2' ?_
                    simp only [Act.put, List.setIfInBounds_toArray, List.set_cons_zero, List.set_cons_succ]
                    refine step_to 6 20 (.string (strOf (joinL U))) U2 rfl (by kernel_rfl) rfl (by rfl) (rfl) s2' ?_
                    simp only [Act.put, List.setIfInBounds_toArray, List.set_cons_zero, List.set_cons_succ]
                    refine step_to 7 21 (.string (strOf (joinL Y))) U2 rfl (by kernel_rfl) rfl (by rfl) (rfl) s2' ?_
                    simp only [Act.put, List.setIfInBounds_toArray, List.set_cons_zero, List.set_cons_succ]
                    refine wpAnyH_done (by kernel_rfl) ?_ _
                    have HBB := hide (HBc.out.trans (HB2.mono HBc.out.size))
                    clear s1 s1' s2 s2' hB1 hB2 hH HB0 HB1 HB2
                    generalize strOf (joinL U) = sx at *
                    generalize strOf (joinL Y) = sy at *
                    generalize joinL U = ju at *
                    generalize joinL Y = jy at *
                    go_wp2_with (go_at_call 17; refine (HAW.out _).mono ?_; rintro e W4 ⟨rfl, hB4⟩)
                    go_ret
                    exact ⟨rfl, HBB.out.trans (hB4.mono HBB.out.size)⟩
                  · skip
                    have b1 : decide ((fi : Int) < 0) = false := by first | rfl | exact decide_eq_false (by omega)
                    have b2 : Op.bytesLess (joinL U) (joinL Y) = false := by rw [← HSTL.out.1]; rw [hF]; exact b1
                    have b3 : ((fi : Int) == 0) = false := by first | rfl | exact beq_eq_false_iff_ne.2 (by omega)
                    have b4 : (joinL U == joinL Y) = false := beq_eq_false_iff_ne.2 (fun e => by have := HSTL.out.2.2 e; omega)
                    have e1 := strOf_toList (joinL U)
                    have e2 := strOf_toList (joinL Y)
                    clear hF
                    go_upto_region 24 with fail
                    refine wp_region_held_drew (S := fun w' => VsAt w' (.slice ax L cx) U ∧ VsAt w' (.slice ay M cy) Y) (by kernel_rfl) ⟨HUc.out.belowW (below_drewN _ _ 1), HYc.out.belowW (below_drewN _ _ 1)⟩ (fun hH => ?_)
                    refine take_to 0 150 (.slice ax L cx) rfl (by kernel_rfl) (by kernel_rfl) (by kernel_rfl) (fun _ _ _ h => h) rfl (by rfl) (fun w hw => by rfl) hH ?_
                    simp only [Act.put, List.setIfInBounds_toArray, List.set_cons_zero, List.set_cons_succ]
                    refine take_to 3 153 (.slice ay M cy) rfl (by kernel_rfl) (by kernel_rfl) (by kernel_rfl) (fun _ _ _ h => h) rfl (by rfl) (fun w hw => by rfl) hH ?_
                    simp only [Act.put, List.setIfInBounds_toArray, List.set_cons_zero, List.set_cons_succ]
                    have HB0 : Below wc.heap.size wc wc.drew := below_drewN _ _ 1
                    generalize wc.drew = U0 at hH HB0 ⊢
                    refine step_call1_to 1 151 12 rfl (by kernel_rfl) rfl (by rfl) (.tmp 150) _ rfl _ rfl Try.enters12 (join_any hH.1 HWU.out HBU.out) ?_
                    rintro e U1 ⟨v1, rfl, hB1⟩
                    have s1 : VsAt U1 (.slice ax L cx) U ∧ VsAt U1 (.slice ay M cy) Y := ⟨hH.1.belowW hB1.below, hH.2.belowW hB1.below⟩
                    have HB1 := HB0.trans (hB1.below.mono HB0.size)
                    obtain ⟨a1, c1, e3, _, _⟩ := hB1.sl.len
                    subst e3
                    refine ⟨_, rfl, s1, ?_⟩
                    simp only [Act.put, List.setIfInBounds_toArray, List.set_cons_zero, List.set_cons_succ]
                    refine wpAnyH_strong (S' := fun w' => (VsAt w' (.slice ax L cx) U ∧ VsAt w' (.slice ay M cy) Y) ∧ Sl w' (.slice a1 (joinL U).length c1) (joinL U)) (fun _ h => h.1) _ _ _ _ ?_
                    have s1' := And.intro s1 hB1.sl
                    refine take_to 2 152 (.string (strOf (joinL U))) rfl (by kernel_rfl) (by kernel_rfl) (by kernel_rfl) (fun _ _ _ h => h) rfl (by rfl) (fun w hw => op_conv _ _ 25 9 (.tmp 151) rfl _ _ rfl (run_str hw.2)) s1' ?_
                    simp only [Act.put, List.setIfInBounds_toArray, List.set_cons_zero, List.set_cons_succ]
                    refine step_call1_to 4 154 12 rfl (by kernel_rfl) rfl (by rfl) (.tmp 153) _ rfl _ rfl Try.enters12 (join_any s1.2 HWY2.out HBY.out) ?_
                    rintro e U2 ⟨v2, rfl, hB2⟩
                    have s2 : (VsAt U2 (.slice ax L cx) U ∧ VsAt U2 (.slice ay M cy) Y) ∧ Sl U2 (.slice a1 (joinL U).length c1) (joinL U) := ⟨⟨s1.1.belowW hB2.below, s1.2.belowW hB2.below⟩, hB1.sl.belowW hB2.below⟩
                    have HB2 := HB1.trans (hB2.below.mono HB1.size)
                    obtain ⟨a2, c2, e4, _, _⟩ := hB2.sl.len
                    subst e4
                    refine ⟨_, rfl, s2, ?_⟩
                    simp only [Act.put, List.setIfInBounds_toArray, List.set_cons_zero, List.set_cons_succ]
                    refine wpAnyH_strong (S' := fun w' => ((VsAt w' (.slice ax L cx) U ∧ VsAt w' (.slice ay M cy) Y) ∧ Sl w' (.slice a1 (joinL U).length c1) (joinL U)) ∧ Sl w' (.slice a2 (joinL Y).length c2) (joinL Y)) (fun _ h => h.1) _ _ _ _ ?_
                    have s2' := And.intro s2 hB2.sl
                    refine take_to 5 155 (.string (strOf (joinL Y))) rfl (by kernel_rfl) (by kernel_rfl) (by kernel_rfl) (fun _ _ _ h => h) rfl (by rfl) (fun w hw => op_conv _ _ 25 9 (.tmp 154) rfl _ _ rfl (run_str hw.2)) s2' ?_
                    simp only [Act.put, List.setIfInBounds_toArray, List.set_cons_zero, List.set_cons_succ]
                    refine step_to 6 20 (.string (strOf (joinL U))) U2 rfl (by kernel_rfl) rfl (by rfl) (rfl) s2' ?_
                    simp only [Act.put, List.setIfInBounds_toArray, List.set_cons_zero, List.set_cons_succ]
                    refine step_to 7 21 (.string (strOf (joinL Y))) U2 rfl (by kernel_rfl) rfl (by rfl) (rfl) s2' ?_
                    simp only [Act.put, List.setIfInBounds_toArray, List.set_cons_zero, List.set_cons_succ]
                    refine wpAnyH_done (by kernel_rfl) ?_ _
                    have HBB := hide (HBc.out.trans (HB2.mono HBc.out.size))
                    clear s1 s1' s2 s2' hB1 hB2 hH HB0 HB1 HB2
                    generalize strOf (joinL U) = sx at *
                    generalize strOf (joinL Y) = sy at *
                    generalize joinL U = ju at *
                    generalize joinL Y = jy at *
                    go_wp2_with (go_at_call 17; refine (HAW.out _).mono ?_; rintro e W4 ⟨rfl, hB4⟩)
                    go_ret
                    exact ⟨rfl, HBB.out.trans (hB4.mono HBB.out.size)⟩
end Go.Proofs.Ytojhaikafbnonaa
