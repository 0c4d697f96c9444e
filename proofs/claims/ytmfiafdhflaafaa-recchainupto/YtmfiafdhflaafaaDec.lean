/- Decode. -/
import Derived.Test.YtmfiafdhflaafaaAt
namespace Go.Proofs.Ytmfiafdhflaafaa
open Go.RowKit
set_option linter.unusedVariables false
set_option linter.unusedSimpArgs false

/-- A call of a Go function of one argument that comes up alone, by its contract. -/
theorem step_call1_to {P : Program} {ops : Array Oper} {Q : Exit → Act → World → Prop} {md : Region.Mode} {S : World → Prop} {o : Oper} {fuel : Nat} {listed : Array Bool} {a : Act} {w : World} {R : Ending → World → Prop} (j dst f : Nat) (hj : ops[j]? = some o)
    (hr : Region.ready md ops listed = [j]) (hd : o.dst = some dst) (hw : Region.wanted o (yielded ops a.tmps) = true) (x : Operand) (ts : Array TypeId) (hop : o.op = Op.call { callee := Callee.value (Operand.func f), args := #[x], argTypes := ts })
    (vx : Value) (hx : a.eval x = vx) (hcf : ∀ args w, (callFunc f args).run P w = .ok (.enter f args) w) (hc : Calls P f #[vx] w R)
    (hK : ∀ e w', R e w' → ∃ v, e = .returned v ∧ S w' ∧ wpAnyH P md ops Q S fuel (listed.setIfInBounds j true) (a.put (some dst) v) w') : wpAnyH P md ops Q S (fuel + 1) listed a w := by
  refine step_by j hj hr (fun K hK' => ?_)
  rw [if_pos hw]
  have hrun : (execOp a.eval o).run P w = .ok (.enter f #[vx]) w := by
    have hff : a.eval (.func f) = .func (.func f) #[] #[] := rfl
    unfold execOp
    simp [hop, resolve, hff, Deferred.ofValue, invoke, hx]
    exact hcf _ _
  unfold Oper.wp
  rw [hrun, Oper.upon_enter]
  refine hc.mono ?_
  intro e w' hR
  obtain ⟨v, rfl, hS, hW⟩ := hK e w' hR
  show K (a.put o.dst v) w'
  rw [hd]
  exact hK' _ _ hS hW
theorem Try.enters15 (args : Array Value) (w : World) : (callFunc 15 args).run Try.prog w = .ok (.enter 15 args) w := by kernel_rfl
theorem At.val {w a : World} {r : List UInt8} {R : Rc} {vb va vt vd : Value} (h : At w a r R vb va vt vd) : RecOwn w.heap.size a (.agg (recCells R vb va vt vd)) R := ⟨vb, va, vt, vd, rfl, h.ob, h.oa, h.ot, h.od⟩
theorem At.bad {w a : World} {r : List UInt8} {R : Rc} {vb va vt vd : Value} (h : At w a r R vb va vt vd) : Bad w a := ⟨h.below, _, h.cell, rfl⟩
theorem run_load28 (w : World) (q : Nat) (C : Array Value) (hC : C.size = 11) (h : w.heap[q]? = some (.cells C 28 (0, 0))) : (Instr.loadAt 28 (.pointer (some ⟨q, 0, none⟩))).run Try.prog w = .ok (.agg C) w := by
  have := run_loadAt_mid (P := Try.prog) w q 0 28 C.toList _ (fun j v hv => by rw [Nat.zero_add, cell_row h]; simpa using hv) Try.underlying28 rfl (by rw [Array.length_toList]; exact Try.size28 hC)
  simpa using this
theorem run_store28 (w : World) (q : Nat) (old C : Array Value) (hC : C.size = 11) (hO : old.size = 11) (h1 : C.all (·.oneCell') = true) (h : w.heap[q]? = some (.cells old 28 (0, 0))) : (Instr.storeAt 28 (.pointer (some ⟨q, 0, none⟩)) (.agg C)).run Try.prog w = .ok () (w.setRow q C) := by
  have := run_storeVar_row (P := Try.prog) w q 28 28 old C h (Try.size28 hC) (by omega) h1
  simp [Instr.storeAt, Instr.sureAddr, this]
theorem one_own {w : World} {base : Nat} {e : TypeId} {size n : Nat} {v : Value} {xs : List Value} (h : w.ownsRow base e size v n xs) : v.oneCell' = true := by
  obtain ⟨ao, c, rfl⟩ := owns_len h; rfl
theorem At.one {w a : World} {r : List UInt8} {R : Rc} {vb va vt vd : Value} (h : At w a r R vb va vt vd) : (recCells R vb va vt vd).all (·.oneCell') = true := by
  have h1 := one_own h.ob
  have h2 := one_own h.oa
  have h3 := one_own h.ot
  have h4 := one_own h.od
  simp [recCells, h1, h2, h3, h4]
  simp [Value.oneCell']

set_option maxHeartbeats 4000000 in
set_option maxRecDepth 100000 in
theorem decode_any {w : World} {v : Value} {bs : List UInt8} (hb : Sl w v bs) (hlen : bs.length ≤ 1000000000000) :
    Calls Try.prog 11 #[v] w fun e w' => DecEnd w bs e w' := by
  obtain ⟨ao, c, rfl, hc1, hc2⟩ := hb.len
  have hB1 : Below w.heap.size w ((w.alloc (.cells zeroCells11 28)).alloc (.cells #[.slice ao bs.length c] 50)) := ((Below.refl _ w).alloc (Nat.le_refl _) _).alloc (by simp) _
  have hR1 : ((w.alloc (.cells zeroCells11 28)).alloc (.cells #[.slice ao bs.length c] 50)).heap[w.heap.size + 1]? = some (.cells #[.slice ao bs.length c] 50 (0, 0)) := by
    have h := heap_alloc_new (w.alloc (.cells zeroCells11 28)) (.cells #[.slice ao bs.length c] 50)
    rw [show (w.alloc (.cells zeroCells11 28)).heap.size = w.heap.size + 1 by simp] at h
    exact h
  have hQ1 : ((w.alloc (.cells zeroCells11 28)).alloc (.cells #[.slice ao bs.length c] 50)).heap[w.heap.size]? = some (.cells zeroCells11 28 (0, 0)) := by
    rw [Below.heap_alloc _ _ _ (by simp)]
    exact heap_alloc_new _ _
  unfold zeroCells11 at hB1 hR1 hQ1
  cases hp : getPiece bs with
  | none =>
    have HD : Hid (dec bs = none) := by show _ = _; simp [dec, hp]
    have HC := hide (bound_no hB1 (by omega) hR1 hb hp)
    have HB1 := hide hB1
    have HQ1 := hide hQ1
    clear hp hb hB1 hR1 hQ1 hlen hc1 hc2
    generalize bs.length = L at *
    go_enter Try.func11, Try.ntmps11
    go_wp2
    refine wp_scope_forward 0 rfl ?_
    go_wp2_with fail
    refine HC.out.mono ?_
    rintro e w1 ⟨rfl, hO⟩
    have hbad : Bad w w1 := ⟨HB1.out.trans (hO.below HB1.out.size (fun k hk => by simp at hk; omega)), _, (hO.block _ (by simp; omega) (by simp)).trans HQ1.out, rfl⟩
    clear hO HC HB1 HQ1
    obtain ⟨hbe, C', hq, hsz⟩ := hbad
    have HBE := hide hbe
    have HQ := hide hq
    have HSZ := hide hsz
    clear hbe hq hsz
    go_wp2
    go_step3
    refine ⟨rfl, ?_⟩
    go_wp2_with (first
      | (refine wpList_build_is rfl 28 _ rfl zeroCells11 Try.built28 ?_)
      | (refine wpList_store_row rfl 28 _ _ rfl w.heap.size zeroCells11 rfl rfl 28 _ HQ.out (Try.size28 rfl) HSZ.out one_zero11 ?_))
    rw [Exit.noGoto_ret]
    refine bodyPost_ret (v := .tuple #[.agg zeroCells11, .int .i64 0, .bool false]) (results_rec Try.results11 _ _ w.heap.size 28 zeroCells11 (0, 0) _ rfl (setRow_heap _ _ _ _ _ _ HQ.out) Try.underlying28 rfl (Try.size28 rfl)) rfl ?_
    refine ⟨below_setRow HBE.out (Nat.le_refl _) _, ?_⟩
    rw [HD.out]
  | some x =>
    obtain ⟨own, rb⟩ := x
    have hown : own.length ≤ 1000000000000 := by have := getPiece_len hp; omega
    have HP := hide hp
    have HLEN : Hid (∀ R, dec bs = some R → R.size ≤ 1000000000000) := fun R hR => Nat.le_trans (dec_le hR) hlen
    have HC := hide (bound_ok hB1 (by omega) hR1 hb hp)
    have HB1 := hide hB1
    have HQ1 := hide hQ1
    clear hp hb hB1 hR1 hQ1 hlen hc1 hc2
    generalize bs.length = L at *
    go_enter Try.func11, Try.ntmps11
    go_wp2
    refine wp_scope_forward 0 rfl ?_
    go_wp2_with fail
    refine HC.out.mono ?_
    rintro e w1 ⟨rfl, v1, hR1, hs1, hO⟩
    have A1 : At w w1 own Rc.zero (.slice none 0 0) (.slice none 0 0) (.slice none 0 0) (.slice none 0 0) := ⟨HB1.out.trans (hO.below HB1.out.size (fun k hk => by simp at hk; omega)), ⟨v1, hR1, hs1⟩, (hO.block _ (by simp; omega) (by simp)).trans HQ1.out, World.ownsRow_nil _ _ _ _, World.ownsRow_nil _ _ _ _, World.ownsRow_nil _ _ _ _, World.ownsRow_nil _ _ _ _⟩
    have HDE : Hid (dec bs = atHead own) := by show _ = _; simp [dec, HP.out]
    clear hO HC HB1 HQ1 hR1 hs1 HP
    cases h2 : getNums 6 own with
    | none =>
      have HD : Hid (dec bs = none) := by show _ = _; rw [HDE.out]; simp [atHead, h2]
      have HC := hide (A1.noNums 0 6 (by omega) h2)
      clear A1 h2 HDE
      go_wp2_with fail
      refine HC.out.mono ?_
      rintro e w2 ⟨rfl, hbad⟩
      clear HC
      obtain ⟨hbe, C', hq, hsz⟩ := hbad
      have HBE := hide hbe
      have HQ := hide hq
      have HSZ := hide hsz
      clear hbe hq hsz
      go_wp2
      go_step3
      refine ⟨rfl, ?_⟩
      go_wp2_with (first
        | (refine wpList_build_is rfl 28 _ rfl zeroCells11 Try.built28 ?_)
        | (refine wpList_store_row rfl 28 _ _ rfl w.heap.size zeroCells11 rfl rfl 28 _ HQ.out (Try.size28 rfl) HSZ.out one_zero11 ?_))
      rw [Exit.noGoto_ret]
      refine bodyPost_ret (v := .tuple #[.agg zeroCells11, .int .i64 0, .bool false]) (results_rec Try.results11 _ _ w.heap.size 28 zeroCells11 (0, 0) _ rfl (setRow_heap _ _ _ _ _ _ HQ.out) Try.underlying28 rfl (Try.size28 rfl)) rfl ?_
      refine ⟨below_setRow HBE.out (Nat.le_refl _) _, ?_⟩
      rw [HD.out]
    | some x2 =>
      obtain ⟨l, r2⟩ := x2
      have hr2 : r2.length ≤ 1000000000000 := by have := getNums_len 6 h2; omega
      have HDE2 : Hid (dec bs = atBefore (Rc.ofHead l) r2) := by show _ = _; rw [HDE.out]; simp [atHead, h2]
      have HC := hide (A1.head h2)
      clear A1 h2 HDE hown
      go_wp2_with fail
      refine HC.out.mono ?_
      rintro e w2 ⟨rfl, A2⟩
      clear HC
      cases h3 : getPiece r2 with
      | none =>
        have HD : Hid (dec bs = none) := by show _ = _; rw [HDE2.out]; simp [atBefore, h3]
        have HC := hide (A2.noBytes 6 rfl h3)
        clear A2 h3 HDE2
        go_wp2_with fail
        refine HC.out.mono ?_
        rintro e w3 ⟨rfl, hbad⟩
        clear HC
        obtain ⟨hbe, C', hq, hsz⟩ := hbad
        have HBE := hide hbe
        have HQ := hide hq
        have HSZ := hide hsz
        clear hbe hq hsz
        go_wp2
        go_step3
        refine ⟨rfl, ?_⟩
        go_wp2_with (first
          | (refine wpList_build_is rfl 28 _ rfl zeroCells11 Try.built28 ?_)
          | (refine wpList_store_row rfl 28 _ _ rfl w.heap.size zeroCells11 rfl rfl 28 _ HQ.out (Try.size28 rfl) HSZ.out one_zero11 ?_))
        rw [Exit.noGoto_ret]
        refine bodyPost_ret (v := .tuple #[.agg zeroCells11, .int .i64 0, .bool false]) (results_rec Try.results11 _ _ w.heap.size 28 zeroCells11 (0, 0) _ rfl (setRow_heap _ _ _ _ _ _ HQ.out) Try.underlying28 rfl (Try.size28 rfl)) rfl ?_
        refine ⟨below_setRow HBE.out (Nat.le_refl _) _, ?_⟩
        rw [HD.out]
      | some x3 =>
        obtain ⟨p3, r3⟩ := x3
        have hr3 : r3.length ≤ 1000000000000 := by have := getPiece_len h3; omega
        have HDE3 : Hid (dec bs = atAfter { Rc.ofHead l with before := p3 } r3) := by show _ = _; rw [HDE2.out]; simp [atBefore, h3]
        have HC := hide (A2.bytes0 h3 hr2)
        clear A2 h3 HDE2 hr2
        go_wp2_with fail
        refine HC.out.mono ?_
        rintro e w3 ⟨rfl, vb, A3⟩
        clear HC
        generalize ({ Rc.ofHead l with before := p3 } : Rc) = R3 at *
        cases h4 : getPiece r3 with
        | none =>
          have HD : Hid (dec bs = none) := by show _ = _; rw [HDE3.out]; simp [atAfter, h4]
          have HC := hide (A3.noBytes 7 rfl h4)
          clear A3 h4 HDE3
          go_wp2_with fail
          refine HC.out.mono ?_
          rintro e w4 ⟨rfl, hbad⟩
          clear HC
          obtain ⟨hbe, C', hq, hsz⟩ := hbad
          have HBE := hide hbe
          have HQ := hide hq
          have HSZ := hide hsz
          clear hbe hq hsz
          go_wp2
          go_step3
          refine ⟨rfl, ?_⟩
          go_wp2_with (first
            | (refine wpList_build_is rfl 28 _ rfl zeroCells11 Try.built28 ?_)
            | (refine wpList_store_row rfl 28 _ _ rfl w.heap.size zeroCells11 rfl rfl 28 _ HQ.out (Try.size28 rfl) HSZ.out one_zero11 ?_))
          rw [Exit.noGoto_ret]
          refine bodyPost_ret (v := .tuple #[.agg zeroCells11, .int .i64 0, .bool false]) (results_rec Try.results11 _ _ w.heap.size 28 zeroCells11 (0, 0) _ rfl (setRow_heap _ _ _ _ _ _ HQ.out) Try.underlying28 rfl (Try.size28 rfl)) rfl ?_
          refine ⟨below_setRow HBE.out (Nat.le_refl _) _, ?_⟩
          rw [HD.out]
        | some x4 =>
          obtain ⟨p4, r4⟩ := x4
          have hr4 : r4.length ≤ 1000000000000 := by have := getPiece_len h4; omega
          have HDE4 : Hid (dec bs = atTxns { R3 with after := p4 } r4) := by show _ = _; rw [HDE3.out]; simp [atAfter, h4]
          have HC := hide (A3.bytes1 h4 hr3)
          clear A3 h4 HDE3 hr3
          go_wp2_with fail
          refine HC.out.mono ?_
          rintro e w4 ⟨rfl, va, A4⟩
          clear HC
          generalize ({ R3 with after := p4 } : Rc) = R4 at *
          cases h5 : getList getTx r4 with
          | none =>
            have HD : Hid (dec bs = none) := by show _ = _; rw [HDE4.out]; simp [atTxns, h5]
            have HC := hide (A4.noTxns h5 hr4)
            clear A4 h5 HDE4
            go_wp2_with fail
            refine HC.out.mono ?_
            rintro e w5 ⟨rfl, hbad⟩
            clear HC
            obtain ⟨hbe, C', hq, hsz⟩ := hbad
            have HBE := hide hbe
            have HQ := hide hq
            have HSZ := hide hsz
            clear hbe hq hsz
            go_wp2
            go_step3
            refine ⟨rfl, ?_⟩
            go_wp2_with (first
              | (refine wpList_build_is rfl 28 _ rfl zeroCells11 Try.built28 ?_)
              | (refine wpList_store_row rfl 28 _ _ rfl w.heap.size zeroCells11 rfl rfl 28 _ HQ.out (Try.size28 rfl) HSZ.out one_zero11 ?_))
            rw [Exit.noGoto_ret]
            refine bodyPost_ret (v := .tuple #[.agg zeroCells11, .int .i64 0, .bool false]) (results_rec Try.results11 _ _ w.heap.size 28 zeroCells11 (0, 0) _ rfl (setRow_heap _ _ _ _ _ _ HQ.out) Try.underlying28 rfl (Try.size28 rfl)) rfl ?_
            refine ⟨below_setRow HBE.out (Nat.le_refl _) _, ?_⟩
            rw [HD.out]
          | some x5 =>
            obtain ⟨l5, r5⟩ := x5
            have hr5 : r5.length ≤ 1000000000000 := by have := getList_len (fun _ _ _ => getTx_len) h5; omega
            have HDE5 : Hid (dec bs = atDirty { R4 with txns := l5 } r5) := by show _ = _; rw [HDE4.out]; simp [atTxns, h5]
            have HC := hide (A4.txns h5 hr4)
            clear A4 h5 HDE4 hr4
            go_wp2_with fail
            refine HC.out.mono ?_
            rintro e w5 ⟨rfl, vt, A5⟩
            clear HC
            generalize ({ R4 with txns := l5 } : Rc) = R5 at *
            cases h6 : getList getDt r5 with
            | none =>
              have HD : Hid (dec bs = none) := by show _ = _; rw [HDE5.out]; simp [atDirty, h6]
              have HC := hide (A5.noDirty h6 hr5)
              clear A5 h6 HDE5
              go_wp2_with fail
              refine HC.out.mono ?_
              rintro e w6 ⟨rfl, hbad⟩
              clear HC
              obtain ⟨hbe, C', hq, hsz⟩ := hbad
              have HBE := hide hbe
              have HQ := hide hq
              have HSZ := hide hsz
              clear hbe hq hsz
              go_wp2
              go_step3
              refine ⟨rfl, ?_⟩
              go_wp2_with (first
                | (refine wpList_build_is rfl 28 _ rfl zeroCells11 Try.built28 ?_)
                | (refine wpList_store_row rfl 28 _ _ rfl w.heap.size zeroCells11 rfl rfl 28 _ HQ.out (Try.size28 rfl) HSZ.out one_zero11 ?_))
              rw [Exit.noGoto_ret]
              refine bodyPost_ret (v := .tuple #[.agg zeroCells11, .int .i64 0, .bool false]) (results_rec Try.results11 _ _ w.heap.size 28 zeroCells11 (0, 0) _ rfl (setRow_heap _ _ _ _ _ _ HQ.out) Try.underlying28 rfl (Try.size28 rfl)) rfl ?_
              refine ⟨below_setRow HBE.out (Nat.le_refl _) _, ?_⟩
              rw [HD.out]
            | some x6 =>
              obtain ⟨l6, r6⟩ := x6
              have HDE6 : Hid (dec bs = atCount { R5 with dirty := l6 } r6) := by show _ = _; rw [HDE5.out]; simp [atDirty, h6]
              have HC := hide (A5.dirty h6 hr5)
              clear A5 h6 HDE5 hr5
              go_wp2_with fail
              refine HC.out.mono ?_
              rintro e w6 ⟨rfl, vd, A6⟩
              clear HC
              generalize ({ R5 with dirty := l6 } : Rc) = R6 at *
              cases h7 : getNum r6 with
              | none =>
                have HD : Hid (dec bs = none) := by show _ = _; rw [HDE6.out]; simp [atCount, h7]
                have HC := hide (A6.noNums 10 1 (by omega) (none_count h7))
                clear A6 h7 HDE6
                go_wp2_with fail
                refine HC.out.mono ?_
                rintro e w7 ⟨rfl, hbad⟩
                clear HC
                obtain ⟨hbe, C', hq, hsz⟩ := hbad
                have HBE := hide hbe
                have HQ := hide hq
                have HSZ := hide hsz
                clear hbe hq hsz
                go_wp2
                go_step3
                refine ⟨rfl, ?_⟩
                go_wp2_with (first
                  | (refine wpList_build_is rfl 28 _ rfl zeroCells11 Try.built28 ?_)
                  | (refine wpList_store_row rfl 28 _ _ rfl w.heap.size zeroCells11 rfl rfl 28 _ HQ.out (Try.size28 rfl) HSZ.out one_zero11 ?_))
                rw [Exit.noGoto_ret]
                refine bodyPost_ret (v := .tuple #[.agg zeroCells11, .int .i64 0, .bool false]) (results_rec Try.results11 _ _ w.heap.size 28 zeroCells11 (0, 0) _ rfl (setRow_heap _ _ _ _ _ _ HQ.out) Try.underlying28 rfl (Try.size28 rfl)) rfl ?_
                refine ⟨below_setRow HBE.out (Nat.le_refl _) _, ?_⟩
                rw [HD.out]
              | some x7 =>
                obtain ⟨n7, r7⟩ := x7
                have HDE7 : Hid (dec bs = if r7 = [] then some { R6 with count := n7 } else none) := by show _ = _; rw [HDE6.out]; simp [atCount, h7]
                have HC := hide (A6.count h7)
                clear A6 h7 HDE6
                go_wp2_with fail
                refine HC.out.mono ?_
                rintro e w7 ⟨rfl, A7⟩
                clear HC
                generalize ({ R6 with count := n7 } : Rc) = R7 at *
                obtain ⟨u7, hu7, hs7⟩ := A7.rd
                obtain ⟨a7, c7, rfl, q1, q2⟩ := hs7.len
                have k7 : w7.cell? ⟨w.heap.size + 1, 0, none⟩ = some (.slice a7 r7.length c7) := by rw [cell_row hu7]; rfl
                simp only [maxLen] at q2
                by_cases hz : r7 = []
                · have HD : Hid (dec bs = some R7) := by show _ = _; rw [HDE7.out, if_pos hz]
                  subst hz
                  have HSZ := hide (HLEN.out _ HD.out)
                  have HA := hide A7
                  clear A7 hu7 hs7 HDE7 HLEN
                  go_wp2
                  refine wp_region_held_drew (S := fun w' => w'.heap[w.heap.size]? = some (.cells (recCells R7 vb va vt vd) 28 (0, 0))) (by kernel_rfl) HA.out.cell (fun hH => ?_)
                  have L28 : ∀ W : World, W.heap[w.heap.size]? = some (.cells (recCells R7 vb va vt vd) 28 (0, 0)) → (do pure (Next.value (← Instr.loadAt 28 (.pointer (some ⟨w.heap.size, 0, none⟩)))) : Sem Next).run Try.prog W = .ok (.value (.agg (recCells R7 vb va vt vd))) W := fun W hW => by
                    rw [Sem.run_bind, run_load28 W _ _ rfl hW]; rfl
                  refine take_to 0 39 (.agg (recCells R7 vb va vt vd)) rfl (by kernel_rfl) (by kernel_rfl) (by kernel_rfl) (fun _ _ _ h => h) rfl (by rfl) (fun W hW => L28 W hW) hH ?_
                  simp only [Act.put, List.setIfInBounds_toArray, List.set_cons_zero, List.set_cons_succ]
                  refine take_to 1 40 (.agg (recCells R7 vb va vt vd)) rfl (by kernel_rfl) (by kernel_rfl) (by kernel_rfl) (fun _ _ _ h => h) rfl (by rfl) (fun W hW => L28 W hW) hH ?_
                  simp only [Act.put, List.setIfInBounds_toArray, List.set_cons_zero, List.set_cons_succ]
                  have hBd : Below w7.heap.size w7 w7.drew := (Below.refl _ w7).drew
                  refine step_call1_to 2 41 15 rfl (by kernel_rfl) rfl (by rfl) (.tmp 40) _ rfl (.agg (recCells R7 vb va vt vd)) rfl Try.enters15 (size_any (HA.out.val.val.below hBd (Nat.le_refl _)) HSZ.out) (fun e w8 h8 => ?_)
                  obtain ⟨rfl, rfl⟩ := h8
                  have hq8 : (w7.drew.alloc (.cells (Value.agg (recCells R7 vb va vt vd)).cells 28)).heap[w.heap.size]? = some (.cells (recCells R7 vb va vt vd) 28 (0, 0)) := by
                    rw [Below.heap_alloc _ _ _ (by have := HA.out.size; show _ < w7.heap.size; omega)]; exact HA.out.cell
                  refine ⟨_, rfl, hq8, ?_⟩
                  have hB8 : Below w7.heap.size w7 (w7.drew.alloc (.cells (Value.agg (recCells R7 vb va vt vd)).cells 28)) := hBd.alloc (Nat.le_refl _) _
                  simp only [Act.put, List.setIfInBounds_toArray, List.set_cons_zero, List.set_cons_succ]
                  have HQ8 := hide hq8
                  have HB8 := hide hB8
                  clear hq8 hB8
                  generalize w7.drew.alloc (.cells (Value.agg (recCells R7 vb va vt vd)).cells 28) = w8 at *
                  have hq9 := setRow_heap w8 w.heap.size _ (recCells R7 vb va vt vd) _ _ HQ8.out
                  have hsame : ∀ k, (w8.setRow w.heap.size (recCells R7 vb va vt vd)).heap[k]? = w8.heap[k]? := fun k => by
                    by_cases hk : k = w.heap.size
                    · rw [hk, hq9, HQ8.out]
                    · exact setRow_other _ _ _ _ hk
                  have HB9 : Hid (Below w7.heap.size w7 (w8.setRow w.heap.size (recCells R7 vb va vt vd))) := ⟨HB8.out.os, HB8.out.tape, HB8.out.output, by have := HB8.out.size; simpa [World.setRow] using this, fun k hk => (hsame k).trans (HB8.out.block k hk)⟩
                  refine step_store_to 3 _ rfl (by kernel_rfl) rfl (by rfl) 28 (.tmp 2) (.tmp 39) rfl (.pointer (some ⟨w.heap.size, 0, none⟩)) (.agg (recCells R7 vb va vt vd)) rfl rfl (run_store28 w8 _ _ _ rfl rfl HA.out.one HQ8.out) hq9 ?_
                  refine step_to 4 3 (.int .i64 (R7.size : Nat)) _ rfl (by kernel_rfl) rfl (by rfl) rfl hq9 ?_
                  simp only [Act.put, List.setIfInBounds_toArray, List.set_cons_zero, List.set_cons_succ]
                  refine step_to 5 4 (.bool true) _ rfl (by kernel_rfl) rfl (by rfl) rfl hq9 ?_
                  simp only [Act.put, List.setIfInBounds_toArray, List.set_cons_zero, List.set_cons_succ]
                  refine wpAnyH_done (by kernel_rfl) ?_ _
                  have HQ9 := hide hq9
                  clear hq9 hsame L28 hH
                  generalize w8.setRow w.heap.size (recCells R7 vb va vt vd) = w9 at *
                  go_wp2
                  rw [Exit.jump_ret]
                  refine bodyPost_ret (v := .tuple #[.agg (recCells R7 vb va vt vd), .int .i64 (R7.size : Nat), .bool true]) (results_rec Try.results11 _ _ w.heap.size 28 (recCells R7 vb va vt vd) (0, 0) _ rfl HQ9.out Try.underlying28 rfl (Try.size28 rfl)) rfl ?_
                  refine ⟨HA.out.below.trans (HB9.out.mono HA.out.below.size), ?_⟩
                  rw [HD.out]
                  exact ⟨_, rfl, HA.out.val.below HB9.out (Nat.le_refl _)⟩
                · have HD : Hid (dec bs = none) := by show _ = _; rw [HDE7.out, if_neg hz]
                  have hl7 : (0 : Int) < (r7.length : Int) := by
                    have := List.length_pos_iff.2 hz
                    omega
                  have hbad := A7.bad
                  clear A7 hu7 hs7 HDE7 hz
                  generalize r7.length = L7 at *
                  obtain ⟨hbe, C', hq, hsz⟩ := hbad
                  have HBE := hide hbe
                  have HQ := hide hq
                  have HSZ := hide hsz
                  clear hbe hq hsz
                  go_wp2
                  go_step3
                  refine ⟨rfl, ?_⟩
                  go_wp2_with (first
                    | (refine wpList_build_is rfl 28 _ rfl zeroCells11 Try.built28 ?_)
                    | (refine wpList_store_row rfl 28 _ _ rfl w.heap.size zeroCells11 rfl rfl 28 _ HQ.out (Try.size28 rfl) HSZ.out one_zero11 ?_))
                  rw [Exit.noGoto_ret]
                  refine bodyPost_ret (v := .tuple #[.agg zeroCells11, .int .i64 0, .bool false]) (results_rec Try.results11 _ _ w.heap.size 28 zeroCells11 (0, 0) _ rfl (setRow_heap _ _ _ _ _ _ HQ.out) Try.underlying28 rfl (Try.size28 rfl)) rfl ?_
                  refine ⟨below_setRow HBE.out (Nat.le_refl _) _, ?_⟩
                  rw [HD.out]
end Go.Proofs.Ytmfiafdhflaafaa
