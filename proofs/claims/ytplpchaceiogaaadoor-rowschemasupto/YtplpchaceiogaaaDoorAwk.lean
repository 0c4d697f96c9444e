/- awake: what the document fixes. -/
import Derived.Test.YtplpchaceiogaaaDoorTxt
import Derived.Test.YtplpchaceiogaaaDoorCod
import Derived.Test.YtplpchaceiogaaaDoorCpr
import Derived.Test.YtplpchaceiogaaaDoorSame
import Derived.Test.YtplpchaceiogaaaDoorOps
namespace Go.Proofs.YtplpchaceiogaaaDoor
open Go.RowKit
set_option linter.unusedVariables false
set_option linter.unusedSimpArgs false
set_option maxRecDepth 100000

theorem Tryd.info32' : ∃ i, Tryd.prog.info? 32 = some i ∧ i.size = 4 := by
  obtain ⟨i, hi, hz⟩ := Option.map_eq_some_iff.1 Tryd.info32
  simp only [Prod.mk.injEq] at hz
  exact ⟨i, hi, hz.2.1⟩
theorem run_cutV_to (w : World) (ao : Option Addr) (n c h : Nat) (hh : h ≤ c) :
    (Instr.sliceAt 35 (.slice ao n c) none (some (.int .i64 (h : Int))) none).run Tryd.prog w = .ok (.slice ao h c) w := by
  have hu := Tryd.underlying35
  have h1 : (h : Int) ≤ (c : Int) := by omega
  obtain ⟨i, hi, hsz⟩ := Tryd.info32'
  simp [Instr.sliceAt, Instr.slice, run_underlying hu, Instr.sliceBounds, Instr.sliceBound, asIntOf, h1, sizeOf, typeInfo, hi, hsz, Nat.mul_one, hh]
  by_cases e : c = 0
  · simp [e]
  · simp [e]
    cases ao with
    | none => rfl
    | some a => obtain ⟨g, o, s⟩ := a; cases s <;> simp [Addr.add]
theorem vsCells_take : ∀ (l : List Vl) (k : Nat), vsCells (l.take k) = (vsCells l).take (k * 4)
  | [], k => by simp [vsCells]
  | v :: l, 0 => by simp [vsCells]
  | v :: l, k + 1 => by
    rw [List.take_succ_cons, vsCells_cons, vsCells_cons, show (k + 1) * 4 = k * 4 + 1 + 1 + 1 + 1 by omega]
    simp [vsCells_take l k]
theorem VsAt.to {w : World} {ao : Option Addr} {n c : Nat} {l : List Vl} (h : VsAt w (.slice ao n c) l) (k : Nat) (hk : k ≤ l.length) : VsAt w (.slice ao k c) (l.take k) := by
  obtain ⟨ao', c', e, h1, h2, h3⟩ := h
  injection e with e1 e2 e3
  subst e1 e2 e3
  have hlen : (l.take k).length = k := by rw [List.length_take]; omega
  refine ⟨ao, c, by rw [hlen], by omega, h2, fun hx => ?_⟩
  rw [vsCells_take] at hx ⊢
  obtain ⟨g, o, ea, hr⟩ := h3 (fun h0 => hx (by rw [h0]; simp))
  refine ⟨g, o, ea, fun j u hu => hr j u ?_⟩
  rw [List.getElem?_take] at hu
  split at hu
  · exact hu
  · simp at hu
theorem op_cutV (ρ : Operand → Value) (o : Oper) (x : Operand) (k : Int) (ho : o.op = .slice 35 x none (some (.const (.int .i64 k))) none) (px v : Value) (hx : ρ x = px) (hk : ρ (.const (.int .i64 k)) = .int .i64 k) {w : World} (hr : (Instr.sliceAt 35 px none (some (.int .i64 k)) none).run Tryd.prog w = .ok v w) : (execOp ρ o).run Tryd.prog w = .ok (.value v) w := by
  unfold execOp
  simp [ho, hx, hk, hr, Result.andThen]
def awL : List Vl := [nV 1, Vl.zero, tV itS]
theorem awL_wf : ∀ V ∈ awL, V.wf := by
  intro V hV
  simp [awL] at hV
  rcases hV with rfl | rfl | rfl <;> exact ⟨by decide, by decide⟩
theorem awL_split : splitN (joinL awL).length (joinL awL) [] = some awL := by
  have h := splitN_join awL (joinL awL).length [] awL_wf (Nat.le_refl _)
  exact h
def awF (V : Vl) : List UInt8 := if V.ty = 1 then [49] else if V.ty = 2 then itT else [78, 85, 76, 76]
def awT : List UInt8 := [49, 44, 32, 78, 85, 76, 76, 44, 32, 39, 105, 116, 39, 39, 115, 39]
theorem awF_join : Lib.join (awL.map awF) [44, 32] = awT := by decide
theorem awL_txs {m : Int} {w : World} (hm : w.cell? ⟨0, 0, none⟩ = some (.int .i64 m)) : TxIs w awL awF := by
  intro W hW k hk
  have hk3 : k < 3 := hk
  match k, hk3 with
  | 0, _ => exact text_one W
  | 1, _ => exact text_null W
  | 2, _ => exact text_its m W ((hW.cell (p := ⟨0, 0, none⟩) (World.block_lt_of_cell? w _ hm)).trans hm)
set_option maxHeartbeats 1000000 in
theorem dec15 {w : World} {v : Value} {bs : List UInt8} (h : Sl w v bs) (hl : bs.length ≤ 400000000) : Calls Tryd.prog 15 #[v] w (SplitEnd w bs) := by
  have HS := hide (split_any h hl)
  clear h hl
  unfold SplitEnd at *
  cases hq : splitN bs.length bs [] with
  | none =>
    simp only [hq] at HS ⊢
    go_enter Tryd.func15, Tryd.ntmps15
    go_wp2_with (go_at_call 35; refine HS.out.mono ?_; rintro e W2 ⟨rfl, hB2⟩; have HB2 := hide hB2; clear hB2)
    refine bodyPost_ret (results_tmp2 rfl _ _ _) rfl ?_
    exact ⟨rfl, HB2.out⟩
  | some l =>
    simp only [hq] at HS ⊢
    go_enter Tryd.func15, Tryd.ntmps15
    go_wp2_with (go_at_call 35; refine HS.out.mono ?_; rintro e W2 ⟨u, rfl, hB2⟩; have HB2 := hide hB2; clear hB2)
    refine bodyPost_ret (results_tmp2 rfl _ _ _) rfl ?_
    exact ⟨u, rfl, HB2.out⟩
structure AwS (m : Int) (a b : Option Addr) (ca cb : Nat) (W : World) : Prop where
  x : VsAt W (.slice a awL.length ca) awL
  y : VsAt W (.slice b awL.length cb) awL
  z : W.cell? ⟨0, 0, none⟩ = some (.int .i64 m)
theorem AwS.belowW {m : Int} {a b : Option Addr} {ca cb : Nat} {w w' : World} (h : AwS m a b ca cb w) (hb : Below w.heap.size w w') : AwS m a b ca cb w' := ⟨h.x.belowW hb, h.y.belowW hb, cell_belowW h.z hb⟩
set_option maxHeartbeats 8000000 in
theorem awake_any (m : Int) (w : World) (hm : w.cell? ⟨0, 0, none⟩ = some (.int .i64 m)) : Calls Tryd.prog 9 #[] w fun e w' => e = .returned (.bool true) ∧ Below w.heap.size w w' := by
  have HI : Hid (∀ W, Calls Tryd.prog 11 #[.int .i64 1] W fun e w' => e = .returned (.agg #[.int .i64 1, .int .i64 1, .string { data := #[] }, .bool false]) ∧ Below W.heap.size W w') := num11 1
  have HT : Hid (∀ W, Calls Tryd.prog 10 #[.string { data := #[105, 116, 39, 115] }] W fun e w' => e = .returned (.agg #[.int .i64 2, .int .i64 0, .string { data := #[105, 116, 39, 115] }, .bool false]) ∧ Below W.heap.size W w') := text10 itS
  have HM := hide hm
  clear hm
  go_enter Tryd.func9, Tryd.ntmps9
  go_upto_region 2 with (first
    | (go_at_call 10; refine (HT.out _).mono ?_; rintro e w2 ⟨rfl, hb2⟩; have HB2 := hide hb2; clear hb2)
    | (go_at_call 11; refine (HI.out _).mono ?_; rintro e w1 ⟨rfl, hb1⟩; have HB1 := hide hb1; clear hb1))
  have hb12 : Below w.heap.size w w2 := thenW HB1.out HB2.out
  have ha3 := allocW hb12 (.cells #[.int .i64 1, .int .i64 1, .string { data := #[] }, .bool false, .int .i64 0, .int .i64 0, .string { data := #[] }, .bool false, .int .i64 2, .int .i64 0, .string { data := #[105, 116, 39, 115] }, .bool false] 32)
  have hv3 : VsAt (w2.alloc (.cells #[.int .i64 1, .int .i64 1, .string { data := #[] }, .bool false, .int .i64 0, .int .i64 0, .string { data := #[] }, .bool false, .int .i64 2, .int .i64 0, .string { data := #[105, 116, 39, 115] }, .bool false] 32)) (.slice (some ⟨w2.heap.size, 0, none⟩) 3 3) awL :=
    ⟨_, 3, rfl, Nat.le_refl _, by simp only [maxLen]; omega, fun _ => ⟨w2.heap.size, 0, rfl, fun j u hu => by
      rw [Nat.zero_add, cell_row (heap_alloc_new w2 _)]
      show (vsCells awL).toArray[j]? = some u
      simpa using hu⟩⟩
  have HA3 := hide ha3
  have HV3 := hide hv3
  clear hb12 ha3 hv3 HB1 HB2
  generalize w2.alloc (.cells #[.int .i64 1, .int .i64 1, .string { data := #[] }, .bool false, .int .i64 0, .int .i64 0, .string { data := #[] }, .bool false, .int .i64 2, .int .i64 0, .string { data := #[105, 116, 39, 115] }, .bool false] 32) = W3 at *
  generalize w2.heap.size = g at *
  have HC := hide (cod13 HV3.out awL_wf (by decide))
  have HC' : Hid (Calls Tryd.prog 13 #[.slice (some ⟨g, 0, none⟩) 3 3] W3 fun e w' => ∃ u, e = .returned (.tuple #[u, .int .i64 0]) ∧ Bts W3 w' u (joinL awL)) := by
    refine hide ?_
    have := HC.out
    unfold CodEnd at this
    simpa [show (joinL awL).length ≤ 480 by decide] using this
  clear HC
  go_upto_region 3 with (go_at_call 13; refine HC'.out.mono ?_; rintro e W4 ⟨u4, rfl, hB4⟩; have HB4 := hide hB4; clear hB4)
  have HD : Hid (Calls Tryd.prog 15 #[u4] W4 fun e w' => ∃ u, e = .returned (.tuple #[u, .bool true]) ∧ Vals W4 w' u awL) := by
    have := dec15 HB4.out.sl (by decide)
    unfold SplitEnd at this
    rw [awL_split] at this
    exact this
  clear HC'
  go_upto_region 4 with (go_at_call 15; refine HD.out.mono ?_; rintro e W5 ⟨u5, rfl, hV5⟩; have HV5 := hide hV5; clear hV5)
  obtain ⟨a5, c5, e5, hc51, hc52⟩ := HV5.out.at.len
  subst e5
  have HA5 : Hid (Below w.heap.size w W5) := thenW (thenW HA3.out HB4.out.below) HV5.out.below
  have HS : Hid (AwS m a5 (some ⟨g, 0, none⟩) c5 3 W5) := ⟨HV5.out.at, (HV3.out.belowW HB4.out.below).belowW HV5.out.below, cell_belowW (cell_belowW (cell_belowW HM.out HA3.out) HB4.out.below) HV5.out.below⟩
  clear HD HV5 HB4 HV3 HA3 HM
  refine wp_region_held_drew (S := AwS m a5 (some ⟨g, 0, none⟩) c5 3) (by kernel_rfl) (HS.out.belowW (below_drewN _ _ 1)) (fun hH => ?_)
  refine step_to 0 20 (.int .i64 0) _ rfl (by kernel_rfl) rfl (by rfl) (rfl) hH ?_
  simp only [Act.put, List.setIfInBounds_toArray, List.set_cons_zero, List.set_cons_succ]
  refine step_to 1 21 (.bool true) _ rfl (by kernel_rfl) rfl (by rfl) (op_eql36 _ _ (.tmp 20) (.const (.int .i64 0)) _ rfl 0 0 rfl rfl true rfl) hH ?_
  simp only [Act.put, List.setIfInBounds_toArray, List.set_cons_zero, List.set_cons_succ]
  refine step_to 2 22 (.bool true) _ rfl (by kernel_rfl) rfl (by rfl) (rfl) hH ?_
  simp only [Act.put, List.setIfInBounds_toArray, List.set_cons_zero, List.set_cons_succ]
  refine step_to 3 23 (.bool true) _ rfl (by kernel_rfl) rfl (by rfl) (rfl) hH ?_
  simp only [Act.put, List.setIfInBounds_toArray, List.set_cons_zero, List.set_cons_succ]
  refine step_to 4 24 (.bool true) _ rfl (by kernel_rfl) rfl (by rfl) (rfl) hH ?_
  simp only [Act.put, List.setIfInBounds_toArray, List.set_cons_zero, List.set_cons_succ]
  refine step_to 5 25 (.bool true) _ rfl (by kernel_rfl) rfl (by rfl) (rfl) hH ?_
  simp only [Act.put, List.setIfInBounds_toArray, List.set_cons_zero, List.set_cons_succ]
  refine take_to 6 26 (.slice a5 3 c5) rfl (by kernel_rfl) (by kernel_rfl) (by kernel_rfl) (fun _ _ _ h => h) rfl (by rfl) (fun w hw => by rfl) hH ?_
  simp only [Act.put, List.setIfInBounds_toArray, List.set_cons_zero, List.set_cons_succ]
  refine take_to 7 27 (.slice (some ⟨g, 0, none⟩) 3 3) rfl (by kernel_rfl) (by kernel_rfl) (by kernel_rfl) (fun _ _ _ h => h) rfl (by rfl) (fun w hw => by rfl) hH ?_
  simp only [Act.put, List.setIfInBounds_toArray, List.set_cons_zero, List.set_cons_succ]
  refine step_call2_to 8 28 17 rfl (by kernel_rfl) rfl (by rfl) (.tmp 26) (.tmp 27) _ rfl _ _ rfl rfl Tryd.enters17 (same_any hH.x hH.y) ?_
  rintro e u1 ⟨rfl, q1, rfl⟩
  have hH1 := hH.belowW (below_drewN _ _ q1)
  refine ⟨_, rfl, hH1, ?_⟩
  simp only [Act.put, List.setIfInBounds_toArray, List.set_cons_zero, List.set_cons_succ]
  refine step_to 9 29 (.bool true) _ rfl (by kernel_rfl) rfl (by rfl) (rfl) hH1 ?_
  simp only [Act.put, List.setIfInBounds_toArray, List.set_cons_zero, List.set_cons_succ]
  refine step_to 10 30 (.bool true) _ rfl (by kernel_rfl) rfl (by rfl) (rfl) hH1 ?_
  simp only [Act.put, List.setIfInBounds_toArray, List.set_cons_zero, List.set_cons_succ]
  refine take_to 11 31 (.slice (some ⟨g, 0, none⟩) 3 3) rfl (by kernel_rfl) (by kernel_rfl) (by kernel_rfl) (fun _ _ _ h => h) rfl (by rfl) (fun w hw => by rfl) hH1 ?_
  simp only [Act.put, List.setIfInBounds_toArray, List.set_cons_zero, List.set_cons_succ]
  refine step_call1_to 12 32 23 rfl (by kernel_rfl) rfl (by rfl) (.tmp 31) _ rfl _ rfl Tryd.enters23 (text23 awF hH1.y (awL_txs hH1.z) (by decide) (by rw [awF_join]; decide)) ?_
  rintro e u2 ⟨rfl, hb2⟩
  rw [awF_join]
  have hH2 := hH1.belowW hb2
  refine ⟨_, rfl, hH2, ?_⟩
  simp only [Act.put, List.setIfInBounds_toArray, List.set_cons_zero, List.set_cons_succ]
  refine step_to 13 33 (.bool true) _ rfl (by kernel_rfl) rfl (by rfl) (op_eqlS _ _ (.tmp 32) (.const (.string { data := #[49, 44, 32, 78, 85, 76, 76, 44, 32, 39, 105, 116, 39, 39, 115, 39] })) _ rfl (strOf awT) rfl rfl) hH2 ?_
  simp only [Act.put, List.setIfInBounds_toArray, List.set_cons_zero, List.set_cons_succ]
  refine step_to 14 34 (.bool true) _ rfl (by kernel_rfl) rfl (by rfl) (rfl) hH2 ?_
  simp only [Act.put, List.setIfInBounds_toArray, List.set_cons_zero, List.set_cons_succ]
  refine step_to 15 35 (.bool true) _ rfl (by kernel_rfl) rfl (by rfl) (rfl) hH2 ?_
  simp only [Act.put, List.setIfInBounds_toArray, List.set_cons_zero, List.set_cons_succ]
  refine take_to 16 36 (.slice (some ⟨g, 0, none⟩) 3 3) rfl (by kernel_rfl) (by kernel_rfl) (by kernel_rfl) (fun _ _ _ h => h) rfl (by rfl) (fun w hw => by rfl) hH2 ?_
  simp only [Act.put, List.setIfInBounds_toArray, List.set_cons_zero, List.set_cons_succ]
  refine take_to 17 37 (.slice (some ⟨g, 0, none⟩) 1 3) rfl (by kernel_rfl) (by kernel_rfl) (by kernel_rfl) (fun _ _ _ h => h) rfl (by rfl) (fun w hw => op_cutV _ _ (.tmp 36) 1 rfl (.slice (some ⟨g, 0, none⟩) 3 3) _ rfl rfl (run_cutV_to w (some ⟨g, 0, none⟩) 3 3 1 (by omega))) hH2 ?_
  simp only [Act.put, List.setIfInBounds_toArray, List.set_cons_zero, List.set_cons_succ]
  refine take_to 18 38 (.slice (some ⟨g, 0, none⟩) 3 3) rfl (by kernel_rfl) (by kernel_rfl) (by kernel_rfl) (fun _ _ _ h => h) rfl (by rfl) (fun w hw => by rfl) hH2 ?_
  simp only [Act.put, List.setIfInBounds_toArray, List.set_cons_zero, List.set_cons_succ]
  refine take_to 19 39 (.slice (some ⟨g, 0, none⟩) 2 3) rfl (by kernel_rfl) (by kernel_rfl) (by kernel_rfl) (fun _ _ _ h => h) rfl (by rfl) (fun w hw => op_cutV _ _ (.tmp 38) 2 rfl (.slice (some ⟨g, 0, none⟩) 3 3) _ rfl rfl (run_cutV_to w (some ⟨g, 0, none⟩) 3 3 2 (by omega))) hH2 ?_
  simp only [Act.put, List.setIfInBounds_toArray, List.set_cons_zero, List.set_cons_succ]
  refine step_call2_to 20 40 18 rfl (by kernel_rfl) rfl (by rfl) (.tmp 37) (.tmp 39) _ rfl _ _ rfl rfl Tryd.enters18 (cmp18 (hH2.y.to 1 (by decide)) (hH2.y.to 2 (by decide))) ?_
  rintro e u3 ⟨rfl, hb3⟩
  have hcc : cmpL (awL.take 1) (awL.take 2) = -1 := by decide
  rw [hcc]
  have hH3 := hH2.belowW hb3
  refine ⟨_, rfl, hH3, ?_⟩
  simp only [Act.put, List.setIfInBounds_toArray, List.set_cons_zero, List.set_cons_succ]
  refine step_to 21 41 (.bool true) _ rfl (by kernel_rfl) rfl (by rfl) (op_eql3 _ _ (.tmp 40) (.const (.int .i64 (-1))) _ rfl (-1) (-1) rfl rfl true rfl) hH3 ?_
  simp only [Act.put, List.setIfInBounds_toArray, List.set_cons_zero, List.set_cons_succ]
  refine step_to 22 42 (.bool true) _ rfl (by kernel_rfl) rfl (by rfl) (rfl) hH3 ?_
  simp only [Act.put, List.setIfInBounds_toArray, List.set_cons_zero, List.set_cons_succ]
  refine step_to 23 0 (.bool true) _ rfl (by kernel_rfl) rfl (by rfl) (rfl) hH3 ?_
  simp only [Act.put, List.setIfInBounds_toArray, List.set_cons_zero, List.set_cons_succ]
  refine wpAnyH_done (by kernel_rfl) ?_ _
  go_wp2
  go_ret
  exact ⟨rfl, thenW (thenW (thenW HA5.out (below_drewN _ _ 1)) (below_drewN _ _ q1)) (thenW hb2 hb3)⟩
end Go.Proofs.YtplpchaceiogaaaDoor
