/- The walk of ValueOrder. -/
import Derived.Test.YtigafjdacllohaaDoorOrp
namespace Go.Proofs.YtigafjdacllohaaDoor
open Go.RowKit
set_option linter.unusedVariables false
set_option linter.unusedSimpArgs false
set_option maxRecDepth 100000

theorem wp_with_act {P : Program} {c : Code} {Q : Exit → Act → World → Prop} {a : Act} {w : World} (h : ∀ a0, a0 = a → c.wp P Q a0 w) : c.wp P Q a w := h a rfl
theorem op_call3_to {P : Program} {ops : Array Oper} {Q : Exit → Act → World → Prop} {o : Oper} {a : Act} {w : World} {K : Act → World → Prop} {i : Nat} {R : Ending → World → Prop} (dst f : Nat) (hi : ops[i]? = some o)
    (hd : o.dst = some dst) (hw : Region.wanted o (yielded ops a.tmps) = true) (x y z : Operand) (ts : Array TypeId) (hop : o.op = Op.call { callee := Callee.value (Operand.func f), args := #[x, y, z], argTypes := ts })
    (vx vy vz : Value) (hx : a.eval x = vx) (hy : a.eval y = vy) (hz : a.eval z = vz) (hcf : ∀ args w, (callFunc f args).run P w = .ok (.enter f args) w) (hc : Calls P f #[vx, vy, vz] w R)
    (hK : ∀ e w', R e w' → ∃ v, e = .returned v ∧ K (a.put (some dst) v) w') : wpOp P ops Q i K a w := by
  refine wpOp_step hi (fun K' hK' => ?_)
  rw [if_pos hw]
  have hrun : (execOp a.eval o).run P w = .ok (.enter f #[vx, vy, vz]) w := by
    have hff : a.eval (.func f) = .func (.func f) #[] #[] := rfl
    unfold execOp
    simp [hop, resolve, hff, Deferred.ofValue, invoke, hx, hy, hz]
    exact hcf _ _
  unfold Oper.wp
  rw [hrun, Oper.upon_enter]
  refine hc.mono ?_
  intro e w' hR
  obtain ⟨v, rfl, hW⟩ := hK e w' hR
  show K' (a.put o.dst v) w'
  rw [hd]
  exact hK' _ _ hW
theorem op_alloc23 (ρ : Operand → Value) (o : Oper) (ho : o.op = .alloc 23) (w : World) : (execOp ρ o).run Tryd.prog w = .ok (.value (.pointer (some ⟨w.heap.size, 0, none⟩))) (w.alloc (.cells #[.int .i64 0, .int .i64 0, .string { data := #[] }, .bool false] 23)) := by
  unfold execOp
  rw [ho]
  kernel_rfl

theorem run_neqVV (w : World) (V : Vl) : (binOp .neq 23 (.agg #[.int .i64 V.ty, .int .i64 V.n, .string (strOf V.t), .bool V.b]) (.agg #[.int .i64 V.ty, .int .i64 V.n, .string (strOf V.t), .bool V.b])).run Tryd.prog w = .ok (.bool false) w := by
  rw [run_neq_struct, eq23 w V V true (by simp)]
  rfl
set_option maxHeartbeats 16000000 in
theorem order_walk (a b : Int) (s t : List UInt8) (ha : -9223372036854775808 ≤ a ∧ a ≤ 9223372036854775807) (hb : -9223372036854775808 ≤ b ∧ b ≤ 9223372036854775807) (hs : 2 * s.length + 20 ≤ 500000000) (ht : 2 * t.length + 20 ≤ 500000000) (m : Int) (w : World) (hm : w.cell? ⟨1, 0, none⟩ = some (.int .i64 m)) :
    Calls Tryd.prog 3 #[.int .i64 a, .int .i64 b, .string (strOf s), .string (strOf t)] w fun e w' => e = .returned (.bool true) ∧ Below w.heap.size w w' := by
  have HI : Hid (∀ n W, Calls Tryd.prog 9 #[.int .i64 n] W fun e w' => e = .returned (.agg #[.int .i64 1, .int .i64 n, .string { data := #[] }, .bool false]) ∧ Below W.heap.size W w') := lawInt_any
  have HTX : Hid (∀ u W, Calls Tryd.prog 10 #[.string (strOf u)] W fun e w' => e = .returned (.agg #[.int .i64 2, .int .i64 0, .string (strOf u), .bool false]) ∧ Below W.heap.size W w') := lawText_any
  have HTR : Hid (∀ b W, Calls Tryd.prog 11 #[.bool b] W fun e w' => e = .returned (.agg #[.int .i64 3, .int .i64 0, .string { data := #[] }, .bool b]) ∧ Below W.heap.size W w') := lawTruth_any
  have HAW : Hid (∀ W, Below w.heap.size w W → Calls Tryd.prog 14 #[] W fun e w' => e = .returned (.bool true) ∧ Below W.heap.size W w') := fun W hW => awake_any m W ((hW.cell (p := ⟨1, 0, none⟩) (World.block_lt_of_cell? w _ hm)).trans hm)
  have HPA := hide (fun p q i hi => six_pair a b s t p q ha hb hs ht i hi)
  clear hm ha hb hs ht
  go_enter Tryd.func3, Tryd.ntmps3
  go_upto_region 3 with (first
    | (have _t := HB5; go_at_call 11; refine (HTR.out _ _).mono ?_; rintro e w6 ⟨rfl, hb6⟩; have HB6 := hide hb6; clear hb6)
    | (have _t := HB4; go_at_call 11; refine (HTR.out _ _).mono ?_; rintro e w5 ⟨rfl, hb5⟩; have HB5 := hide hb5; clear hb5)
    | (have _t := HB3; go_at_call 10; refine (HTX.out _ _).mono ?_; rintro e w4 ⟨rfl, hb4⟩; have HB4 := hide hb4; clear hb4)
    | (have _t := HB2; go_at_call 10; refine (HTX.out _ _).mono ?_; rintro e w3 ⟨rfl, hb3⟩; have HB3 := hide hb3; clear hb3)
    | (have _t := HB1; go_at_call 9; refine (HI.out _ _).mono ?_; rintro e w2 ⟨rfl, hb2⟩; have HB2 := hide hb2; clear hb2)
    | (go_at_call 9; refine (HI.out _ _).mono ?_; rintro e w1 ⟨rfl, hb1⟩; have HB1 := hide hb1; clear hb1))
  obtain ⟨p, hp⟩ : ∃ p, (bits BinOp.and IntKind.i64 a 1 == 1) = p := ⟨_, rfl⟩
  obtain ⟨q, hq⟩ : ∃ q, (bits BinOp.and IntKind.i64 b 1 == 1) = q := ⟨_, rfl⟩
  rw [hp, hq]
  clear hp hq
  have HPP := hide (HPA.out p q)
  have HV := hide (six_at w6 a b s t p q)
  have HL6 : Hid ((six a b s t p q).length = 6) := rfl
  have HBW := hide (allocW (thenW (thenW (thenW (thenW (thenW HB1.out HB2.out) HB3.out) HB4.out) HB5.out) HB6.out) (.cells #[.int .i64 1, .int .i64 a, .string { data := #[] }, .bool false, .int .i64 1, .int .i64 b, .string { data := #[] }, .bool false, .int .i64 2, .int .i64 0, .string (strOf s), .bool false, .int .i64 2, .int .i64 0, .string (strOf t), .bool false, .int .i64 3, .int .i64 0, .string { data := #[] }, .bool p, .int .i64 3, .int .i64 0, .string { data := #[] }, .bool q] 25))
  clear HPA HB1 HB2 HB3 HB4 HB5 HB6 HI HTX HTR
  generalize w6.alloc (.cells #[.int .i64 1, .int .i64 a, .string { data := #[] }, .bool false, .int .i64 1, .int .i64 b, .string { data := #[] }, .bool false, .int .i64 2, .int .i64 0, .string (strOf s), .bool false, .int .i64 2, .int .i64 0, .string (strOf t), .bool false, .int .i64 3, .int .i64 0, .string { data := #[] }, .bool p, .int .i64 3, .int .i64 0, .string { data := #[] }, .bool q] 25) = Ws at *
  generalize w6.heap.size = g at *
  generalize six a b s t p q = l at *
  go_loopw [10] (fun i wr => ∃ j : Nat, j ≤ 3 ∧ i = .int .i64 (j : Int) ∧ Below Ws.heap.size Ws wr) (fun i _ => 3 - (intOf i).toNat)
  case atStart => exact ⟨0, by omega, rfl, Below.refl _ _⟩
  case round =>
    obtain ⟨j, hj, rfl, hW⟩ := hrel
    have HW := hide hW
    clear hW
    by_cases hlt : j < 3
    · have HP := hide (HPP.out j hlt)
      have hnx : nextI j < 3 := by unfold nextI; split <;> omega
      have HCA := hide (fun W (hW : Below Ws.heap.size Ws W) => show CellsAt W g (j * 8) (l.getD (j * 2) Vl.zero) by
        have h := (HV.out.belowW hW).at6 HL6.out (j * 2) (by omega)
        rwa [show 0 + j * 2 * 4 = j * 8 by omega] at h)
      have HCB := hide (fun W (hW : Below Ws.heap.size Ws W) => show CellsAt W g (j * 8 + 4) (l.getD (j * 2 + 1) Vl.zero) by
        have h := (HV.out.belowW hW).at6 HL6.out (j * 2 + 1) (by omega)
        rwa [show 0 + (j * 2 + 1) * 4 = j * 8 + 4 by omega] at h)
      have HCN := hide (fun W (hW : Below Ws.heap.size Ws W) => show CellsAt W g (nextI j * 8) (l.getD (nextI j * 2) Vl.zero) by
        have h := (HV.out.belowW hW).at6 HL6.out (nextI j * 2) (by omega)
        rwa [show 0 + nextI j * 2 * 4 = nextI j * 8 by omega] at h)
      have HNX : Hid (((j : Int) + 1).tmod 3 = (nextI j : Int) ∧ IntKind.i64.wrap ((j : Int) + 1) = (j : Int) + 1 ∧ nextI j < 3) := by
        refine ⟨?_, by rw [IntKind.wrap_i64]; omega, hnx⟩
        rcases (by omega : j = 0 ∨ j = 1 ∨ j = 2) with rfl | rfl | rfl <;> rfl
      have HLT := hide hlt
      have i1 : (j : Int) < 3 := by omega
      clear hlt hnx
      generalize l.getD (j * 2) Vl.zero = A at *
      generalize l.getD (j * 2 + 1) Vl.zero = B at *
      generalize l.getD (nextI j * 2) Vl.zero = N at *
      have hd0 : Below Ws.heap.size Ws wr.drew := thenW HW.out (below_drewN _ _ 1)
      go_upto_region 5 with fail
      clear i1
      refine wp_with_act (fun a0 ha0 => ?_)
      refine Code.wp_mono (Q := fun e a' W => e = .normal ∧ ∃ p11 p12, (Box W p11 A ∧ Box W p12 B ∧ Below Ws.heap.size Ws W) ∧ a' = ((((((((((((a0.put (some 53) (.slice (some ⟨g, 0, none⟩) 3 3)).put (some 54) (.int .i64 (j : Int))).put (some 55) (.pointer (some ⟨g, j * 8, none⟩))).put (some 56) (.pointer (some ⟨g, j * 8, none⟩))).put (some 57) (.agg #[.int .i64 A.ty, .int .i64 A.n, .string (strOf A.t), .bool A.b])).put (some 58) (.slice (some ⟨g, 0, none⟩) 3 3)).put (some 59) (.int .i64 (j : Int))).put (some 60) (.pointer (some ⟨g, j * 8, none⟩))).put (some 61) (.pointer (some ⟨g, j * 8 + 4, none⟩))).put (some 62) (.agg #[.int .i64 B.ty, .int .i64 B.n, .string (strOf B.t), .bool B.b])).put (some 11) (.pointer (some ⟨p11, 0, none⟩))).put (some 12) (.pointer (some ⟨p12, 0, none⟩)))) ?cont ?region
      case region =>
        rw [ha0]
        refine wp_region_held_drew (S := fun w' => CellsAt w' g (j * 8) A ∧ CellsAt w' g (j * 8 + 4) B) (by kernel_rfl) ⟨HCA.out _ hd0, HCB.out _ hd0⟩ (fun hH => ?_)
        refine take_to 0 53 (.slice (some ⟨g, 0, none⟩) 3 3) rfl (by kernel_rfl) (by kernel_rfl) (by kernel_rfl) (fun _ _ _ h => (by cases h.1)) rfl (by rfl) (fun w hw => by rfl) hH ?_
        simp only [Act.put, List.setIfInBounds_toArray, List.set_cons_zero, List.set_cons_succ]
        refine take_to 1 54 (.int .i64 (j : Int)) rfl (by kernel_rfl) (by kernel_rfl) (by kernel_rfl) (fun _ _ _ h => (by cases h.1)) rfl (by rfl) (fun w hw => by rfl) hH ?_
        simp only [Act.put, List.setIfInBounds_toArray, List.set_cons_zero, List.set_cons_succ]
        refine take_to 2 55 (.pointer (some ⟨g, j * 8, none⟩)) rfl (by kernel_rfl) (by kernel_rfl) (by kernel_rfl) (fun _ _ _ h => (by cases h.1)) rfl (by rfl) (fun w hw => op_index _ _ 28 (.tmp 53) (.tmp 54) rfl (.slice (some ⟨g, 0, none⟩) 3 3) (.int .i64 (j : Int)) _ rfl rfl (run_index28z w g 3 3 j HLT.out)) hH ?_
        simp only [Act.put, List.setIfInBounds_toArray, List.set_cons_zero, List.set_cons_succ]
        refine take_to 3 56 (.pointer (some ⟨g, j * 8, none⟩)) rfl (by kernel_rfl) (by kernel_rfl) (by kernel_rfl) (fun _ _ _ h => (by cases h.1)) rfl (by rfl) (fun w hw => op_index _ _ 25 (.tmp 55) (.const (.int .i64 0)) rfl (.pointer (some ⟨g, j * 8, none⟩)) (.int .i64 0) _ rfl rfl (run_index25_0 w g _)) hH ?_
        simp only [Act.put, List.setIfInBounds_toArray, List.set_cons_zero, List.set_cons_succ]
        refine take_to 4 57 (.agg #[.int .i64 A.ty, .int .i64 A.n, .string (strOf A.t), .bool A.b]) rfl (by kernel_rfl) (by kernel_rfl) (by kernel_rfl) (fun _ _ _ h => (by cases h.1)) rfl (by rfl) (fun w hw => op_load _ _ 23 (.tmp 56) rfl (.pointer (some ⟨g, j * 8, none⟩)) _ rfl (load23c hw.1)) hH ?_
        simp only [Act.put, List.setIfInBounds_toArray, List.set_cons_zero, List.set_cons_succ]
        refine take_to 5 58 (.slice (some ⟨g, 0, none⟩) 3 3) rfl (by kernel_rfl) (by kernel_rfl) (by kernel_rfl) (fun _ _ _ h => (by cases h.1)) rfl (by rfl) (fun w hw => by rfl) hH ?_
        simp only [Act.put, List.setIfInBounds_toArray, List.set_cons_zero, List.set_cons_succ]
        refine take_to 6 59 (.int .i64 (j : Int)) rfl (by kernel_rfl) (by kernel_rfl) (by kernel_rfl) (fun _ _ _ h => (by cases h.1)) rfl (by rfl) (fun w hw => by rfl) hH ?_
        simp only [Act.put, List.setIfInBounds_toArray, List.set_cons_zero, List.set_cons_succ]
        refine take_to 7 60 (.pointer (some ⟨g, j * 8, none⟩)) rfl (by kernel_rfl) (by kernel_rfl) (by kernel_rfl) (fun _ _ _ h => (by cases h.1)) rfl (by rfl) (fun w hw => op_index _ _ 28 (.tmp 58) (.tmp 59) rfl (.slice (some ⟨g, 0, none⟩) 3 3) (.int .i64 (j : Int)) _ rfl rfl (run_index28z w g 3 3 j HLT.out)) hH ?_
        simp only [Act.put, List.setIfInBounds_toArray, List.set_cons_zero, List.set_cons_succ]
        refine take_to 8 61 (.pointer (some ⟨g, j * 8 + 4, none⟩)) rfl (by kernel_rfl) (by kernel_rfl) (by kernel_rfl) (fun _ _ _ h => (by cases h.1)) rfl (by rfl) (fun w hw => op_index _ _ 25 (.tmp 60) (.const (.int .i64 1)) rfl (.pointer (some ⟨g, j * 8, none⟩)) (.int .i64 1) _ rfl rfl (run_index25_1 w g _)) hH ?_
        simp only [Act.put, List.setIfInBounds_toArray, List.set_cons_zero, List.set_cons_succ]
        refine take_to 9 62 (.agg #[.int .i64 B.ty, .int .i64 B.n, .string (strOf B.t), .bool B.b]) rfl (by kernel_rfl) (by kernel_rfl) (by kernel_rfl) (fun _ _ _ h => (by cases h.1)) rfl (by rfl) (fun w hw => op_load _ _ 23 (.tmp 61) rfl (.pointer (some ⟨g, j * 8 + 4, none⟩)) _ rfl (load23c hw.2)) hH ?_
        simp only [Act.put, List.setIfInBounds_toArray, List.set_cons_zero, List.set_cons_succ]
        generalize wr.drew = U0 at *
        have h1 := allocW hd0 (.cells #[.int .i64 0, .int .i64 0, .string { data := #[] }, .bool false] 23)
        refine wpAnyH_all (rs := [10, 11]) (by kernel_rfl) (by simp) ?_
        intro n hn
        rcases (by simpa using hn : n = 10 ∨ n = 11) with rfl | rfl
        · skip
          refine op_to 11 (.pointer (some ⟨U0.heap.size, 0, none⟩)) (U0.alloc (.cells #[.int .i64 0, .int .i64 0, .string { data := #[] }, .bool false] 23)) rfl rfl (by rfl) (op_alloc23 _ _ rfl _) ⟨⟨HCA.out _ h1, HCB.out _ h1⟩, ?_⟩
          simp only [Act.put, List.setIfInBounds_toArray, List.set_cons_zero, List.set_cons_succ]
          have f1 : Box (U0.alloc (.cells #[.int .i64 0, .int .i64 0, .string { data := #[] }, .bool false] 23)) U0.heap.size Vl.zero := heap_alloc_new _ _
          have g1 := hd0.size
          generalize U0.alloc (.cells #[.int .i64 0, .int .i64 0, .string { data := #[] }, .bool false] 23) = U1 at *
          generalize U0.heap.size = r1 at *
          have h2 := allocW h1 (.cells #[.int .i64 0, .int .i64 0, .string { data := #[] }, .bool false] 23)
          refine step_to 11 12 (.pointer (some ⟨U1.heap.size, 0, none⟩)) (U1.alloc (.cells #[.int .i64 0, .int .i64 0, .string { data := #[] }, .bool false] 23)) rfl (by kernel_rfl) rfl (by rfl) (op_alloc23 _ _ rfl _) ⟨HCA.out _ h2, HCB.out _ h2⟩ ?_
          simp only [Act.put, List.setIfInBounds_toArray, List.set_cons_zero, List.set_cons_succ]
          have f2 : Box (U1.alloc (.cells #[.int .i64 0, .int .i64 0, .string { data := #[] }, .bool false] 23)) U1.heap.size Vl.zero := heap_alloc_new _ _
          have f1' : Box (U1.alloc (.cells #[.int .i64 0, .int .i64 0, .string { data := #[] }, .bool false] 23)) r1 Vl.zero := f1.belowW ((Below.refl _ _).alloc (Nat.le_refl _) _)
          have g2 := h1.size
          have lt1 := lt_of_heap f1
          generalize U1.alloc (.cells #[.int .i64 0, .int .i64 0, .string { data := #[] }, .bool false] 23) = U2 at *
          have ne : r1 ≠ U1.heap.size := by omega
          generalize U1.heap.size = r2 at *
          have s1 : Below Ws.heap.size Ws (U2.setRow r1 #[.int .i64 A.ty, .int .i64 A.n, .string (strOf A.t), .bool A.b]) := below_setRow h2 g1 _
          have s2 : Below Ws.heap.size Ws ((U2.setRow r1 #[.int .i64 A.ty, .int .i64 A.n, .string (strOf A.t), .bool A.b]).setRow r2 #[.int .i64 B.ty, .int .i64 B.n, .string (strOf B.t), .bool B.b]) := below_setRow s1 g2 _
          have tb : Box (U2.setRow r1 #[.int .i64 A.ty, .int .i64 A.n, .string (strOf A.t), .bool A.b]) r2 Vl.zero := f2.other _ (fun e => ne.symm e)
          have ua : Box ((U2.setRow r1 #[.int .i64 A.ty, .int .i64 A.n, .string (strOf A.t), .bool A.b]).setRow r2 #[.int .i64 B.ty, .int .i64 B.n, .string (strOf B.t), .bool B.b]) r1 A := (Box.after f1' A).other _ (fun e => ne e)
          have ub : Box ((U2.setRow r1 #[.int .i64 A.ty, .int .i64 A.n, .string (strOf A.t), .bool A.b]).setRow r2 #[.int .i64 B.ty, .int .i64 B.n, .string (strOf B.t), .bool B.b]) r2 B := Box.after tb B
          refine step_store_to 12 (U2.setRow r1 #[.int .i64 A.ty, .int .i64 A.n, .string (strOf A.t), .bool A.b]) rfl (by kernel_rfl) rfl (by rfl) 23 (.tmp 11) (.tmp 57) rfl _ _ rfl rfl (store_val f1' A) ⟨HCA.out _ s1, HCB.out _ s1⟩ ?_
          refine step_store_to 13 ((U2.setRow r1 #[.int .i64 A.ty, .int .i64 A.n, .string (strOf A.t), .bool A.b]).setRow r2 #[.int .i64 B.ty, .int .i64 B.n, .string (strOf B.t), .bool B.b]) rfl (by kernel_rfl) rfl (by rfl) 23 (.tmp 12) (.tmp 62) rfl _ _ rfl rfl (store_val tb B) ⟨HCA.out _ s2, HCB.out _ s2⟩ ?_
          refine wpAnyH_done (by kernel_rfl) ?_ _
          exact ⟨rfl, _, _, ⟨ua, ub, s2⟩, rfl⟩
        · skip
          refine op_to 12 (.pointer (some ⟨U0.heap.size, 0, none⟩)) (U0.alloc (.cells #[.int .i64 0, .int .i64 0, .string { data := #[] }, .bool false] 23)) rfl rfl (by rfl) (op_alloc23 _ _ rfl _) ⟨⟨HCA.out _ h1, HCB.out _ h1⟩, ?_⟩
          simp only [Act.put, List.setIfInBounds_toArray, List.set_cons_zero, List.set_cons_succ]
          have f1 : Box (U0.alloc (.cells #[.int .i64 0, .int .i64 0, .string { data := #[] }, .bool false] 23)) U0.heap.size Vl.zero := heap_alloc_new _ _
          have g1 := hd0.size
          generalize U0.alloc (.cells #[.int .i64 0, .int .i64 0, .string { data := #[] }, .bool false] 23) = U1 at *
          generalize U0.heap.size = r1 at *
          have h2 := allocW h1 (.cells #[.int .i64 0, .int .i64 0, .string { data := #[] }, .bool false] 23)
          refine step_to 10 11 (.pointer (some ⟨U1.heap.size, 0, none⟩)) (U1.alloc (.cells #[.int .i64 0, .int .i64 0, .string { data := #[] }, .bool false] 23)) rfl (by kernel_rfl) rfl (by rfl) (op_alloc23 _ _ rfl _) ⟨HCA.out _ h2, HCB.out _ h2⟩ ?_
          simp only [Act.put, List.setIfInBounds_toArray, List.set_cons_zero, List.set_cons_succ]
          have f2 : Box (U1.alloc (.cells #[.int .i64 0, .int .i64 0, .string { data := #[] }, .bool false] 23)) U1.heap.size Vl.zero := heap_alloc_new _ _
          have f1' : Box (U1.alloc (.cells #[.int .i64 0, .int .i64 0, .string { data := #[] }, .bool false] 23)) r1 Vl.zero := f1.belowW ((Below.refl _ _).alloc (Nat.le_refl _) _)
          have g2 := h1.size
          have lt1 := lt_of_heap f1
          generalize U1.alloc (.cells #[.int .i64 0, .int .i64 0, .string { data := #[] }, .bool false] 23) = U2 at *
          have ne : r1 ≠ U1.heap.size := by omega
          generalize U1.heap.size = r2 at *
          have s1 : Below Ws.heap.size Ws (U2.setRow r2 #[.int .i64 A.ty, .int .i64 A.n, .string (strOf A.t), .bool A.b]) := below_setRow h2 g2 _
          have s2 : Below Ws.heap.size Ws ((U2.setRow r2 #[.int .i64 A.ty, .int .i64 A.n, .string (strOf A.t), .bool A.b]).setRow r1 #[.int .i64 B.ty, .int .i64 B.n, .string (strOf B.t), .bool B.b]) := below_setRow s1 g1 _
          have tb : Box (U2.setRow r2 #[.int .i64 A.ty, .int .i64 A.n, .string (strOf A.t), .bool A.b]) r1 Vl.zero := f1'.other _ (fun e => ne e)
          have ua : Box ((U2.setRow r2 #[.int .i64 A.ty, .int .i64 A.n, .string (strOf A.t), .bool A.b]).setRow r1 #[.int .i64 B.ty, .int .i64 B.n, .string (strOf B.t), .bool B.b]) r2 A := (Box.after f2 A).other _ (fun e => ne.symm e)
          have ub : Box ((U2.setRow r2 #[.int .i64 A.ty, .int .i64 A.n, .string (strOf A.t), .bool A.b]).setRow r1 #[.int .i64 B.ty, .int .i64 B.n, .string (strOf B.t), .bool B.b]) r1 B := Box.after tb B
          refine step_store_to 12 (U2.setRow r2 #[.int .i64 A.ty, .int .i64 A.n, .string (strOf A.t), .bool A.b]) rfl (by kernel_rfl) rfl (by rfl) 23 (.tmp 11) (.tmp 57) rfl _ _ rfl rfl (store_val f2 A) ⟨HCA.out _ s1, HCB.out _ s1⟩ ?_
          refine step_store_to 13 ((U2.setRow r2 #[.int .i64 A.ty, .int .i64 A.n, .string (strOf A.t), .bool A.b]).setRow r1 #[.int .i64 B.ty, .int .i64 B.n, .string (strOf B.t), .bool B.b]) rfl (by kernel_rfl) rfl (by rfl) 23 (.tmp 12) (.tmp 62) rfl _ _ rfl rfl (store_val tb B) ⟨HCA.out _ s2, HCB.out _ s2⟩ ?_
          refine wpAnyH_done (by kernel_rfl) ?_ _
          exact ⟨rfl, _, _, ⟨ua, ub, s2⟩, rfl⟩
      case cont =>
        rintro e a' W5 ⟨rfl, p11, p12, ⟨hA, hB, hb⟩, ha'⟩
        rw [ha', ha0]
        simp only [Act.put, List.setIfInBounds_toArray, List.set_cons_zero, List.set_cons_succ]
        clear ha' ha0 hd0
        have HA := hide hA
        have HB := hide hB
        have H5 := hide hb
        clear hA hB hb HW
        have HLS : Hid (∀ op : Int, 9 ≤ op ∧ op ≤ 14 → ∀ W, Calls Tryd.prog 12 #[.int .i64 op, .agg #[.int .i64 A.ty, .int .i64 A.n, .string (strOf A.t), .bool A.b], .agg #[.int .i64 B.ty, .int .i64 B.n, .string (strOf B.t), .bool B.b]] W fun e w' => e = .returned (.tuple #[.agg #[.int .i64 3, .int .i64 0, .string { data := #[] }, .bool (holdsB op (cmpV A B))], .int .i64 0]) ∧ Below W.heap.size W w') := fun op ho W => by
          have h := less_any op A B W
          rw [HP.out.op ho] at h
          exact h
        have HLZ : Hid (∀ op : Int, 9 ≤ op ∧ op ≤ 14 → ∀ W, Calls Tryd.prog 12 #[.int .i64 op, .agg #[.int .i64 A.ty, .int .i64 A.n, .string (strOf A.t), .bool A.b], .agg #[.int .i64 0, .int .i64 0, .string { data := #[] }, .bool false]] W fun e w' => e = .returned (.tuple #[.agg #[.int .i64 0, .int .i64 0, .string { data := #[] }, .bool false], .int .i64 0]) ∧ Below W.heap.size W w') := fun op ho W => by
          have h := less_any op A Vl.zero W
          rw [Pair.null A ho] at h
          exact h
        have HLN : Hid (∀ W, Calls Tryd.prog 12 #[.int .i64 9, .agg #[.int .i64 A.ty, .int .i64 A.n, .string (strOf A.t), .bool A.b], .agg #[.int .i64 N.ty, .int .i64 N.n, .string (strOf N.t), .bool N.b]] W fun e w' => e = .returned (.tuple #[.agg #[.int .i64 0, .int .i64 0, .string { data := #[] }, .bool false], .int .i64 160]) ∧ Below W.heap.size W w') := fun W => by
          have h := less_any 9 A N W
          rw [HP.out.step] at h
          exact h
        have HLE := hide HP.out.less
        have HWA := hide HP.out.wa
        have HWB := hide HP.out.wb
        have HSA := hide HP.out.la
        have HSB := hide HP.out.lb
        clear HP
        generalize cmpV A B = c at *
        have HZZ : Hid (∀ W, (binOp .neq 23 (.agg #[.int .i64 0, .int .i64 0, .string { data := #[] }, .bool false]) (.agg #[.int .i64 0, .int .i64 0, .string { data := #[] }, .bool false])).run Tryd.prog W = .ok (.bool false) W) := fun W => run_neqVV W Vl.zero
        go_upto_region 8 with fail
        go_loopw [14, 13] (fun op n wr2 => ∃ (k : Nat) (o : Int), k ≤ 6 ∧ o = 9 + (k : Int) ∧ op = .int .i64 o ∧ n = .int .i64 (cnt c k) ∧ Below W5.heap.size W5 wr2) (fun op _ _ => 15 - (intOf op).toNat)
        case atStart => exact ⟨0, 9, by omega, rfl, rfl, rfl, Below.refl _ _⟩
        case round =>
          obtain ⟨k, o, hk, ho, rfl, rfl, hW2⟩ := hrel
          have HW2 := hide hW2
          clear hW2
          by_cases hk6 : k < 6
          · have ho' : 9 ≤ o ∧ o ≤ 14 := by omega
            have HL1 := hide (HLS.out o ho')
            have HL2 := hide (HLZ.out o ho')
            obtain ⟨bk, hbk⟩ : ∃ bk, holdsB o c = bk := ⟨_, rfl⟩
            rw [hbk] at HL1
            have HBK := hide hbk
            have HO := hide ho
            have HO' := hide ho'
            have HK6 := hide hk6
            clear hbk ho ho' hk6 hk
            have HXA := hide (HA.out.belowW HW2.out)
            have HXB := hide (HB.out.belowW HW2.out)
            obtain ⟨x0, x1, x2, x3⟩ := HXA.out.cells
            obtain ⟨y0, y1, y2, y3⟩ := HXB.out.cells
            have i1 : o ≤ 14 := HO'.out.2
            go_upto_region 11 with (go_at_call 12; refine (HL1.out _).mono ?_; rintro e W6 ⟨rfl, hb6⟩; have HB6 := hide hb6; clear hb6)
            have HB7 := hide (allocW (thenW HW2.out HB6.out) (.cells #[.int .i64 3, .int .i64 0, .string { data := #[] }, .bool bk] 23))
            have HX15 : Hid (Box (W6.alloc (.cells #[.int .i64 3, .int .i64 0, .string { data := #[] }, .bool bk] 23)) W6.heap.size (bV bk)) := heap_alloc_new _ _
            generalize W6.alloc (.cells #[.int .i64 3, .int .i64 0, .string { data := #[] }, .bool bk] 23) = W7 at *
            generalize W6.heap.size = p15 at *
            clear x0 x1 x2 x3 y0 y1 y2 y3 HXA HXB HB6 HW2 HL1
            have HXA := hide (HA.out.belowW HB7.out)
            obtain ⟨x0, x1, x2, x3⟩ := HXA.out.cells
            go_upto_region 12 with (go_at_call 12; refine (HL2.out _).mono ?_; rintro e W8 ⟨rfl, hb8⟩; have HB8 := hide hb8; clear hb8)
            have HB9 := hide (allocW (thenW HB7.out HB8.out) (.cells #[.int .i64 0, .int .i64 0, .string { data := #[] }, .bool false] 23))
            have HX17 : Hid (Box (W8.alloc (.cells #[.int .i64 0, .int .i64 0, .string { data := #[] }, .bool false] 23)) W8.heap.size Vl.zero) := heap_alloc_new _ _
            have HX15' := hide ((HX15.out.belowW HB8.out).belowW ((Below.refl _ _).alloc (Nat.le_refl _) (.cells #[.int .i64 0, .int .i64 0, .string { data := #[] }, .bool false] 23)))
            generalize W8.alloc (.cells #[.int .i64 0, .int .i64 0, .string { data := #[] }, .bool false] 23) = W9 at *
            generalize W8.heap.size = p17 at *
            clear x0 x1 x2 x3 HXA HB8 HB7 HL2 HX15
            obtain ⟨x0, x1, x2, x3⟩ : W9.cell? ⟨p15, 0, none⟩ = some (.int .i64 3) ∧ W9.cell? ⟨p15, 1, none⟩ = some (.int .i64 0) ∧ W9.cell? ⟨p15, 2, none⟩ = some (.string { data := #[] }) ∧ W9.cell? ⟨p15, 3, none⟩ = some (.bool bk) := HX15'.out.cells
            obtain ⟨y0, y1, y2, y3⟩ : W9.cell? ⟨p17, 0, none⟩ = some (.int .i64 0) ∧ W9.cell? ⟨p17, 1, none⟩ = some (.int .i64 0) ∧ W9.cell? ⟨p17, 2, none⟩ = some (.string { data := #[] }) ∧ W9.cell? ⟨p17, 3, none⟩ = some (.bool false) := HX17.out.cells
            have hzz := HZZ.out
            clear i1
            go_upto_region 14 with fail
            clear hzz y0 y1 y2 y3 HX17 HX15'
            have hc0 := cnt_small c k
            have hs : cnt c (k + 1) = cnt c k + (if (k = 0 ∨ k = 2 ∨ k = 4) ∧ bk = true then 1 else 0) := by rw [← HBK.out, HO.out]; rfl
            obtain ⟨n1, hn1⟩ : ∃ n1, cnt c (k + 1) = n1 := ⟨_, rfl⟩
            obtain ⟨n0, hn0⟩ : ∃ n0, cnt c k = n0 := ⟨_, rfl⟩
            rw [hn0] at hs hc0
            rw [hn1] at hs
            rw [hn0]
            have HS := hide hs
            have HC := hide hc0
            have HN1 := hide hn1
            have HN0 := hide hn0
            clear hs hc0 HBK hn1 hn0
            rcases (show (o = 9 ∧ k = 0) ∨ (o = 10 ∧ k = 1) ∨ (o = 11 ∧ k = 2) ∨ (o = 12 ∧ k = 3) ∨ (o = 13 ∧ k = 4) ∨ (o = 14 ∧ k = 5) by have := HO.out; have := HK6.out; omega) with ⟨rfl, rfl⟩ | ⟨rfl, rfl⟩ | ⟨rfl, rfl⟩ | ⟨rfl, rfl⟩ | ⟨rfl, rfl⟩ | ⟨rfl, rfl⟩
            · clear HO HO' HK6
              rcases bk with _ | _
              · have hn : n1 = n0 + 0 := by have h := HS.out; simp at h; omega
                have hm := HC.out
                clear HS HC
                subst hn
                go_wp2
                refine ⟨⟨1, 10, by omega, rfl, rfl, ?_, HB9.out⟩, ?_⟩
                · have e : cnt c 1 = n0 + 0 := HN1.out
                  rw [e]
                  congr 1 <;> first | omega | (rw [IntKind.wrap_i64]; omega) | (unfold wrap64; omega)
                · exact (by decide : 15 - (10 : Int).toNat < 15 - (9 : Int).toNat)
              · have hn : n1 = n0 + 1 := by have h := HS.out; simp at h; omega
                have hm := HC.out
                clear HS HC
                subst hn
                go_wp2
                refine ⟨⟨1, 10, by omega, rfl, rfl, ?_, HB9.out⟩, ?_⟩
                · have e : cnt c 1 = n0 + 1 := HN1.out
                  rw [e]
                · exact (by decide : 15 - (10 : Int).toNat < 15 - (9 : Int).toNat)
            · clear HO HO' HK6
              rcases bk with _ | _
              · have hn : n1 = n0 + 0 := by have h := HS.out; simp at h; omega
                have hm := HC.out
                clear HS HC
                subst hn
                go_wp2
                refine ⟨⟨2, 11, by omega, rfl, rfl, ?_, HB9.out⟩, ?_⟩
                · have e : cnt c 2 = n0 + 0 := HN1.out
                  rw [e]
                  congr 1 <;> first | omega | (rw [IntKind.wrap_i64]; omega) | (unfold wrap64; omega)
                · exact (by decide : 15 - (11 : Int).toNat < 15 - (10 : Int).toNat)
              · have hn : n1 = n0 + 0 := by have h := HS.out; simp at h; omega
                have hm := HC.out
                clear HS HC
                subst hn
                go_wp2
                refine ⟨⟨2, 11, by omega, rfl, rfl, ?_, HB9.out⟩, ?_⟩
                · have e : cnt c 2 = n0 + 0 := HN1.out
                  rw [e]
                  congr 1 <;> first | omega | (rw [IntKind.wrap_i64]; omega) | (unfold wrap64; omega)
                · exact (by decide : 15 - (11 : Int).toNat < 15 - (10 : Int).toNat)
            · clear HO HO' HK6
              rcases bk with _ | _
              · have hn : n1 = n0 + 0 := by have h := HS.out; simp at h; omega
                have hm := HC.out
                clear HS HC
                subst hn
                go_wp2
                refine ⟨⟨3, 12, by omega, rfl, rfl, ?_, HB9.out⟩, ?_⟩
                · have e : cnt c 3 = n0 + 0 := HN1.out
                  rw [e]
                  congr 1 <;> first | omega | (rw [IntKind.wrap_i64]; omega) | (unfold wrap64; omega)
                · exact (by decide : 15 - (12 : Int).toNat < 15 - (11 : Int).toNat)
              · have hn : n1 = n0 + 1 := by have h := HS.out; simp at h; omega
                have hm := HC.out
                clear HS HC
                subst hn
                go_wp2
                refine ⟨⟨3, 12, by omega, rfl, rfl, ?_, HB9.out⟩, ?_⟩
                · have e : cnt c 3 = n0 + 1 := HN1.out
                  rw [e]
                · exact (by decide : 15 - (12 : Int).toNat < 15 - (11 : Int).toNat)
            · clear HO HO' HK6
              rcases bk with _ | _
              · have hn : n1 = n0 + 0 := by have h := HS.out; simp at h; omega
                have hm := HC.out
                clear HS HC
                subst hn
                go_wp2
                refine ⟨⟨4, 13, by omega, rfl, rfl, ?_, HB9.out⟩, ?_⟩
                · have e : cnt c 4 = n0 + 0 := HN1.out
                  rw [e]
                  congr 1 <;> first | omega | (rw [IntKind.wrap_i64]; omega) | (unfold wrap64; omega)
                · exact (by decide : 15 - (13 : Int).toNat < 15 - (12 : Int).toNat)
              · have hn : n1 = n0 + 0 := by have h := HS.out; simp at h; omega
                have hm := HC.out
                clear HS HC
                subst hn
                go_wp2
                refine ⟨⟨4, 13, by omega, rfl, rfl, ?_, HB9.out⟩, ?_⟩
                · have e : cnt c 4 = n0 + 0 := HN1.out
                  rw [e]
                  congr 1 <;> first | omega | (rw [IntKind.wrap_i64]; omega) | (unfold wrap64; omega)
                · exact (by decide : 15 - (13 : Int).toNat < 15 - (12 : Int).toNat)
            · clear HO HO' HK6
              rcases bk with _ | _
              · have hn : n1 = n0 + 0 := by have h := HS.out; simp at h; omega
                have hm := HC.out
                clear HS HC
                subst hn
                go_wp2
                refine ⟨⟨5, 14, by omega, rfl, rfl, ?_, HB9.out⟩, ?_⟩
                · have e : cnt c 5 = n0 + 0 := HN1.out
                  rw [e]
                  congr 1 <;> first | omega | (rw [IntKind.wrap_i64]; omega) | (unfold wrap64; omega)
                · exact (by decide : 15 - (14 : Int).toNat < 15 - (13 : Int).toNat)
              · have hn : n1 = n0 + 1 := by have h := HS.out; simp at h; omega
                have hm := HC.out
                clear HS HC
                subst hn
                go_wp2
                refine ⟨⟨5, 14, by omega, rfl, rfl, ?_, HB9.out⟩, ?_⟩
                · have e : cnt c 5 = n0 + 1 := HN1.out
                  rw [e]
                · exact (by decide : 15 - (14 : Int).toNat < 15 - (13 : Int).toNat)
            · clear HO HO' HK6
              rcases bk with _ | _
              · have hn : n1 = n0 + 0 := by have h := HS.out; simp at h; omega
                have hm := HC.out
                clear HS HC
                subst hn
                go_wp2
                refine ⟨⟨6, 15, by omega, rfl, rfl, ?_, HB9.out⟩, ?_⟩
                · have e : cnt c 6 = n0 + 0 := HN1.out
                  rw [e]
                  congr 1 <;> first | omega | (rw [IntKind.wrap_i64]; omega) | (unfold wrap64; omega)
                · exact (by decide : 15 - (15 : Int).toNat < 15 - (14 : Int).toNat)
              · have hn : n1 = n0 + 0 := by have h := HS.out; simp at h; omega
                have hm := HC.out
                clear HS HC
                subst hn
                go_wp2
                refine ⟨⟨6, 15, by omega, rfl, rfl, ?_, HB9.out⟩, ?_⟩
                · have e : cnt c 6 = n0 + 0 := HN1.out
                  rw [e]
                  congr 1 <;> first | omega | (rw [IntKind.wrap_i64]; omega) | (unfold wrap64; omega)
                · exact (by decide : 15 - (15 : Int).toNat < 15 - (14 : Int).toNat)
          · obtain rfl : k = 6 := by omega
            obtain rfl : o = 15 := by omega
            clear hk hk6 ho
            rw [cnt_six]
            have HW0 := hide (thenW H5.out HW2.out)
            have HA0 := hide (HA.out.belowW HW2.out)
            have HB0 := hide (HB.out.belowW HW2.out)
            have HL11 := hide (HLS.out 11 (by omega))
            have HL14 := hide (HLS.out 14 (by omega))
            have HL10 := hide (HLS.out 10 (by omega))
            have HL9 := hide (HLS.out 9 (by omega))
            have hge := holds_ge c
            have hne := holds_ne c
            have hle := HLE.out
            generalize holdsB 11 c = bl at *
            generalize holdsB 14 c = bg at *
            generalize holdsB 10 c = bn at *
            generalize holdsB 9 c = be at *
            have HGE := hide hge
            have HNE := hide hne
            clear hge hne hle HLS HLZ HW2 HA HB H5
            generalize wr = W0 at *
            obtain ⟨x0, x1, x2, x3⟩ := HA0.out.cells
            obtain ⟨y0, y1, y2, y3⟩ := HB0.out.cells
            go_upto_region 17 with (go_at_call 12; refine (HL11.out _).mono ?_; rintro e V1 ⟨rfl, hb⟩; have HV1 := hide hb; clear hb)
            have HW1 := hide (allocW (thenW HW0.out HV1.out) (.cells #[.int .i64 3, .int .i64 0, .string { data := #[] }, .bool bl] 23))
            have HT1 := hide (allocW HV1.out (.cells #[.int .i64 3, .int .i64 0, .string { data := #[] }, .bool bl] 23))
            have HA1 := hide (HA0.out.belowW HT1.out)
            have HB1 := hide (HB0.out.belowW HT1.out)
            have HX19_1 : Hid (Box (V1.alloc (.cells #[.int .i64 3, .int .i64 0, .string { data := #[] }, .bool bl] 23)) V1.heap.size (bV bl)) := heap_alloc_new _ _
            clear x0 x1 x2 x3 y0 y1 y2 y3 HW0 HA0 HB0 HV1 HT1 HL11 
            generalize V1.alloc (.cells #[.int .i64 3, .int .i64 0, .string { data := #[] }, .bool bl] 23) = W1q at *
            generalize V1.heap.size = p19 at *
            obtain ⟨x0, x1, x2, x3⟩ := HA1.out.cells
            obtain ⟨y0, y1, y2, y3⟩ := HB1.out.cells
            go_upto_region 18 with (go_at_call 12; refine (HL14.out _).mono ?_; rintro e V2 ⟨rfl, hb⟩; have HV2 := hide hb; clear hb)
            have HW2 := hide (allocW (thenW HW1.out HV2.out) (.cells #[.int .i64 3, .int .i64 0, .string { data := #[] }, .bool bg] 23))
            have HT2 := hide (allocW HV2.out (.cells #[.int .i64 3, .int .i64 0, .string { data := #[] }, .bool bg] 23))
            have HA2 := hide (HA1.out.belowW HT2.out)
            have HB2 := hide (HB1.out.belowW HT2.out)
            have HX19_2 := hide (HX19_1.out.belowW HT2.out)
            have HX21_2 : Hid (Box (V2.alloc (.cells #[.int .i64 3, .int .i64 0, .string { data := #[] }, .bool bg] 23)) V2.heap.size (bV bg)) := heap_alloc_new _ _
            clear x0 x1 x2 x3 y0 y1 y2 y3 HW1 HA1 HB1 HV2 HT2 HL14 HX19_1
            generalize V2.alloc (.cells #[.int .i64 3, .int .i64 0, .string { data := #[] }, .bool bg] 23) = W2q at *
            generalize V2.heap.size = p21 at *
            obtain ⟨x0, x1, x2, x3⟩ := HA2.out.cells
            obtain ⟨y0, y1, y2, y3⟩ := HB2.out.cells
            go_upto_region 19 with (go_at_call 12; refine (HL10.out _).mono ?_; rintro e V3 ⟨rfl, hb⟩; have HV3 := hide hb; clear hb)
            have HW3 := hide (allocW (thenW HW2.out HV3.out) (.cells #[.int .i64 3, .int .i64 0, .string { data := #[] }, .bool bn] 23))
            have HT3 := hide (allocW HV3.out (.cells #[.int .i64 3, .int .i64 0, .string { data := #[] }, .bool bn] 23))
            have HA3 := hide (HA2.out.belowW HT3.out)
            have HB3 := hide (HB2.out.belowW HT3.out)
            have HX19_3 := hide (HX19_2.out.belowW HT3.out)
            have HX21_3 := hide (HX21_2.out.belowW HT3.out)
            have HX23_3 : Hid (Box (V3.alloc (.cells #[.int .i64 3, .int .i64 0, .string { data := #[] }, .bool bn] 23)) V3.heap.size (bV bn)) := heap_alloc_new _ _
            clear x0 x1 x2 x3 y0 y1 y2 y3 HW2 HA2 HB2 HV3 HT3 HL10 HX19_2 HX21_2
            generalize V3.alloc (.cells #[.int .i64 3, .int .i64 0, .string { data := #[] }, .bool bn] 23) = W3q at *
            generalize V3.heap.size = p23 at *
            obtain ⟨x0, x1, x2, x3⟩ := HA3.out.cells
            obtain ⟨y0, y1, y2, y3⟩ := HB3.out.cells
            go_upto_region 20 with (go_at_call 12; refine (HL9.out _).mono ?_; rintro e V4 ⟨rfl, hb⟩; have HV4 := hide hb; clear hb)
            have HW4 := hide (allocW (thenW HW3.out HV4.out) (.cells #[.int .i64 3, .int .i64 0, .string { data := #[] }, .bool be] 23))
            have HT4 := hide (allocW HV4.out (.cells #[.int .i64 3, .int .i64 0, .string { data := #[] }, .bool be] 23))
            have HA4 := hide (HA3.out.belowW HT4.out)
            have HB4 := hide (HB3.out.belowW HT4.out)
            have HX19_4 := hide (HX19_3.out.belowW HT4.out)
            have HX21_4 := hide (HX21_3.out.belowW HT4.out)
            have HX23_4 := hide (HX23_3.out.belowW HT4.out)
            have HX25_4 : Hid (Box (V4.alloc (.cells #[.int .i64 3, .int .i64 0, .string { data := #[] }, .bool be] 23)) V4.heap.size (bV be)) := heap_alloc_new _ _
            clear x0 x1 x2 x3 y0 y1 y2 y3 HW3 HA3 HB3 HV4 HT4 HL9 HX19_3 HX21_3 HX23_3
            generalize V4.alloc (.cells #[.int .i64 3, .int .i64 0, .string { data := #[] }, .bool be] 23) = W4q at *
            generalize V4.heap.size = p25 at *
            have hS := B6.belowW (⟨HA4.out, HB4.out, HX19_4.out, HX21_4.out, HX23_4.out, HX25_4.out⟩ : B6 W4q p11 p12 p19 p21 p23 p25 A B bl bg bn be) (below_drewN _ _ 1)
            have hd4 : Below Ws.heap.size Ws W4q.drew := thenW HW4.out (below_drewN _ _ 1)
            clear HA4 HB4 HX19_4 HX21_4 HX23_4 HX25_4
            refine wp_region_held_drew (S := fun w' => B6 w' p11 p12 p19 p21 p23 p25 A B bl bg bn be) (by kernel_rfl) hS (fun hH => ?_)
            refine take_to 0 137 (.int .i64 1) rfl (by kernel_rfl) (by kernel_rfl) (by kernel_rfl) (fun _ _ _ h => h) rfl (by rfl) (fun w hw => by rfl) hH ?_
            simp only [Act.put, List.setIfInBounds_toArray, List.set_cons_zero, List.set_cons_succ]
            refine take_to 1 138 (.bool false) rfl (by kernel_rfl) (by kernel_rfl) (by kernel_rfl) (fun _ _ _ h => h) rfl (by rfl) (fun w hw => op_neq3 _ _ (.tmp 137) (.const (.int .i64 1)) _ rfl 1 1 rfl rfl false rfl) hH ?_
            simp only [Act.put, List.setIfInBounds_toArray, List.set_cons_zero, List.set_cons_succ]
            refine take_to 2 139 (.bool false) rfl (by kernel_rfl) (by kernel_rfl) (by kernel_rfl) (fun _ _ _ h => h) rfl (by rfl) (fun w hw => by rfl) hH ?_
            simp only [Act.put, List.setIfInBounds_toArray, List.set_cons_zero, List.set_cons_succ]
            refine take_to 3 140 (.pointer (some ⟨p19, 3, none⟩)) rfl (by kernel_rfl) (by kernel_rfl) (by kernel_rfl) (fun _ _ _ h => h) rfl (by rfl) (fun w hw => by rfl) hH ?_
            simp only [Act.put, List.setIfInBounds_toArray, List.set_cons_zero, List.set_cons_succ]
            refine take_to 4 141 (.bool bl) rfl (by kernel_rfl) (by kernel_rfl) (by kernel_rfl) (fun _ _ _ h => h) rfl (by rfl) (fun w hw => op_load _ _ 4 (.tmp 140) rfl (.pointer (some ⟨p19, 3, none⟩)) _ rfl (op_bool3 _ _ _ hw.x)) hH ?_
            simp only [Act.put, List.setIfInBounds_toArray, List.set_cons_zero, List.set_cons_succ]
            refine take_to 5 142 (.pointer (some ⟨p21, 3, none⟩)) rfl (by kernel_rfl) (by kernel_rfl) (by kernel_rfl) (fun _ _ _ h => h) rfl (by rfl) (fun w hw => by rfl) hH ?_
            simp only [Act.put, List.setIfInBounds_toArray, List.set_cons_zero, List.set_cons_succ]
            refine take_to 6 143 (.bool bg) rfl (by kernel_rfl) (by kernel_rfl) (by kernel_rfl) (fun _ _ _ h => h) rfl (by rfl) (fun w hw => op_load _ _ 4 (.tmp 142) rfl (.pointer (some ⟨p21, 3, none⟩)) _ rfl (op_bool3 _ _ _ hw.y)) hH ?_
            simp only [Act.put, List.setIfInBounds_toArray, List.set_cons_zero, List.set_cons_succ]
            refine take_to 7 144 (.bool false) rfl (by kernel_rfl) (by kernel_rfl) (by kernel_rfl) (fun _ _ _ h => h) rfl (by rfl) (fun w hw => op_beq4 _ _ (.tmp 141) (.tmp 143) _ rfl bl bg rfl rfl false (by rw [HGE.out]; cases bl <;> rfl)) hH ?_
            simp only [Act.put, List.setIfInBounds_toArray, List.set_cons_zero, List.set_cons_succ]
            refine take_to 8 145 (.bool false) rfl (by kernel_rfl) (by kernel_rfl) (by kernel_rfl) (fun _ _ _ h => h) rfl (by rfl) (fun w hw => by rfl) hH ?_
            simp only [Act.put, List.setIfInBounds_toArray, List.set_cons_zero, List.set_cons_succ]
            refine take_to 9 146 (.bool false) rfl (by kernel_rfl) (by kernel_rfl) (by kernel_rfl) (fun _ _ _ h => h) rfl (by rfl) (fun w hw => by rfl) hH ?_
            simp only [Act.put, List.setIfInBounds_toArray, List.set_cons_zero, List.set_cons_succ]
            refine take_to 10 147 (.pointer (some ⟨p23, 3, none⟩)) rfl (by kernel_rfl) (by kernel_rfl) (by kernel_rfl) (fun _ _ _ h => h) rfl (by rfl) (fun w hw => by rfl) hH ?_
            simp only [Act.put, List.setIfInBounds_toArray, List.set_cons_zero, List.set_cons_succ]
            refine take_to 11 148 (.bool bn) rfl (by kernel_rfl) (by kernel_rfl) (by kernel_rfl) (fun _ _ _ h => h) rfl (by rfl) (fun w hw => op_load _ _ 4 (.tmp 147) rfl (.pointer (some ⟨p23, 3, none⟩)) _ rfl (op_bool3 _ _ _ hw.z)) hH ?_
            simp only [Act.put, List.setIfInBounds_toArray, List.set_cons_zero, List.set_cons_succ]
            refine take_to 12 149 (.pointer (some ⟨p25, 3, none⟩)) rfl (by kernel_rfl) (by kernel_rfl) (by kernel_rfl) (fun _ _ _ h => h) rfl (by rfl) (fun w hw => by rfl) hH ?_
            simp only [Act.put, List.setIfInBounds_toArray, List.set_cons_zero, List.set_cons_succ]
            refine take_to 13 150 (.bool be) rfl (by kernel_rfl) (by kernel_rfl) (by kernel_rfl) (fun _ _ _ h => h) rfl (by rfl) (fun w hw => op_load _ _ 4 (.tmp 149) rfl (.pointer (some ⟨p25, 3, none⟩)) _ rfl (op_bool3 _ _ _ hw.u)) hH ?_
            simp only [Act.put, List.setIfInBounds_toArray, List.set_cons_zero, List.set_cons_succ]
            refine take_to 14 151 (.bool false) rfl (by kernel_rfl) (by kernel_rfl) (by kernel_rfl) (fun _ _ _ h => h) rfl (by rfl) (fun w hw => op_beq4 _ _ (.tmp 148) (.tmp 150) _ rfl bn be rfl rfl false (by rw [HNE.out]; cases be <;> rfl)) hH ?_
            simp only [Act.put, List.setIfInBounds_toArray, List.set_cons_zero, List.set_cons_succ]
            refine take_to 15 152 (.bool false) rfl (by kernel_rfl) (by kernel_rfl) (by kernel_rfl) (fun _ _ _ h => h) rfl (by rfl) (fun w hw => by rfl) hH ?_
            simp only [Act.put, List.setIfInBounds_toArray, List.set_cons_zero, List.set_cons_succ]
            refine take_to 16 153 (.bool false) rfl (by kernel_rfl) (by kernel_rfl) (by kernel_rfl) (fun _ _ _ h => h) rfl (by rfl) (fun w hw => by rfl) hH ?_
            simp only [Act.put, List.setIfInBounds_toArray, List.set_cons_zero, List.set_cons_succ]
            refine take_to 17 154 (.pointer (some ⟨p19, 3, none⟩)) rfl (by kernel_rfl) (by kernel_rfl) (by kernel_rfl) (fun _ _ _ h => h) rfl (by rfl) (fun w hw => by rfl) hH ?_
            simp only [Act.put, List.setIfInBounds_toArray, List.set_cons_zero, List.set_cons_succ]
            refine take_to 18 155 (.bool bl) rfl (by kernel_rfl) (by kernel_rfl) (by kernel_rfl) (fun _ _ _ h => h) rfl (by rfl) (fun w hw => op_load _ _ 4 (.tmp 154) rfl (.pointer (some ⟨p19, 3, none⟩)) _ rfl (op_bool3 _ _ _ hw.x)) hH ?_
            simp only [Act.put, List.setIfInBounds_toArray, List.set_cons_zero, List.set_cons_succ]
            refine take_to 19 156 (.agg #[.int .i64 A.ty, .int .i64 A.n, .string (strOf A.t), .bool A.b]) rfl (by kernel_rfl) (by kernel_rfl) (by kernel_rfl) (fun _ _ _ h => h) rfl (by rfl) (fun w hw => op_load _ _ 23 (.tmp 11) rfl (.pointer (some ⟨p11, 0, none⟩)) _ rfl (load23 hw.a)) hH ?_
            simp only [Act.put, List.setIfInBounds_toArray, List.set_cons_zero, List.set_cons_succ]
            refine take_to 22 159 (.agg #[.int .i64 B.ty, .int .i64 B.n, .string (strOf B.t), .bool B.b]) rfl (by kernel_rfl) (by kernel_rfl) (by kernel_rfl) (fun _ _ _ h => h) rfl (by rfl) (fun w hw => op_load _ _ 23 (.tmp 12) rfl (.pointer (some ⟨p12, 0, none⟩)) _ rfl (load23 hw.b)) hH ?_
            simp only [Act.put, List.setIfInBounds_toArray, List.set_cons_zero, List.set_cons_succ]
            generalize W4q.drew = U0 at *
            refine step_call1_to 20 157 13 rfl (by kernel_rfl) rfl (by rfl) (.tmp 156) _ rfl _ rfl Tryd.enters13 (encode_any U0 U0 (Below.refl _ _) A HWA.out HSA.out) ?_
            rintro e U1 ⟨u1, rfl, hB1, _⟩
            have s1 := hH.belowW hB1.below
            have hd5 := thenW hd4 hB1.below
            obtain ⟨a1, c1, e1, _, _⟩ := hB1.sl.len
            subst e1
            refine ⟨_, rfl, s1, ?_⟩
            simp only [Act.put, List.setIfInBounds_toArray, List.set_cons_zero, List.set_cons_succ]
            refine wpAnyH_strong (S' := fun w' => B6 w' p11 p12 p19 p21 p23 p25 A B bl bg bn be ∧ Sl w' (.slice a1 (enc A).length c1) (enc A)) (fun _ h => h.1) _ _ _ _ ?_
            have s1' := And.intro s1 hB1.sl
            refine take_to 21 158 (.string (strOf (enc A))) rfl (by kernel_rfl) (by kernel_rfl) (by kernel_rfl) (fun _ _ _ h => h) rfl (by rfl) (fun w hw => op_conv _ _ 32 9 (.tmp 157) rfl _ _ rfl (run_str hw.2)) s1' ?_
            simp only [Act.put, List.setIfInBounds_toArray, List.set_cons_zero, List.set_cons_succ]
            refine step_call1_to 23 160 13 rfl (by kernel_rfl) rfl (by rfl) (.tmp 159) _ rfl _ rfl Tryd.enters13 (encode_any U1 U1 (Below.refl _ _) B HWB.out HSB.out) ?_
            rintro e U2 ⟨u2, rfl, hB2, _⟩
            have s2 : B6 U2 p11 p12 p19 p21 p23 p25 A B bl bg bn be ∧ Sl U2 (.slice a1 (enc A).length c1) (enc A) := ⟨s1.belowW hB2.below, hB1.sl.belowW hB2.below⟩
            have hd6 := thenW hd5 hB2.below
            obtain ⟨a2, c2, e2, _, _⟩ := hB2.sl.len
            subst e2
            refine ⟨_, rfl, s2, ?_⟩
            simp only [Act.put, List.setIfInBounds_toArray, List.set_cons_zero, List.set_cons_succ]
            refine wpAnyH_strong (S' := fun w' => (B6 w' p11 p12 p19 p21 p23 p25 A B bl bg bn be ∧ Sl w' (.slice a1 (enc A).length c1) (enc A)) ∧ Sl w' (.slice a2 (enc B).length c2) (enc B)) (fun _ h => h.1) _ _ _ _ ?_
            have s2' := And.intro s2 hB2.sl
            refine take_to 24 161 (.string (strOf (enc B))) rfl (by kernel_rfl) (by kernel_rfl) (by kernel_rfl) (fun _ _ _ h => h) rfl (by rfl) (fun w hw => op_conv _ _ 32 9 (.tmp 160) rfl _ _ rfl (run_str hw.2)) s2' ?_
            simp only [Act.put, List.setIfInBounds_toArray, List.set_cons_zero, List.set_cons_succ]
            refine take_to 25 162 (.bool bl) rfl (by kernel_rfl) (by kernel_rfl) (by kernel_rfl) (fun _ _ _ h => h) rfl (by rfl) (fun w hw => op_lss9 _ _ (.tmp 158) (.tmp 161) _ rfl (enc A) (enc B) rfl rfl bl HLE.out.symm) s2' ?_
            simp only [Act.put, List.setIfInBounds_toArray, List.set_cons_zero, List.set_cons_succ]
            refine take_to 26 163 (.bool false) rfl (by kernel_rfl) (by kernel_rfl) (by kernel_rfl) (fun _ _ _ h => h) rfl (by rfl) (fun w hw => op_bne4 _ _ (.tmp 155) (.tmp 162) _ rfl bl bl rfl rfl false (by cases bl <;> rfl)) s2' ?_
            simp only [Act.put, List.setIfInBounds_toArray, List.set_cons_zero, List.set_cons_succ]
            refine take_to 27 164 (.bool false) rfl (by kernel_rfl) (by kernel_rfl) (by kernel_rfl) (fun _ _ _ h => h) rfl (by rfl) (fun w hw => by rfl) s2' ?_
            simp only [Act.put, List.setIfInBounds_toArray, List.set_cons_zero, List.set_cons_succ]
            refine wpAnyH_done (by kernel_rfl) ?_ _
            have HA9 := hide s2.1.a
            have HW9 := hide hd6
            clear s1 s1' s2 s2' hB1 hB2 hd4 hd5 hd6 hS hH HW4 HWA HWB HSA HSB HGE HNE HLE
            go_upto_region 22 with fail
            have hd7 : Below Ws.heap.size Ws U2.drew := thenW HW9.out (below_drewN _ _ 1)
            refine wp_region_held_drew (S := fun w' => Box w' p11 A ∧ CellsAt w' g (nextI j * 8) N) (by kernel_rfl) ⟨HA9.out.belowW (below_drewN _ _ 1), HCN.out _ hd7⟩ (fun hH => ?_)
            refine take_to 0 166 (.agg #[.int .i64 A.ty, .int .i64 A.n, .string (strOf A.t), .bool A.b]) rfl (by kernel_rfl) (by kernel_rfl) (by kernel_rfl) (fun _ _ _ h => h) rfl (by rfl) (fun w hw => op_load _ _ 23 (.tmp 11) rfl (.pointer (some ⟨p11, 0, none⟩)) _ rfl (load23 hw.1)) hH ?_
            simp only [Act.put, List.setIfInBounds_toArray, List.set_cons_zero, List.set_cons_succ]
            refine take_to 1 167 (.slice (some ⟨g, 0, none⟩) 3 3) rfl (by kernel_rfl) (by kernel_rfl) (by kernel_rfl) (fun _ _ _ h => h) rfl (by rfl) (fun w hw => by rfl) hH ?_
            simp only [Act.put, List.setIfInBounds_toArray, List.set_cons_zero, List.set_cons_succ]
            refine take_to 2 168 (.int .i64 (j : Int)) rfl (by kernel_rfl) (by kernel_rfl) (by kernel_rfl) (fun _ _ _ h => h) rfl (by rfl) (fun w hw => by rfl) hH ?_
            simp only [Act.put, List.setIfInBounds_toArray, List.set_cons_zero, List.set_cons_succ]
            refine take_to 3 169 (.int .i64 ((j : Int) + 1)) rfl (by kernel_rfl) (by kernel_rfl) (by kernel_rfl) (fun _ _ _ h => h) rfl (by rfl) (fun w hw => op_add3 _ _ (.tmp 168) (.const (.int .i64 1)) _ rfl (j : Int) 1 rfl rfl _ HNX.out.2.1) hH ?_
            simp only [Act.put, List.setIfInBounds_toArray, List.set_cons_zero, List.set_cons_succ]
            refine take_to 4 170 (.int .i64 (nextI j : Int)) rfl (by kernel_rfl) (by kernel_rfl) (by kernel_rfl) (fun _ _ _ h => h) rfl (by rfl) (fun w hw => op_rem3 _ _ (.tmp 169) (.const (.int .i64 3)) _ rfl ((j : Int) + 1) 3 rfl rfl _ (by omega) HNX.out.1) hH ?_
            simp only [Act.put, List.setIfInBounds_toArray, List.set_cons_zero, List.set_cons_succ]
            refine take_to 5 171 (.pointer (some ⟨g, nextI j * 8, none⟩)) rfl (by kernel_rfl) (by kernel_rfl) (by kernel_rfl) (fun _ _ _ h => h) rfl (by rfl) (fun w hw => op_index _ _ 28 (.tmp 167) (.tmp 170) rfl (.slice (some ⟨g, 0, none⟩) 3 3) (.int .i64 (nextI j : Int)) _ rfl rfl (run_index28z w g 3 3 (nextI j) HNX.out.2.2)) hH ?_
            simp only [Act.put, List.setIfInBounds_toArray, List.set_cons_zero, List.set_cons_succ]
            refine take_to 6 172 (.pointer (some ⟨g, nextI j * 8, none⟩)) rfl (by kernel_rfl) (by kernel_rfl) (by kernel_rfl) (fun _ _ _ h => h) rfl (by rfl) (fun w hw => op_index _ _ 25 (.tmp 171) (.const (.int .i64 0)) rfl (.pointer (some ⟨g, nextI j * 8, none⟩)) (.int .i64 0) _ rfl rfl (run_index25_0 w g _)) hH ?_
            simp only [Act.put, List.setIfInBounds_toArray, List.set_cons_zero, List.set_cons_succ]
            refine take_to 7 173 (.agg #[.int .i64 N.ty, .int .i64 N.n, .string (strOf N.t), .bool N.b]) rfl (by kernel_rfl) (by kernel_rfl) (by kernel_rfl) (fun _ _ _ h => h) rfl (by rfl) (fun w hw => op_load _ _ 23 (.tmp 172) rfl (.pointer (some ⟨g, nextI j * 8, none⟩)) _ rfl (load23c hw.2)) hH ?_
            simp only [Act.put, List.setIfInBounds_toArray, List.set_cons_zero, List.set_cons_succ]
            generalize U2.drew = Y0 at *
            refine wpAnyH_all (rs := [8, 12]) (by kernel_rfl) (by simp) ?_
            intro n hn
            rcases (by simpa using hn : n = 8 ∨ n = 12) with rfl | rfl
            · skip
              refine op_call3_to 174 12 rfl rfl (by rfl) (.const (.int .i64 9)) (.tmp 166) (.tmp 173) _ rfl _ _ _ rfl rfl rfl Tryd.enters12 (HLN.out Y0) ?_
              rintro e Y1 ⟨rfl, hb⟩
              have hd8 := thenW hd7 hb
              have hH1 := And.intro (hH.1.belowW hb) (HCN.out _ hd8)
              refine ⟨_, rfl, hH1, ?_⟩
              simp only [Act.put, List.setIfInBounds_toArray, List.set_cons_zero, List.set_cons_succ]
              refine take_to 9 165 (.tuple #[.agg #[.int .i64 0, .int .i64 0, .string { data := #[] }, .bool false], .int .i64 160]) rfl (by kernel_rfl) (by kernel_rfl) (by kernel_rfl) (fun _ _ _ h => h) rfl (by rfl) (fun w hw => by rfl) hH1 ?_
              simp only [Act.put, List.setIfInBounds_toArray, List.set_cons_zero, List.set_cons_succ]
              refine take_to 10 175 (.agg #[.int .i64 0, .int .i64 0, .string { data := #[] }, .bool false]) rfl (by kernel_rfl) (by kernel_rfl) (by kernel_rfl) (fun _ _ _ h => h) rfl (by rfl) (fun w hw => by rfl) hH1 ?_
              simp only [Act.put, List.setIfInBounds_toArray, List.set_cons_zero, List.set_cons_succ]
              refine take_to 11 176 (.int .i64 160) rfl (by kernel_rfl) (by kernel_rfl) (by kernel_rfl) (fun _ _ _ h => h) rfl (by rfl) (fun w hw => by rfl) hH1 ?_
              simp only [Act.put, List.setIfInBounds_toArray, List.set_cons_zero, List.set_cons_succ]
              have hd8a := allocW hd8 (.cells #[.int .i64 0, .int .i64 0, .string { data := #[] }, .bool false] 23)
              have f1 : Box (Y1.alloc (.cells #[.int .i64 0, .int .i64 0, .string { data := #[] }, .bool false] 23)) Y1.heap.size Vl.zero := heap_alloc_new _ _
              have hH2 : Box (Y1.alloc (.cells #[.int .i64 0, .int .i64 0, .string { data := #[] }, .bool false] 23)) p11 A ∧ CellsAt (Y1.alloc (.cells #[.int .i64 0, .int .i64 0, .string { data := #[] }, .bool false] 23)) g (nextI j * 8) N := ⟨hH1.1.belowW ((Below.refl _ _).alloc (Nat.le_refl _) _), HCN.out _ hd8a⟩
              refine step_to 12 27 (.pointer (some ⟨Y1.heap.size, 0, none⟩)) (Y1.alloc (.cells #[.int .i64 0, .int .i64 0, .string { data := #[] }, .bool false] 23)) rfl (by kernel_rfl) rfl (by rfl) (op_alloc23 _ _ rfl _) hH2 ?_
              simp only [Act.put, List.setIfInBounds_toArray, List.set_cons_zero, List.set_cons_succ]
              have g1 := hd8.size
              have ne : p11 ≠ Y1.heap.size := Nat.ne_of_lt (lt_of_heap hH1.1)
              generalize Y1.alloc (.cells #[.int .i64 0, .int .i64 0, .string { data := #[] }, .bool false] 23) = Y2 at *
              generalize Y1.heap.size = p27 at *
              have hd9 : Below Ws.heap.size Ws (Y2.setRow p27 #[.int .i64 0, .int .i64 0, .string { data := #[] }, .bool false]) := below_setRow hd8a g1 _
              refine step_store_to 13 (Y2.setRow p27 #[.int .i64 0, .int .i64 0, .string { data := #[] }, .bool false]) rfl (by kernel_rfl) rfl (by rfl) 23 (.tmp 27) (.tmp 175) rfl _ _ rfl rfl (store_val f1 Vl.zero) ⟨hH2.1.other _ ne, HCN.out _ hd9⟩ ?_
              refine step_to 14 28 (.int .i64 160) _ rfl (by kernel_rfl) rfl (by rfl) (rfl) ⟨hH2.1.other _ ne, HCN.out _ hd9⟩ ?_
              simp only [Act.put, List.setIfInBounds_toArray, List.set_cons_zero, List.set_cons_succ]
              refine wpAnyH_done (by kernel_rfl) ?_ _
              go_wp2
              refine ⟨⟨j + 1, by have := HLT.out; omega, by go_num, hd9⟩, ?_⟩
              have := HLT.out
              simp [intOf]
              omega
            · skip
              have hd7a := allocW hd7 (.cells #[.int .i64 0, .int .i64 0, .string { data := #[] }, .bool false] 23)
              have f1 : Box (Y0.alloc (.cells #[.int .i64 0, .int .i64 0, .string { data := #[] }, .bool false] 23)) Y0.heap.size Vl.zero := heap_alloc_new _ _
              have hH1 : Box (Y0.alloc (.cells #[.int .i64 0, .int .i64 0, .string { data := #[] }, .bool false] 23)) p11 A ∧ CellsAt (Y0.alloc (.cells #[.int .i64 0, .int .i64 0, .string { data := #[] }, .bool false] 23)) g (nextI j * 8) N := ⟨hH.1.belowW ((Below.refl _ _).alloc (Nat.le_refl _) _), HCN.out _ hd7a⟩
              refine op_to 27 (.pointer (some ⟨Y0.heap.size, 0, none⟩)) (Y0.alloc (.cells #[.int .i64 0, .int .i64 0, .string { data := #[] }, .bool false] 23)) rfl rfl (by rfl) (op_alloc23 _ _ rfl _) ⟨hH1, ?_⟩
              simp only [Act.put, List.setIfInBounds_toArray, List.set_cons_zero, List.set_cons_succ]
              have g1 := hd7.size
              have ne : p11 ≠ Y0.heap.size := Nat.ne_of_lt (lt_of_heap hH.1)
              generalize Y0.alloc (.cells #[.int .i64 0, .int .i64 0, .string { data := #[] }, .bool false] 23) = Y1 at *
              generalize Y0.heap.size = p27 at *
              refine step_call3_to 8 174 12 rfl (by kernel_rfl) rfl (by rfl) (.const (.int .i64 9)) (.tmp 166) (.tmp 173) _ rfl _ _ _ rfl rfl rfl Tryd.enters12 (HLN.out Y1) ?_
              rintro e Y2 ⟨rfl, hb⟩
              have hd8 := thenW hd7a hb
              have f2 := f1.belowW hb
              have hH2 := And.intro (hH1.1.belowW hb) (HCN.out _ hd8)
              refine ⟨_, rfl, hH2, ?_⟩
              simp only [Act.put, List.setIfInBounds_toArray, List.set_cons_zero, List.set_cons_succ]
              refine take_to 9 165 (.tuple #[.agg #[.int .i64 0, .int .i64 0, .string { data := #[] }, .bool false], .int .i64 160]) rfl (by kernel_rfl) (by kernel_rfl) (by kernel_rfl) (fun _ _ _ h => h) rfl (by rfl) (fun w hw => by rfl) hH2 ?_
              simp only [Act.put, List.setIfInBounds_toArray, List.set_cons_zero, List.set_cons_succ]
              refine take_to 10 175 (.agg #[.int .i64 0, .int .i64 0, .string { data := #[] }, .bool false]) rfl (by kernel_rfl) (by kernel_rfl) (by kernel_rfl) (fun _ _ _ h => h) rfl (by rfl) (fun w hw => by rfl) hH2 ?_
              simp only [Act.put, List.setIfInBounds_toArray, List.set_cons_zero, List.set_cons_succ]
              refine take_to 11 176 (.int .i64 160) rfl (by kernel_rfl) (by kernel_rfl) (by kernel_rfl) (fun _ _ _ h => h) rfl (by rfl) (fun w hw => by rfl) hH2 ?_
              simp only [Act.put, List.setIfInBounds_toArray, List.set_cons_zero, List.set_cons_succ]
              have hd9 : Below Ws.heap.size Ws (Y2.setRow p27 #[.int .i64 0, .int .i64 0, .string { data := #[] }, .bool false]) := below_setRow hd8 g1 _
              refine step_store_to 13 (Y2.setRow p27 #[.int .i64 0, .int .i64 0, .string { data := #[] }, .bool false]) rfl (by kernel_rfl) rfl (by rfl) 23 (.tmp 27) (.tmp 175) rfl _ _ rfl rfl (store_val f2 Vl.zero) ⟨hH2.1.other _ ne, HCN.out _ hd9⟩ ?_
              refine step_to 14 28 (.int .i64 160) _ rfl (by kernel_rfl) rfl (by rfl) (rfl) ⟨hH2.1.other _ ne, HCN.out _ hd9⟩ ?_
              simp only [Act.put, List.setIfInBounds_toArray, List.set_cons_zero, List.set_cons_succ]
              refine wpAnyH_done (by kernel_rfl) ?_ _
              go_wp2
              refine ⟨⟨j + 1, by have := HLT.out; omega, by go_num, hd9⟩, ?_⟩
              have := HLT.out
              simp [intOf]
              omega
    · obtain rfl : j = 3 := by omega
      have hB := thenW HBW.out HW.out
      go_wp2_with (go_at_call 14; refine (HAW.out _ hB).mono ?_; rintro e W9 ⟨rfl, hB9⟩)
      go_ret
      exact ⟨rfl, thenW hB hB9⟩
end Go.Proofs.YtigafjdacllohaaDoor
