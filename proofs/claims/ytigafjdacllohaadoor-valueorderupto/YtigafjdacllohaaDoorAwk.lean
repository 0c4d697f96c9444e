/- awake: what the document fixes. -/
import Derived.Test.YtigafjdacllohaaDoorLog
namespace Go.Proofs.YtigafjdacllohaaDoor
open Go.RowKit
set_option linter.unusedVariables false
set_option linter.unusedSimpArgs false
set_option maxRecDepth 100000

def itS : List UInt8 := [105, 116, 39, 115]
def itQ : List UInt8 := [105, 116, 39, 39, 115]
def itT : List UInt8 := [39, 105, 116, 39, 39, 115, 39]
theorem allocW {a b : World} (h : Below a.heap.size a b) (o : Obj) : Below a.heap.size a (b.alloc o) := h.alloc h.size o
theorem repl_any (m : Int) (w : World) (hm : w.cell? ⟨1, 0, none⟩ = some (.int .i64 m)) : Calls Tryd.prog 62 #[.string (strOf itS), .string { data := #[39] }, .string { data := #[39, 39] }] w fun e w' => e = .returned (.string (strOf itQ)) ∧ Below w.heap.size w w' :=
  (Tryd.strings_ReplaceAll (strOf itS) ⟨#[39]⟩ ⟨#[39, 39]⟩ m w (by decide) hm (by decide) (by decide)).mono fun e w' ⟨h1, h2⟩ => ⟨h1.trans (by
    have e2 : Lib.replaceAll (strOf itS).data.toList (⟨#[39]⟩ : ByteArray).data.toList (⟨#[39, 39]⟩ : ByteArray).data.toList = itQ := by decide
    rw [e2]
    rfl), h2⟩
set_option maxHeartbeats 2000000 in
theorem text_its (m : Int) (w : World) (hm : w.cell? ⟨1, 0, none⟩ = some (.int .i64 m)) : Calls Tryd.prog 31 #[valOf (tV itS)] w fun e w' => e = .returned (.string (strOf itT)) ∧ Below w.heap.size w w' := by
  have hm1 : (w.alloc (.cells #[.int .i64 2, .int .i64 0, .string (strOf itS), .bool false] 23)).cell? ⟨1, 0, none⟩ = some (.int .i64 m) := (((Below.refl _ w).alloc (Nat.le_refl _) _).cell (p := ⟨1, 0, none⟩) (World.block_lt_of_cell? w _ hm)).trans hm
  have HR := hide (repl_any m _ hm1)
  have HB : Hid (Below w.heap.size w (w.alloc (.cells #[.int .i64 2, .int .i64 0, .string (strOf itS), .bool false] 23))) := (Below.refl _ w).alloc (Nat.le_refl _) _
  have HT : Hid (strOf itT = ({ data := #[39] } : ByteArray) ++ strOf itQ ++ ({ data := #[39] } : ByteArray)) := rfl
  have s1 : (strOf itQ).size = 5 := rfl
  have s2 : (({ data := #[39] } : ByteArray) ++ strOf itQ).size = 6 := rfl
  have HV : Hid (valOf (tV itS) = .agg #[.int .i64 2, .int .i64 0, .string (strOf itS), .bool false]) := rfl
  rw [HV.out]
  clear hm hm1
  generalize strOf itT = T at *
  generalize strOf itQ = Q at *
  generalize strOf itS = S at *
  go_enter Tryd.func31, Tryd.ntmps31
  go_wp2_with (go_at_call 62; refine HR.out.mono ?_; rintro e w1 ⟨rfl, hb1⟩; have HB1 := hide hb1; clear hb1)
  go_ret
  rw [HT.out]
  exact ⟨rfl, thenW HB.out HB1.out⟩
theorem op_eqlE (ρ : Operand → Value) (o : Oper) (x y : Operand) (tt : TypeId) (ho : o.op = .binOp .eql 29 x y tt) (n m : Int) (hx : ρ x = .int .i64 n) (hy : ρ y = .int .i64 m) (b : Bool) (hb : (n == m) = b) {w : World} : (execOp ρ o).run Tryd.prog w = .ok (.value (.bool b)) w := by
  have hu := Tryd.underlying29
  unfold execOp
  simp only [ho, hx, hy]
  simp [go_sem, hu, hb]
theorem op_eqlS (ρ : Operand → Value) (o : Oper) (x y : Operand) (tt : TypeId) (ho : o.op = .binOp .eql 9 x y tt) (s : ByteArray) (hx : ρ x = .string s) (hy : ρ y = .string s) {w : World} : (execOp ρ o).run Tryd.prog w = .ok (.value (.bool true)) w := by
  have hu := Tryd.underlying9
  unfold execOp
  simp only [ho, hx, hy]
  simp [go_sem, hu]
theorem op_eqlV (ρ : Operand → Value) (o : Oper) (x y : Operand) (tt : TypeId) (ho : o.op = .binOp .eql 23 x y tt) (V : Vl) (hx : ρ x = .agg #[.int .i64 V.ty, .int .i64 V.n, .string (strOf V.t), .bool V.b]) (hy : ρ y = .agg #[.int .i64 V.ty, .int .i64 V.n, .string (strOf V.t), .bool V.b]) {w : World} : (execOp ρ o).run Tryd.prog w = .ok (.value (.bool true)) w := by
  have hg : (eqGuard .eql 23 x y (.agg #[.int .i64 V.ty, .int .i64 V.n, .string (strOf V.t), .bool V.b]) (.agg #[.int .i64 V.ty, .int .i64 V.n, .string (strOf V.t), .bool V.b])).run Tryd.prog w = .ok () w := run_eqGuard_agg w .eql 23 x y _ _ (by kernel_rfl)
  unfold execOp
  simp only [ho, hx, hy]
  simp [hg, run_eql23 w V V true (by simp)]
structure AwS (p1 p3 : Nat) (W : World) : Prop where
  a : Box W p1 (nV (-3))
  b : Box W p3 (bV false)
theorem AwS.belowW {p1 p3 : Nat} {w w' : World} (h : AwS p1 p3 w) (hb : Below w.heap.size w w') : AwS p1 p3 w' := ⟨h.a.belowW hb, h.b.belowW hb⟩
theorem AwS.drewN {p1 p3 : Nat} {w : World} (h : AwS p1 p3 w) (m : Nat) : AwS p1 p3 (w.drewN m) := ⟨h.a, h.b⟩
set_option maxHeartbeats 8000000 in
theorem awake_any (m : Int) (w : World) (hm : w.cell? ⟨1, 0, none⟩ = some (.int .i64 m)) : Calls Tryd.prog 14 #[] w fun e w' => e = .returned (.bool true) ∧ Below w.heap.size w w' := by
  have HI : Hid (∀ n W, Calls Tryd.prog 9 #[.int .i64 n] W fun e w' => e = .returned (.agg #[.int .i64 1, .int .i64 n, .string { data := #[] }, .bool false]) ∧ Below W.heap.size W w') := lawInt_any
  have HT : Hid (∀ W, Calls Tryd.prog 11 #[.bool false] W fun e w' => e = .returned (.agg #[.int .i64 3, .int .i64 0, .string { data := #[] }, .bool false]) ∧ Below W.heap.size W w') := lawTruth_any false
  have HS : Hid (∀ W, Calls Tryd.prog 10 #[.string { data := #[105, 116, 39, 115] }] W fun e w' => e = .returned (valOf (tV itS)) ∧ Below W.heap.size W w') := lawText_any itS
  have e1 : mathP 21 (nV (-7)) (nV 2) = (nV (-3), 0) := by rfl
  have e2 : mathP 21 (nV 1) (nV 0) = (Vl.zero, 162) := by rfl
  have e3 : andP Vl.zero (bV false) = (bV false, 0) := by rfl
  have HM1 : Hid (∀ W, Calls Tryd.prog 16 #[.int .i64 21, .agg #[.int .i64 1, .int .i64 (-7), .string { data := #[] }, .bool false], .agg #[.int .i64 1, .int .i64 2, .string { data := #[] }, .bool false]] W fun e w' => e = .returned (.tuple #[.agg #[.int .i64 1, .int .i64 (-3), .string { data := #[] }, .bool false], .int .i64 0]) ∧ Below W.heap.size W w') := fun W => by
    have := math_any 21 (nV (-7)) (nV 2) ⟨by decide, by decide⟩ ⟨by decide, by decide⟩ (by decide) W
    rw [e1] at this
    exact this
  have HM2 : Hid (∀ W, Calls Tryd.prog 16 #[.int .i64 21, .agg #[.int .i64 1, .int .i64 1, .string { data := #[] }, .bool false], .agg #[.int .i64 1, .int .i64 0, .string { data := #[] }, .bool false]] W fun e w' => e = .returned (.tuple #[.agg #[.int .i64 0, .int .i64 0, .string { data := #[] }, .bool false], .int .i64 162]) ∧ Below W.heap.size W w') := fun W => by
    have := math_any 21 (nV 1) (nV 0) ⟨by decide, by decide⟩ ⟨by decide, by decide⟩ (by decide) W
    rw [e2] at this
    exact this
  have HAN : Hid (∀ W, Calls Tryd.prog 22 #[.agg #[.int .i64 0, .int .i64 0, .string { data := #[] }, .bool false], .agg #[.int .i64 3, .int .i64 0, .string { data := #[] }, .bool false]] W fun e w' => e = .returned (.tuple #[.agg #[.int .i64 3, .int .i64 0, .string { data := #[] }, .bool false], .int .i64 0]) ∧ Below W.heap.size W w') := fun W => by
    have := and_any Vl.zero (bV false) W
    rw [e3] at this
    exact this
  have HX31 : Hid (∀ W, Below w.heap.size w W → Calls Tryd.prog 31 #[valOf (tV itS)] W fun e w' => e = .returned (.string (strOf itT)) ∧ Below W.heap.size W w') := fun W hW => text_its m W ((hW.cell (p := ⟨1, 0, none⟩) (World.block_lt_of_cell? w _ hm)).trans hm)
  clear e1 e2 e3 hm
  go_enter Tryd.func14, Tryd.ntmps14
  go_upto_region 4 with (first
    | (have _t := HB7; go_at_call 16; refine (HM2.out _).mono ?_; rintro e w8 ⟨rfl, hb8⟩; have HB8 := hide hb8; clear hb8)
    | (have _t := HB6; go_at_call 9; refine (HI.out _ _).mono ?_; rintro e w7 ⟨rfl, hb7⟩; have HB7 := hide hb7; clear hb7)
    | (have _t := HB5; go_at_call 9; refine (HI.out _ _).mono ?_; rintro e w6 ⟨rfl, hb6⟩; have HB6 := hide hb6; clear hb6)
    | (go_at_call 22; refine (HAN.out _).mono ?_; rintro e w5 ⟨rfl, hb5⟩; have HB5 := hide hb5; clear hb5)
    | (go_at_call 11; refine (HT.out _).mono ?_; rintro e w4 ⟨rfl, hb4⟩; have HB4 := hide hb4; clear hb4)
    | (go_at_call 16; refine (HM1.out _).mono ?_; rintro e w3 ⟨rfl, hb3⟩; have HB3 := hide hb3; clear hb3)
    | (have _t := HB1; go_at_call 9; refine (HI.out _ _).mono ?_; rintro e w2 ⟨rfl, hb2⟩; have HB2 := hide hb2; clear hb2)
    | (go_at_call 9; refine (HI.out _ _).mono ?_; rintro e w1 ⟨rfl, hb1⟩; have HB1 := hide hb1; clear hb1))
  have hA3 : Below w.heap.size w w3 := thenW (thenW HB1.out HB2.out) HB3.out
  have hA5 := thenW (thenW (allocW hA3 (.cells #[.int .i64 1, .int .i64 (-3), .string { data := #[] }, .bool false] 23)) HB4.out) HB5.out
  have hA8 := allocW (thenW (thenW (thenW (allocW hA5 (.cells #[.int .i64 3, .int .i64 0, .string { data := #[] }, .bool false] 23)) HB6.out) HB7.out) HB8.out) (.cells #[.int .i64 0, .int .i64 0, .string { data := #[] }, .bool false] 23)
  have hP : Box (w3.alloc (.cells #[.int .i64 1, .int .i64 (-3), .string { data := #[] }, .bool false] 23)) w3.heap.size (nV (-3)) := heap_alloc_new _ _
  have hP5 : Box w5 w3.heap.size (nV (-3)) := (hP.belowW HB4.out).belowW HB5.out
  have hQ : AwS w3.heap.size w5.heap.size (w5.alloc (.cells #[.int .i64 3, .int .i64 0, .string { data := #[] }, .bool false] 23)) := ⟨hP5.belowW ((Below.refl _ _).alloc (Nat.le_refl _) _), heap_alloc_new _ _⟩
  have hS0 := (((hQ.belowW HB6.out).belowW HB7.out).belowW HB8.out).belowW ((Below.refl _ _).alloc (Nat.le_refl _) (.cells #[.int .i64 0, .int .i64 0, .string { data := #[] }, .bool false] 23))
  have HA8 := hide hA8
  have HS0 := hide hS0
  clear hA3 hA5 hA8 hP hP5 hQ hS0 HB1 HB2 HB3 HB4 HB5 HB6 HB7 HB8 HM1 HM2 HAN
  generalize w8.alloc (.cells #[.int .i64 0, .int .i64 0, .string { data := #[] }, .bool false] 23) = W0 at *
  generalize w3.heap.size = p1 at *
  generalize w5.heap.size = p3 at *
  refine wp_region_held_drew (S := AwS p1 p3) (by kernel_rfl) (HS0.out.drewN 1) (fun hH => ?_)
  refine step_to 0 25 (.int .i64 0) _ rfl (by kernel_rfl) rfl (by rfl) (rfl) hH ?_
  simp only [Act.put, List.setIfInBounds_toArray, List.set_cons_zero, List.set_cons_succ]
  refine step_to 1 26 (.bool true) _ rfl (by kernel_rfl) rfl (by rfl) (op_eqlE _ _ (.tmp 25) (.const (.int .i64 0)) _ rfl 0 0 rfl rfl true rfl) hH ?_
  simp only [Act.put, List.setIfInBounds_toArray, List.set_cons_zero, List.set_cons_succ]
  refine step_to 2 27 (.bool true) _ rfl (by kernel_rfl) rfl (by rfl) (rfl) hH ?_
  simp only [Act.put, List.setIfInBounds_toArray, List.set_cons_zero, List.set_cons_succ]
  refine step_to 3 28 (.int .i64 0) _ rfl (by kernel_rfl) rfl (by rfl) (rfl) hH ?_
  simp only [Act.put, List.setIfInBounds_toArray, List.set_cons_zero, List.set_cons_succ]
  refine step_to 4 29 (.bool true) _ rfl (by kernel_rfl) rfl (by rfl) (op_eqlE _ _ (.tmp 28) (.const (.int .i64 0)) _ rfl 0 0 rfl rfl true rfl) hH ?_
  simp only [Act.put, List.setIfInBounds_toArray, List.set_cons_zero, List.set_cons_succ]
  refine step_to 5 30 (.bool true) _ rfl (by kernel_rfl) rfl (by rfl) (rfl) hH ?_
  simp only [Act.put, List.setIfInBounds_toArray, List.set_cons_zero, List.set_cons_succ]
  refine step_to 6 31 (.bool true) _ rfl (by kernel_rfl) rfl (by rfl) (rfl) hH ?_
  simp only [Act.put, List.setIfInBounds_toArray, List.set_cons_zero, List.set_cons_succ]
  refine step_to 7 32 (.int .i64 162) _ rfl (by kernel_rfl) rfl (by rfl) (rfl) hH ?_
  simp only [Act.put, List.setIfInBounds_toArray, List.set_cons_zero, List.set_cons_succ]
  refine step_to 8 33 (.bool true) _ rfl (by kernel_rfl) rfl (by rfl) (op_eqlE _ _ (.tmp 32) (.const (.int .i64 162)) _ rfl 162 162 rfl rfl true rfl) hH ?_
  simp only [Act.put, List.setIfInBounds_toArray, List.set_cons_zero, List.set_cons_succ]
  refine step_to 9 34 (.bool true) _ rfl (by kernel_rfl) rfl (by rfl) (rfl) hH ?_
  simp only [Act.put, List.setIfInBounds_toArray, List.set_cons_zero, List.set_cons_succ]
  refine step_to 10 35 (.bool true) _ rfl (by kernel_rfl) rfl (by rfl) (rfl) hH ?_
  simp only [Act.put, List.setIfInBounds_toArray, List.set_cons_zero, List.set_cons_succ]
  refine take_to 11 36 (.agg #[.int .i64 (nV (-3)).ty, .int .i64 (nV (-3)).n, .string (strOf (nV (-3)).t), .bool (nV (-3)).b]) rfl (by kernel_rfl) (by kernel_rfl) (by kernel_rfl) (fun _ _ _ h => h) rfl (by rfl) (fun w hw => op_load _ _ 23 (.tmp 1) rfl (.pointer (some ⟨p1, 0, none⟩)) _ rfl (load23 hw.a)) hH ?_
  simp only [Act.put, List.setIfInBounds_toArray, List.set_cons_zero, List.set_cons_succ]
  refine step_call1_to 12 37 9 rfl (by kernel_rfl) rfl (by rfl) (.const (.int .i64 (-3))) _ rfl _ rfl Tryd.enters9 (HI.out _ _) ?_
  rintro e u1 ⟨rfl, hb1⟩
  have hH1 := hH.belowW hb1
  refine ⟨_, rfl, hH1, ?_⟩
  simp only [Act.put, List.setIfInBounds_toArray, List.set_cons_zero, List.set_cons_succ]
  refine step_to 13 38 (.bool true) _ rfl (by kernel_rfl) rfl (by rfl) (op_eqlV _ _ (.tmp 36) (.tmp 37) _ rfl (nV (-3)) rfl rfl) hH1 ?_
  simp only [Act.put, List.setIfInBounds_toArray, List.set_cons_zero, List.set_cons_succ]
  refine step_to 14 39 (.bool true) _ rfl (by kernel_rfl) rfl (by rfl) (rfl) hH1 ?_
  simp only [Act.put, List.setIfInBounds_toArray, List.set_cons_zero, List.set_cons_succ]
  refine step_to 15 40 (.bool true) _ rfl (by kernel_rfl) rfl (by rfl) (rfl) hH1 ?_
  simp only [Act.put, List.setIfInBounds_toArray, List.set_cons_zero, List.set_cons_succ]
  refine take_to 16 41 (.agg #[.int .i64 (bV false).ty, .int .i64 (bV false).n, .string (strOf (bV false).t), .bool (bV false).b]) rfl (by kernel_rfl) (by kernel_rfl) (by kernel_rfl) (fun _ _ _ h => h) rfl (by rfl) (fun w hw => op_load _ _ 23 (.tmp 3) rfl (.pointer (some ⟨p3, 0, none⟩)) _ rfl (load23 hw.b)) hH1 ?_
  simp only [Act.put, List.setIfInBounds_toArray, List.set_cons_zero, List.set_cons_succ]
  refine step_call1_to 17 42 11 rfl (by kernel_rfl) rfl (by rfl) (.const (.bool false)) _ rfl _ rfl Tryd.enters11 (HT.out _) ?_
  rintro e u2 ⟨rfl, hb2⟩
  have hH2 := hH1.belowW hb2
  refine ⟨_, rfl, hH2, ?_⟩
  simp only [Act.put, List.setIfInBounds_toArray, List.set_cons_zero, List.set_cons_succ]
  refine step_to 18 43 (.bool true) _ rfl (by kernel_rfl) rfl (by rfl) (op_eqlV _ _ (.tmp 41) (.tmp 42) _ rfl (bV false) rfl rfl) hH2 ?_
  simp only [Act.put, List.setIfInBounds_toArray, List.set_cons_zero, List.set_cons_succ]
  refine step_to 19 44 (.bool true) _ rfl (by kernel_rfl) rfl (by rfl) (rfl) hH2 ?_
  simp only [Act.put, List.setIfInBounds_toArray, List.set_cons_zero, List.set_cons_succ]
  refine step_to 20 45 (.bool true) _ rfl (by kernel_rfl) rfl (by rfl) (rfl) hH2 ?_
  simp only [Act.put, List.setIfInBounds_toArray, List.set_cons_zero, List.set_cons_succ]
  refine step_call1_to 21 46 10 rfl (by kernel_rfl) rfl (by rfl) (.const (.string { data := #[105, 116, 39, 115] })) _ rfl _ rfl Tryd.enters10 (HS.out _) ?_
  rintro e u3 ⟨rfl, hb3⟩
  have hH3 := hH2.belowW hb3
  refine ⟨_, rfl, hH3, ?_⟩
  simp only [Act.put, List.setIfInBounds_toArray, List.set_cons_zero, List.set_cons_succ]
  have HBX : Below w.heap.size w u3 := thenW (thenW (thenW (HA8.out.trans (below_drewN _ _ 1)) hb1) hb2) hb3
  refine step_call1_to 22 47 31 rfl (by kernel_rfl) rfl (by rfl) (.tmp 46) _ rfl _ rfl Tryd.enters31 (HX31.out _ HBX) ?_
  rintro e u4 ⟨rfl, hb4⟩
  have hH4 := hH3.belowW hb4
  refine ⟨_, rfl, hH4, ?_⟩
  simp only [Act.put, List.setIfInBounds_toArray, List.set_cons_zero, List.set_cons_succ]
  refine step_to 23 48 (.bool true) _ rfl (by kernel_rfl) rfl (by rfl) (op_eqlS _ _ (.tmp 47) (.const (.string { data := #[39, 105, 116, 39, 39, 115, 39] })) _ rfl (strOf itT) rfl rfl) hH4 ?_
  simp only [Act.put, List.setIfInBounds_toArray, List.set_cons_zero, List.set_cons_succ]
  refine step_to 24 49 (.bool true) _ rfl (by kernel_rfl) rfl (by rfl) (rfl) hH4 ?_
  simp only [Act.put, List.setIfInBounds_toArray, List.set_cons_zero, List.set_cons_succ]
  refine step_to 25 0 (.bool true) _ rfl (by kernel_rfl) rfl (by rfl) (rfl) hH4 ?_
  simp only [Act.put, List.setIfInBounds_toArray, List.set_cons_zero, List.set_cons_succ]
  refine wpAnyH_done (by kernel_rfl) ?_ _
  go_wp2
  go_ret
  exact ⟨rfl, thenW HBX hb4⟩
end Go.Proofs.YtigafjdacllohaaDoor
