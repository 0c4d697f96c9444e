/- add, Encode: a value's bytes. -/
import Derived.Test.YtigafjdacllohaaDoorAddT
namespace Go.Proofs.YtigafjdacllohaaDoor
open Go.RowKit
set_option linter.unusedVariables false
set_option linter.unusedSimpArgs false

def vcells (V : Vl) : List Value := [.int .i64 V.ty, .int .i64 V.n, .string (strOf V.t), .bool V.b]
def valOf (V : Vl) : Value := .agg #[.int .i64 V.ty, .int .i64 V.n, .string (strOf V.t), .bool V.b]
def Box (w : World) (b : Nat) (V : Vl) : Prop := w.heap[b]? = some (.cells #[.int .i64 V.ty, .int .i64 V.n, .string (strOf V.t), .bool V.b] 23 (0, 0))
theorem Box.cells {w : World} {b : Nat} {V : Vl} (h : Box w b V) : w.cell? ⟨b, 0, none⟩ = some (.int .i64 V.ty) ∧ w.cell? ⟨b, 1, none⟩ = some (.int .i64 V.n) ∧ w.cell? ⟨b, 2, none⟩ = some (.string (strOf V.t)) ∧ w.cell? ⟨b, 3, none⟩ = some (.bool V.b) := by
  refine ⟨?_, ?_, ?_, ?_⟩ <;> (rw [cell_row h]; rfl)
theorem Box.belowW {w w' : World} {b : Nat} {V : Vl} (h : Box w b V) (hb : Below w.heap.size w w') : Box w' b V := (hb.block b (lt_of_heap h)).trans h
theorem box_new (w : World) (V : Vl) : Box (w.alloc (.cells #[.int .i64 V.ty, .int .i64 V.n, .string (strOf V.t), .bool V.b] 23)) w.heap.size V := heap_alloc_new w _
theorem Tryd.isAgg3 : ∀ w, (isAgg 3).run Tryd.prog w = .ok false w := fun w => by kernel_rfl
theorem Tryd.isAgg9 : ∀ w, (isAgg 9).run Tryd.prog w = .ok false w := fun w => by kernel_rfl
theorem Tryd.isAgg4 : ∀ w, (isAgg 4).run Tryd.prog w = .ok false w := fun w => by kernel_rfl
set_option maxHeartbeats 400000 in
theorem bit_any (b : Bool) (w : World) : Calls Tryd.prog 67 #[.bool b] w fun e w' => e = .returned (.int .u8 ((bitB b).toNat : Int)) ∧ w' = w := by
  cases b
  · go_enter Tryd.func67, Tryd.ntmps67
    go_wp2
    go_ret
    exact ⟨rfl, rfl⟩
  · go_enter Tryd.func67, Tryd.ntmps67
    go_wp2
    go_ret
    exact ⟨rfl, rfl⟩
theorem Oth.drewN {a b : World} {o : Obj} (h : Oth a b) (m : Nat) {w0 : World} {u : Value} {X : List UInt8} (W3 : World) (hg : ((b.drewN m).alloc o).grownBy W3 u.ownBlock) (hB : Bts w0 (b.drewN m) u X) : Oth a W3 :=
  (((h.below (below_drewN _ _ m)).alloc _).grown (hB.alloc _).own hg)
set_option maxHeartbeats 4000000 in
set_option maxRecDepth 100000 in
theorem add_any {w0 w : World} {u : Value} {X : List UInt8} (h : Bts w0 w u X) (V : Vl) (hV : V.wf) (hl : X.length + 2 * V.t.length + 20 ≤ 500000000) :
    Calls Tryd.prog 40 #[u, valOf V] w fun e w' => ∃ u', e = .returned u' ∧ Bts w0 w' u' (X ++ enc V) ∧ Oth w w' := by
  obtain ⟨W1, hW1⟩ : ∃ W1, w.alloc (.cells #[.int .i64 V.ty, .int .i64 V.n, .string (strOf V.t), .bool V.b] 23) = W1 := ⟨_, rfl⟩
  have HB : Hid (Bts w0 W1 u X) := by rw [← hW1]; exact h.alloc _
  have HX : Hid (Box W1 w.heap.size V) := by rw [← hW1]; exact box_new w V
  have HOA : Hid (Oth w W1) := by rw [← hW1]; exact (Oth.refl w).alloc _
  unfold valOf
  clear h
  go_enter Tryd.func40, Tryd.ntmps40
  go_upto_region 1 with fail
  try rw [hW1]
  clear hW1
  generalize w.heap.size = b at *
  obtain ⟨c0, c1, c2, c3⟩ := HX.out.cells
  by_cases h1 : V.ty = 1
  · have HEN : Hid (enc V = 1 :: be 8 (turn V.n)) := by unfold Hid enc; rw [if_pos h1]
    rw [h1] at c0
    go_upto_region 3 with fail
    refine wp_region_held_drew (S := fun w' => Box w' b V) (by kernel_rfl) HX.out (fun hH => ?_)
    refine take_to 0 9 (u) rfl (by kernel_rfl) (by kernel_rfl) (by kernel_rfl) (fun _ _ _ h => h) rfl (by rfl) (fun w hw => by rfl) hH ?_
    simp only [Act.put, List.setIfInBounds_toArray, List.set_cons_zero, List.set_cons_succ]
    refine take_to 3 12 (.pointer (some ⟨b, 1, none⟩)) rfl (by kernel_rfl) (by kernel_rfl) (by kernel_rfl) (fun _ _ _ h => h) rfl (by rfl) (fun w hw => by rfl) hH ?_
    simp only [Act.put, List.setIfInBounds_toArray, List.set_cons_zero, List.set_cons_succ]
    refine take_to 4 13 (.int .i64 V.n) rfl (by kernel_rfl) (by kernel_rfl) (by kernel_rfl) (fun _ _ _ h => h) rfl (by rfl) (fun w hw => op_load _ _ 3 (.tmp 12) rfl (.pointer (some ⟨b, 1, none⟩)) _ rfl (run_loadAny w b 1 3 _ Tryd.isAgg3 hw.cells.2.1)) hH ?_
    simp only [Act.put, List.setIfInBounds_toArray, List.set_cons_zero, List.set_cons_succ]
    refine step_to 1 10 (.slice (some ⟨W1.heap.size, 0, none⟩) 1 1) (W1.drew.alloc (.cells #[.int .u8 1] 5)) rfl (by kernel_rfl) rfl (by rfl) (op_build1 _ _ _ rfl 1 rfl W1.drew) (hH.belowW ((Below.refl _ _).alloc (Nat.le_refl _) _)) ?_
    simp only [Act.put, List.setIfInBounds_toArray, List.set_cons_zero, List.set_cons_succ]
    refine step_append_bts 2 11 rfl (by kernel_rfl) rfl rfl (.tmp 9) (.tmp 10) rfl w0 _ _ _ _ rfl rfl ((HB.out.drewN 1).alloc _) (sl1 W1.drew 1) (by simp; omega) (fun u3 W3 hB3 hg3 => ?_)
    have hx3 : Box W3 b V := grown_rec ((HB.out.drewN 1).alloc _).own hg3 (hH.belowW ((Below.refl _ _).alloc (Nat.le_refl _) _)) (by decide)
    have hg3 : (W1.drew.alloc (.cells #[.int .u8 1] 5)).grownBy W3 u.ownBlock := hg3
    refine ⟨hx3, ?_⟩
    simp only [Act.put, List.setIfInBounds_toArray, List.set_cons_zero, List.set_cons_succ]
    refine step_call2_to 5 14 68 rfl (by kernel_rfl) rfl (by rfl) (.tmp 11) (.tmp 13) _ rfl _ _ rfl rfl Tryd.enters68 (addNumber_any hB3 V.n hV.2 (by simp; omega)) ?_
    rintro e W4 ⟨u4, rfl, hB4, hO4⟩
    have hx4 : Box W4 b V := hO4 _ _ _ _ (by decide) hx3
    refine ⟨_, rfl, hx4, ?_⟩
    simp only [Act.put, List.setIfInBounds_toArray, List.set_cons_zero, List.set_cons_succ]
    refine step_to 6 4 (u4) W4 rfl (by kernel_rfl) rfl (by rfl) (rfl) hx4 ?_
    simp only [Act.put, List.setIfInBounds_toArray, List.set_cons_zero, List.set_cons_succ]
    refine wpAnyH_done (by kernel_rfl) ?_ _
    go_wp2
    go_ret
    refine ⟨_, rfl, ?_, (HOA.out.drewN 1 W3 hg3 (HB.out.drewN 1)).trans hO4⟩
    rw [HEN.out]
    have := hB4
    rw [List.append_assoc] at this
    exact this
  by_cases h2 : V.ty = 2
  · have HEN : Hid (enc V = 2 :: (esc V.t ++ [0, 0])) := by unfold Hid enc; rw [if_neg h1, if_pos h2]
    rw [h2] at c0
    go_upto_region 5 with fail
    refine wp_region_held_drew (S := fun w' => Box w' b V) (by kernel_rfl) HX.out (fun hH => ?_)
    refine take_to 0 17 (u) rfl (by kernel_rfl) (by kernel_rfl) (by kernel_rfl) (fun _ _ _ h => h) rfl (by rfl) (fun w hw => by rfl) hH ?_
    simp only [Act.put, List.setIfInBounds_toArray, List.set_cons_zero, List.set_cons_succ]
    refine take_to 3 20 (.pointer (some ⟨b, 2, none⟩)) rfl (by kernel_rfl) (by kernel_rfl) (by kernel_rfl) (fun _ _ _ h => h) rfl (by rfl) (fun w hw => by rfl) hH ?_
    simp only [Act.put, List.setIfInBounds_toArray, List.set_cons_zero, List.set_cons_succ]
    refine take_to 4 21 (.string (strOf V.t)) rfl (by kernel_rfl) (by kernel_rfl) (by kernel_rfl) (fun _ _ _ h => h) rfl (by rfl) (fun w hw => op_load _ _ 9 (.tmp 20) rfl (.pointer (some ⟨b, 2, none⟩)) _ rfl (run_loadAny w b 2 9 _ Tryd.isAgg9 hw.cells.2.2.1)) hH ?_
    simp only [Act.put, List.setIfInBounds_toArray, List.set_cons_zero, List.set_cons_succ]
    refine step_to 1 18 (.slice (some ⟨W1.heap.size, 0, none⟩) 1 1) (W1.drew.alloc (.cells #[.int .u8 2] 5)) rfl (by kernel_rfl) rfl (by rfl) (op_build1 _ _ _ rfl 2 rfl W1.drew) (hH.belowW ((Below.refl _ _).alloc (Nat.le_refl _) _)) ?_
    simp only [Act.put, List.setIfInBounds_toArray, List.set_cons_zero, List.set_cons_succ]
    refine step_append_bts 2 19 rfl (by kernel_rfl) rfl rfl (.tmp 17) (.tmp 18) rfl w0 _ _ _ _ rfl rfl ((HB.out.drewN 1).alloc _) (sl1 W1.drew 2) (by simp; omega) (fun u3 W3 hB3 hg3 => ?_)
    have hx3 : Box W3 b V := grown_rec ((HB.out.drewN 1).alloc _).own hg3 (hH.belowW ((Below.refl _ _).alloc (Nat.le_refl _) _)) (by decide)
    have hg3 : (W1.drew.alloc (.cells #[.int .u8 2] 5)).grownBy W3 u.ownBlock := hg3
    refine ⟨hx3, ?_⟩
    simp only [Act.put, List.setIfInBounds_toArray, List.set_cons_zero, List.set_cons_succ]
    refine step_call2_to 5 22 69 rfl (by kernel_rfl) rfl (by rfl) (.tmp 19) (.tmp 21) _ rfl _ _ rfl rfl Tryd.enters69 (addText_any hB3 V.t (by simp; omega)) ?_
    rintro e W4 ⟨u4, rfl, hB4, hO4⟩
    have hx4 : Box W4 b V := hO4 _ _ _ _ (by decide) hx3
    refine ⟨_, rfl, hx4, ?_⟩
    simp only [Act.put, List.setIfInBounds_toArray, List.set_cons_zero, List.set_cons_succ]
    refine step_to 6 4 (u4) W4 rfl (by kernel_rfl) rfl (by rfl) (rfl) hx4 ?_
    simp only [Act.put, List.setIfInBounds_toArray, List.set_cons_zero, List.set_cons_succ]
    refine wpAnyH_done (by kernel_rfl) ?_ _
    go_wp2
    go_ret
    refine ⟨_, rfl, ?_, (HOA.out.drewN 1 W3 hg3 (HB.out.drewN 1)).trans hO4⟩
    rw [HEN.out]
    have := hB4
    rw [List.append_assoc] at this
    exact this
  by_cases h3 : V.ty = 3
  · have HEN : Hid (enc V = [3, bitB V.b]) := by unfold Hid enc; rw [if_neg h1, if_neg h2, if_pos h3]
    rw [h3] at c0
    have HBT := hide (bit_any V.b W1)
    have hb2 := build2
    have HS := hide (sl2 W1 3 (bitB V.b))
    generalize ((bitB V.b).toNat : Int) = bv at *
    go_wp2_with fail
    refine HBT.out.mono ?_
    rintro e W2 ⟨rfl, hw⟩
    have hw := hw.symm
    subst hw
    go_wp2_with (refine wpList_append_bts rfl (.tmp 25) (.tmp 29) rfl w0 _ _ _ _ rfl rfl (HB.out.alloc _) HS.out (by simp; omega) ?_; intro u3 W3 hB3 hg3)
    go_ret
    refine ⟨_, rfl, ?_, (HOA.out.alloc _).grown (HB.out.alloc _).own hg3⟩
    rw [HEN.out]
    exact hB3
  · have HEN : Hid (enc V = [0]) := by unfold Hid enc; rw [if_neg h1, if_neg h2, if_neg h3]
    have k1 : (V.ty == 1) = false := beq_eq_false_iff_ne.2 h1
    have k2 : (V.ty == 2) = false := beq_eq_false_iff_ne.2 h2
    have k3 : (V.ty == 3) = false := beq_eq_false_iff_ne.2 h3
    have hb1 := build1
    have HS : Hid (Sl (W1.alloc (.cells #[.int .u8 0] 5)) (.slice (some ⟨W1.heap.size, 0, none⟩) 1 1) [0]) := sl1 W1 0
    go_wp2_with (refine wpList_append_bts rfl (.tmp 31) (.tmp 32) rfl w0 _ _ _ _ rfl rfl (HB.out.alloc _) HS.out (by simp; omega) ?_; intro u3 W3 hB3 hg3)
    go_ret
    refine ⟨_, rfl, ?_, (HOA.out.alloc _).grown (HB.out.alloc _).own hg3⟩
    rw [HEN.out]
    exact hB3
set_option maxHeartbeats 400000 in
theorem encode_any (w0 w : World) (hb : Below w0.heap.size w0 w) (V : Vl) (hV : V.wf) (hl : 2 * V.t.length + 20 ≤ 500000000) :
    Calls Tryd.prog 13 #[valOf V] w fun e w' => ∃ u', e = .returned u' ∧ Bts w0 w' u' (enc V) ∧ Oth w w' := by
  obtain ⟨W1, hW1⟩ : ∃ W1, w.alloc (.cells #[.int .i64 V.ty, .int .i64 V.n, .string (strOf V.t), .bool V.b] 23) = W1 := ⟨_, rfl⟩
  have HX : Hid (Box W1 w.heap.size V) := by rw [← hW1]; exact box_new w V
  have HOA : Hid (Oth w W1) := by rw [← hW1]; exact (Oth.refl w).alloc _
  have HB1 : Hid (Below w0.heap.size w0 W1) := by rw [← hW1]; exact hb.alloc hb.size _
  have HA := hide (add_any (Bts.nil HB1.out) V hV (by simp; omega))
  unfold valOf at *
  go_enter Tryd.func13, Tryd.ntmps13
  go_upto_region 1 with fail
  try rw [hW1]
  clear hW1
  generalize w.heap.size = b at *
  obtain ⟨c0, c1, c2, c3⟩ := HX.out.cells
  go_wp2_with fail
  refine HA.out.mono ?_
  rintro e W2 ⟨u2, rfl, hB2, hO2⟩
  go_wp2
  go_ret
  exact ⟨_, rfl, by simpa using hB2, HOA.out.trans hO2⟩
end Go.Proofs.YtigafjdacllohaaDoor
