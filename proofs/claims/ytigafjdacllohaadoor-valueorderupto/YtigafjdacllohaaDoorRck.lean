/- Differences, products, quotients; which fit; reckon. -/
import Derived.Test.YtigafjdacllohaaDoorRes
namespace Go.Proofs.YtigafjdacllohaaDoor
open Go.RowKit
set_option linter.unusedVariables false
set_option linter.unusedSimpArgs false
set_option maxRecDepth 100000

set_option maxHeartbeats 1000000 in
theorem minus_any (a b : Int) (w : World) : Calls Tryd.prog 72 #[wideV a, wideV b] w fun e w' => e = .returned (wideV (a - b)) ∧ Below w.heap.size w w' := by
  have HW : Hid (wideV (a - b) = .agg #[.int .u64 (hiN (a - b) : Int), .int .u64 (loN (a - b) : Int)]) := rfl
  have HL := hide (lo_sub a b)
  obtain ⟨c, hc⟩ : ∃ c : Nat, c = if loN a < loN b + 0 then 1 else 0 := ⟨_, rfl⟩
  have HH := hide (hi_sub a b c hc)
  have HC : Hid (c ≤ 1) := by rw [Hid, hc]; split <;> omega
  have HA1 : Hid (∀ w, (callFunc 85 #[.int .u64 (loN a : Int), .int .u64 (loN b : Int), .int .u64 0]).run Tryd.prog w = .ok (.value (.tuple #[.int .u64 ((loN (a - b) : Nat) : Int), .int .u64 (c : Int)])) w) := fun w => by
    have := sub64 (loN a) (loN b) 0 (by omega) w
    rw [lo_sub, ← hc] at this
    exact this
  clear hc
  obtain ⟨c2, hc2⟩ : ∃ c2 : Nat, c2 = if hiN a < hiN b + c then 1 else 0 := ⟨_, rfl⟩
  have HA2 : Hid (∀ w, (callFunc 85 #[.int .u64 (hiN a : Int), .int .u64 (hiN b : Int), .int .u64 (c : Int)]).run Tryd.prog w = .ok (.value (.tuple #[.int .u64 ((hiN (a - b) : Nat) : Int), .int .u64 (c2 : Int)])) w) := fun w => by
    have := sub64 (hiN a) (hiN b) c HC.out w
    rw [HH.out, ← hc2] at this
    exact this
  clear hc2
  unfold wideV
  clear HH HL
  generalize hiN (a - b) = h3 at *
  generalize loN (a - b) = l3 at *
  generalize hiN a = h1 at *
  generalize loN a = l1 at *
  generalize hiN b = h2 at *
  generalize loN b = l2 at *
  go_enter Tryd.func72, Tryd.ntmps72
  go_wp2_with (first | rw [HA1.out] | rw [HA2.out])
  refine bodyPost_ret (v := .agg #[.int .u64 (h3 : Int), .int .u64 (l3 : Int)]) (results_cell_row Tryd.results72 _ _ (w.heap.size + 2) 73 #[.int .u64 (h3 : Int), .int .u64 (l3 : Int)] (0, 0) _ rfl (third _ _ _ _) Tryd.underlying73 rfl Tryd.size73) rfl ?_
  exact ⟨rfl, below3 _ _ _ _⟩

/-! ### Which fit -/
def wide127 (z : Int) : Prop := -170141183460469231731687303715884105728 ≤ z ∧ z < 170141183460469231731687303715884105728
def fitsI (z : Int) : Bool := decide (-9223372036854775808 ≤ z ∧ z ≤ 9223372036854775807)
theorem wrap_small (z : Int) : small (wrap64 (loN z)) := by unfold small loN; simp only [wrap64]; omega
theorem wrap_fits (z : Int) (h : fitsI z = true) : wrap64 (loN z) = z := by
  have h := of_decide_eq_true h
  unfold loN; simp only [wrap64]; omega
theorem fits_iff (z : Int) (h : wide127 z) : fitsI z = true ↔ ((hiN (wrap64 (loN z)) : Int) = hiN z ∧ (loN (wrap64 (loN z)) : Int) = loN z) := by
  constructor
  · intro hf
    rw [wrap_fits z hf]
    exact ⟨rfl, rfl⟩
  · intro ⟨h1, h2⟩
    refine decide_eq_true ?_
    unfold wide127 at h
    have e : wrap64 (loN z) = z := by
      have hs := wrap_small z
      generalize wrap64 (loN z) = y at *
      unfold small at hs
      unfold hiN loN at *
      omega
    have := wrap_small z
    rw [e] at this
    exact this
def numV (z : Int) : Vl := if fitsI z = true then nV z else Vl.zero
def numE (z : Int) : Int := if fitsI z = true then 0 else 161
set_option maxHeartbeats 2000000 in
theorem num_any (z : Int) (h : wide127 z) (w : World) : Calls Tryd.prog 60 #[wideV z] w fun e w' => e = .returned (telling (numV z) (numE z)) ∧ Below w.heap.size w w' := by
  have hF := fits_iff z h
  have HWI : Hid (∀ w, Calls Tryd.prog 59 #[.int .i64 (wrap64 (loN z))] w fun e w' => e = .returned (.agg #[.int .u64 (hiN (wrap64 (loN z)) : Int), .int .u64 (loN (wrap64 (loN z)) : Int)]) ∧ Below w.heap.size w w') := fun w => widen_any _ (wrap_small z) w
  have HF := hide hF
  have HN : Hid (∀ w, Calls Tryd.prog 51 #[.int .i64 (wrap64 (loN z))] w fun e w' => e = .returned (.agg #[.int .i64 1, .int .i64 (wrap64 (loN z)), .string { data := #[] }, .bool false]) ∧ Below w.heap.size w w') := fun w => number_any _ w
  have HZ := hide (wrap_fits z)
  have HT : Hid (telling (numV z) (numE z) = if fitsI z = true then .tuple #[.agg #[.int .i64 1, .int .i64 z, .string { data := #[] }, .bool false], .int .i64 0] else .tuple #[.agg #[.int .i64 0, .int .i64 0, .string { data := #[] }, .bool false], .int .i64 161]) := by
    unfold Hid telling numV numE
    split <;> rfl
  unfold wideV
  clear hF h
  generalize hiN (wrap64 (loN z)) = h2 at *
  generalize loN (wrap64 (loN z)) = l2 at *
  obtain ⟨W1, hW1⟩ : ∃ W1, (w.alloc (.cells #[.int .u64 (hiN z : Int), .int .u64 (loN z : Int)] 73)).alloc (.cells #[.int .i64 0, .int .i64 0, .string { data := #[] }, .bool false] 23) = W1 := ⟨_, rfl⟩
  have HX : Hid (WBox W1 w.heap.size (hiN z) (loN z)) := by rw [← hW1]; exact first2 _ _ _
  have HR : Hid (Box W1 (w.heap.size + 1) Vl.zero) := by rw [← hW1]; exact new2 _ _ _
  have HB : Hid (Below w.heap.size w W1) := by rw [← hW1]; exact ((Below.refl _ w).alloc (Nat.le_refl _) _).alloc (by simp) _
  go_enter Tryd.func60, Tryd.ntmps60
  go_upto_region 1 with fail
  try rw [hW1]
  clear hW1
  obtain ⟨c0, c1⟩ := HX.out.cells
  go_upto_region 2 with fail
  clear c0 c1
  generalize hn : wrap64 (loN z) = n at *
  clear hn
  generalize hq : w.heap.size = q at HX HR ⊢
  have HQ := hide hq
  clear hq
  refine wp_region_held_drew (S := fun w' => WBox w' q (hiN z) (loN z)) (by kernel_rfl) HX.out (fun hH => ?_)
  refine take_to 0 8 (.int .i64 n) rfl (by kernel_rfl) (by kernel_rfl) (by kernel_rfl) (fun _ _ _ h => h) rfl (by rfl) (fun w hw => by rfl) hH ?_
  simp only [Act.put, List.setIfInBounds_toArray, List.set_cons_zero, List.set_cons_succ]
  refine take_to 2 10 (.agg #[.int .u64 (hiN z : Int), .int .u64 (loN z : Int)]) rfl (by kernel_rfl) (by kernel_rfl) (by kernel_rfl) (fun _ _ _ h => h) rfl (by rfl) (fun w hw => op_load _ _ 73 (.tmp 1) rfl (.pointer (some ⟨q, 0, none⟩)) _ rfl (load73 hw)) hH ?_
  simp only [Act.put, List.setIfInBounds_toArray, List.set_cons_zero, List.set_cons_succ]
  refine step_call1_to 1 9 59 rfl (by kernel_rfl) rfl (by rfl) (.tmp 8) _ rfl _ rfl Tryd.enters59 (HWI.out _) ?_
  rintro e W2 ⟨rfl, hb2⟩
  have hx2 := hH.belowW hb2
  have HB2 : Hid (Below W1.heap.size W1 W2) := (below_drewN _ _ 1).trans hb2
  refine ⟨_, rfl, hx2, ?_⟩
  simp only [Act.put, List.setIfInBounds_toArray, List.set_cons_zero, List.set_cons_succ]
  refine step_to 3 11 (.bool (!(fitsI z))) W2 rfl (by kernel_rfl) rfl (by rfl) (op_neq73 _ _ (.tmp 9) (.tmp 10) _ rfl _ _ _ _ rfl rfl _ HF.out) hx2 ?_
  simp only [Act.put, List.setIfInBounds_toArray, List.set_cons_zero, List.set_cons_succ]
  refine wpAnyH_done (by kernel_rfl) ?_ _
  have HR2 := hide (HR.out.belowW HB2.out)
  have HBB : Hid (Below w.heap.size w W2) := HB.out.trans (HB2.out.mono (Nat.le_trans (by rw [HQ.out]; exact Nat.le_refl _) HB.out.size))
  clear HX hH hx2 hb2 HB2
  cases hf : fitsI z with
  | false =>
    rw [hf] at HT
    go_wp2_with (refine wpList_store_val rfl (.tmp 2) (.tmp 12) rfl rfl (q + 1) Vl.zero Vl.zero rfl rfl HR2.out ?_)
    refine bodyPost_ret (v := .tuple #[.agg #[.int .i64 0, .int .i64 0, .string { data := #[] }, .bool false], .int .i64 161]) (results_ct Tryd.results60 _ _ (q + 1) 23 _ (0, 0) _ rfl (Box.after HR2.out Vl.zero) Tryd.underlying23 rfl Tryd.size23) rfl ?_
    refine ⟨by rw [HT.out]; rfl, ?_⟩
    exact below_setRow HBB.out (by rw [HQ.out]; omega) _
  | true =>
    rw [hf] at HT
    have e := HZ.out hf
    subst e
    have HR3 : Hid (∀ W, Below W2.heap.size W2 W → Box W (q + 1) Vl.zero) := fun W h => HR2.out.belowW h
    go_wp2_with (first
      | (go_at_call 51; refine (HN.out _).mono ?_; rintro e W3 ⟨rfl, hb3⟩; have HB3 := hide hb3; clear hb3)
      | (refine wpList_store_val rfl (.tmp 2) (.tmp 14) rfl rfl (q + 1) Vl.zero (nV n) rfl rfl (HR3.out _ HB3.out) ?_))
    refine bodyPost_ret (v := .tuple #[.agg #[.int .i64 1, .int .i64 n, .string { data := #[] }, .bool false], .int .i64 0]) (results_ct Tryd.results60 _ _ (q + 1) 23 _ (0, 0) _ rfl (Box.after (HR3.out _ HB3.out) (nV n)) Tryd.underlying23 rfl Tryd.size23) rfl ?_
    refine ⟨by rw [HT.out]; rfl, ?_⟩
    exact below_setRow (HBB.out.trans (HB3.out.mono HBB.out.size)) (by rw [HQ.out]; omega) _
end Go.Proofs.YtigafjdacllohaaDoor
