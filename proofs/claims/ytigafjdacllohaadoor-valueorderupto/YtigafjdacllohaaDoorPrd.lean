/- Products and quotients of two words; reckon. -/
import Derived.Test.YtigafjdacllohaaDoorRck
namespace Go.Proofs.YtigafjdacllohaaDoor
open Go.RowKit
set_option linter.unusedVariables false
set_option linter.unusedSimpArgs false
set_option maxRecDepth 100000

theorem loN_cast (a : Int) : (loN a : Int) = a % 18446744073709551616 := by unfold loN; omega
theorem prod_lo (a b : Int) : loN a * loN b % 18446744073709551616 = loN (a * b) := by
  have h : ((loN a * loN b % 18446744073709551616 : Nat) : Int) = (loN (a * b) : Int) := by
    rw [Int.natCast_emod, Int.natCast_mul, loN_cast, loN_cast, loN_cast]
    exact (Int.mul_emod a b 18446744073709551616).symm
  exact Int.ofNat_inj.1 h
theorem prod_q (a b s t : Int) (A B : Int) (hA : A = a + 18446744073709551616 * s) (hB : B = b + 18446744073709551616 * t) : A * B / 18446744073709551616 = a * b / 18446744073709551616 + (s * b + t * a + s * t * 18446744073709551616) := by
  subst hA hB
  have e : (a + 18446744073709551616 * s) * (b + 18446744073709551616 * t) = a * b + 18446744073709551616 * (s * b + t * a + s * t * 18446744073709551616) := by
    rw [Int.add_mul, Int.mul_add, Int.mul_add, Int.mul_add, Int.mul_add]
    have h1 : a * (18446744073709551616 * t) = 18446744073709551616 * (t * a) := by rw [Int.mul_left_comm, Int.mul_comm a t]
    have h2 : 18446744073709551616 * s * b = 18446744073709551616 * (s * b) := Int.mul_assoc _ _ _
    have h3 : 18446744073709551616 * s * (18446744073709551616 * t) = 18446744073709551616 * (s * t * 18446744073709551616) := by
      rw [Int.mul_assoc, Int.mul_left_comm s, Int.mul_comm 18446744073709551616 (s * t)]
    rw [h1, h2, h3]
    omega
  rw [e, Int.add_mul_ediv_left _ _ (by omega)]
theorem prod_h (a b s t : Int) (ha : (loN a : Int) = a + 18446744073709551616 * s) (hb : (loN b : Int) = b + 18446744073709551616 * t) : ((loN a * loN b / 18446744073709551616 : Nat) : Int) = a * b / 18446744073709551616 + (s * b + t * a + s * t * 18446744073709551616) := by
  rw [Int.natCast_ediv, Int.natCast_mul]
  exact prod_q a b s t _ _ ha hb
theorem lo_pos (a : Int) (h : small a) (h0 : ¬ a < 0) : (loN a : Int) = a + 18446744073709551616 * 0 := by rw [loN_cast]; unfold small at h; omega
theorem lo_neg (a : Int) (h : small a) (h0 : a < 0) : (loN a : Int) = a + 18446744073709551616 * 1 := by rw [loN_cast]; unfold small at h; omega
theorem hiN_cast (z : Int) : (hiN z : Int) = z / 18446744073709551616 % 18446744073709551616 := by unfold hiN; omega
theorem mul_lt (a b : Int) : loN a * loN b / 18446744073709551616 < 18446744073709551616 := by
  refine Nat.div_lt_of_lt_mul ?_
  have h1 := lo_lt a
  have h2 := lo_lt b
  exact Nat.mul_lt_mul_of_lt_of_le h1 (Nat.le_of_lt h2) (by omega)
set_option maxHeartbeats 2000000 in
theorem product_any (a b : Int) (ha : small a) (hb : small b) (w : World) : Calls Tryd.prog 73 #[.int .i64 a, .int .i64 b] w fun e w' => e = .returned (wideV (a * b)) ∧ Below w.heap.size w w' := by
  have HCA := wrap_lo a
  have HCB := wrap_lo b
  have HML := hide (prod_lo a b)
  have HW : Hid (wideV (a * b) = .agg #[.int .u64 (hiN (a * b) : Int), .int .u64 (loN (a * b) : Int)]) := rfl
  have HMU : Hid (∀ w, Calls Tryd.prog 86 #[.int .u64 (loN a : Int), .int .u64 (loN b : Int)] w fun e w' => e = .returned (.tuple #[.int .u64 ((loN a * loN b / 18446744073709551616 : Nat) : Int), .int .u64 ((loN a * loN b % 18446744073709551616 : Nat) : Int)]) ∧ w' = w) := fun w => Tryd.bits_Mul64 _ _ (lo_lt a) (lo_lt b) w
  rw [HML.out] at HMU
  have HLT := hide (mul_lt a b)
  have HH : Hid (∀ s t, (loN a : Int) = a + 18446744073709551616 * s → (loN b : Int) = b + 18446744073709551616 * t → ((loN a * loN b / 18446744073709551616 : Nat) : Int) = a * b / 18446744073709551616 + (s * b + t * a + s * t * 18446744073709551616)) := fun s t h1 h2 => prod_h a b s t h1 h2
  have HQ := hide (hiN_cast (a * b))
  generalize loN a * loN b / 18446744073709551616 = h at *
  generalize loN (a * b) = l at *
  generalize hiN (a * b) = h3 at *
  generalize a * b / 18446744073709551616 = q at *
  by_cases h1 : a < 0
  · have d1 : decide (a < 0) = true := decide_eq_true h1
    have HA := hide (lo_neg a ha h1)
    by_cases h2 : b < 0
    · have d2 : decide (b < 0) = true := decide_eq_true h2
      have HB := hide (lo_neg b hb h2)
      have HE := hide (HH.out 1 1 HA.out HB.out)
      clear h1 h2 ha hb HH HML
      generalize loN a = la at *
      generalize loN b = lb at *
      have HX : Hid ((IntKind.u64.wrap ((IntKind.u64.wrap ((h : Int) - (lb : Int))) - (la : Int))) = (h3 : Int)) := by
        have e1 := HE.out
        have e2 := HA.out
        have e3 := HB.out
        have e4 := HQ.out
        have e5 := HLT.out
        clear HE HA HB HQ HLT HMU HW HCA HCB d1 d2
        simp only [Hid, IntKind.wrap_u64]
        omega
      clear HE HA HB HQ HLT
      go_enter Tryd.func73, Tryd.ntmps73
      go_wp2_with (go_at_call 86; refine (HMU.out _).mono ?_; rintro e w' ⟨rfl, hw⟩; have hw := hw.symm; subst hw)
      refine bodyPost_ret (v := .agg #[.int .u64 (IntKind.u64.wrap ((IntKind.u64.wrap ((h : Int) - (lb : Int))) - (la : Int))), .int .u64 (l : Int)]) (results_cell_row Tryd.results73 _ _ w.heap.size 73 #[.int .u64 (IntKind.u64.wrap ((IntKind.u64.wrap ((h : Int) - (lb : Int))) - (la : Int))), .int .u64 (l : Int)] (0, 0) _ rfl (heap_alloc_new _ _) Tryd.underlying73 rfl Tryd.size73) rfl ?_
      rw [HW.out, HX.out]
      exact ⟨rfl, (Below.refl _ w).alloc (Nat.le_refl _) _⟩
    · have d2 : decide (b < 0) = false := decide_eq_false h2
      have HB := hide (lo_pos b hb h2)
      have HE := hide (HH.out 1 0 HA.out HB.out)
      clear h1 h2 ha hb HH HML
      generalize loN a = la at *
      generalize loN b = lb at *
      have HX : Hid ((IntKind.u64.wrap ((h : Int) - (lb : Int))) = (h3 : Int)) := by
        have e1 := HE.out
        have e2 := HA.out
        have e3 := HB.out
        have e4 := HQ.out
        have e5 := HLT.out
        clear HE HA HB HQ HLT HMU HW HCA HCB d1 d2
        simp only [Hid, IntKind.wrap_u64]
        omega
      clear HE HA HB HQ HLT
      go_enter Tryd.func73, Tryd.ntmps73
      go_wp2_with (go_at_call 86; refine (HMU.out _).mono ?_; rintro e w' ⟨rfl, hw⟩; have hw := hw.symm; subst hw)
      refine bodyPost_ret (v := .agg #[.int .u64 (IntKind.u64.wrap ((h : Int) - (lb : Int))), .int .u64 (l : Int)]) (results_cell_row Tryd.results73 _ _ w.heap.size 73 #[.int .u64 (IntKind.u64.wrap ((h : Int) - (lb : Int))), .int .u64 (l : Int)] (0, 0) _ rfl (heap_alloc_new _ _) Tryd.underlying73 rfl Tryd.size73) rfl ?_
      rw [HW.out, HX.out]
      exact ⟨rfl, (Below.refl _ w).alloc (Nat.le_refl _) _⟩
  · have d1 : decide (a < 0) = false := decide_eq_false h1
    have HA := hide (lo_pos a ha h1)
    by_cases h2 : b < 0
    · have d2 : decide (b < 0) = true := decide_eq_true h2
      have HB := hide (lo_neg b hb h2)
      have HE := hide (HH.out 0 1 HA.out HB.out)
      clear h1 h2 ha hb HH HML
      generalize loN a = la at *
      generalize loN b = lb at *
      have HX : Hid ((IntKind.u64.wrap ((h : Int) - (la : Int))) = (h3 : Int)) := by
        have e1 := HE.out
        have e2 := HA.out
        have e3 := HB.out
        have e4 := HQ.out
        have e5 := HLT.out
        clear HE HA HB HQ HLT HMU HW HCA HCB d1 d2
        simp only [Hid, IntKind.wrap_u64]
        omega
      clear HE HA HB HQ HLT
      go_enter Tryd.func73, Tryd.ntmps73
      go_wp2_with (go_at_call 86; refine (HMU.out _).mono ?_; rintro e w' ⟨rfl, hw⟩; have hw := hw.symm; subst hw)
      refine bodyPost_ret (v := .agg #[.int .u64 (IntKind.u64.wrap ((h : Int) - (la : Int))), .int .u64 (l : Int)]) (results_cell_row Tryd.results73 _ _ w.heap.size 73 #[.int .u64 (IntKind.u64.wrap ((h : Int) - (la : Int))), .int .u64 (l : Int)] (0, 0) _ rfl (heap_alloc_new _ _) Tryd.underlying73 rfl Tryd.size73) rfl ?_
      rw [HW.out, HX.out]
      exact ⟨rfl, (Below.refl _ w).alloc (Nat.le_refl _) _⟩
    · have d2 : decide (b < 0) = false := decide_eq_false h2
      have HB := hide (lo_pos b hb h2)
      have HE := hide (HH.out 0 0 HA.out HB.out)
      clear h1 h2 ha hb HH HML
      generalize loN a = la at *
      generalize loN b = lb at *
      have HX : Hid ((h : Int) = (h3 : Int)) := by
        have e1 := HE.out
        have e2 := HA.out
        have e3 := HB.out
        have e4 := HQ.out
        have e5 := HLT.out
        clear HE HA HB HQ HLT HMU HW HCA HCB d1 d2
        show _ = _
        omega
      clear HE HA HB HQ HLT
      go_enter Tryd.func73, Tryd.ntmps73
      go_wp2_with (go_at_call 86; refine (HMU.out _).mono ?_; rintro e w' ⟨rfl, hw⟩; have hw := hw.symm; subst hw)
      refine bodyPost_ret (v := .agg #[.int .u64 (h : Int), .int .u64 (l : Int)]) (results_cell_row Tryd.results73 _ _ w.heap.size 73 #[.int .u64 (h : Int), .int .u64 (l : Int)] (0, 0) _ rfl (heap_alloc_new _ _) Tryd.underlying73 rfl Tryd.size73) rfl ?_
      rw [HW.out, HX.out]
      exact ⟨rfl, (Below.refl _ w).alloc (Nat.le_refl _) _⟩
theorem tdiv_neg1 (a : Int) : a.tdiv (-1) = 0 - a := by rw [Int.tdiv_neg, Int.tdiv_one]; omega
theorem tdiv_small (a b : Int) (ha : small a) (h0 : b ≠ 0) (h1 : b ≠ -1) : small (a.tdiv b) := by
  have h2 : (a.tdiv b).natAbs ≤ a.natAbs := by rw [Int.natAbs_tdiv]; exact Nat.div_le_self _ _
  unfold small at *
  have h3 : a.natAbs = 9223372036854775808 → b.natAbs = 1 ∨ (a.tdiv b).natAbs ≤ 4611686018427387904 := fun e => by
    rw [Int.natAbs_tdiv, e]
    by_cases hb : b.natAbs = 1
    · exact .inl hb
    · right
      have : 2 ≤ b.natAbs := by omega
      exact Nat.le_trans (Nat.div_le_div_left this (by omega)) (by decide)
  by_cases hb1 : b = 1
  · subst hb1; rw [Int.tdiv_one]; omega
  · omega
theorem tmod_small (a b : Int) (ha : small a) : small (a.tmod b) := by
  have h2 : (a.tmod b).natAbs ≤ a.natAbs := by rw [Int.natAbs_tmod]; exact Nat.mod_le _ _
  by_cases h : a < 0
  · have : a.tmod b ≤ 0 := by
      have := Int.tmod_nonneg (a := -a) b (by omega)
      rw [Int.neg_tmod] at this
      omega
    unfold small at *
    omega
  · have := Int.tmod_nonneg (a := a) b (by omega)
    unfold small at *
    omega
theorem wrap_id {a : Int} (h : small a) : wrap64 a = a := by unfold small at h; simp only [wrap64]; omega
theorem zero_w (w : World) : WBox (w.alloc (.cells #[.int .u64 0, .int .u64 0] 73)) w.heap.size 0 0 := heap_alloc_new _ _
set_option maxHeartbeats 2000000 in
theorem quotient_any (a b : Int) (ha : small a) (hb : small b) (h0 : b ≠ 0) (w : World) : Calls Tryd.prog 74 #[.int .i64 a, .int .i64 b] w fun e w' => e = .returned (wideV (a.tdiv b)) ∧ Below w.heap.size w w' := by
  have HR := hide (zero_w w)
  have HWI : Hid (∀ n, small n → ∀ w, Calls Tryd.prog 59 #[.int .i64 n] w fun e w' => e = .returned (.agg #[.int .u64 (hiN n : Int), .int .u64 (loN n : Int)]) ∧ Below w.heap.size w w') := fun n h w => widen_any n h w
  have HMI : Hid (∀ n w, Calls Tryd.prog 72 #[.agg #[.int .u64 0, .int .u64 0], .agg #[.int .u64 (hiN n : Int), .int .u64 (loN n : Int)]] w fun e w' => e = .returned (.agg #[.int .u64 (hiN (0 - n) : Int), .int .u64 (loN (0 - n) : Int)]) ∧ Below w.heap.size w w') := fun n w => minus_any 0 n w
  have HAL : Hid (Below w.heap.size w (w.alloc (.cells #[.int .u64 0, .int .u64 0] 73))) := (Below.refl _ w).alloc (Nat.le_refl _) _
  by_cases h1 : b = -1
  · subst h1
    have HE := hide (tdiv_neg1 a)
    have HWV : Hid (wideV (0 - a) = .agg #[.int .u64 (hiN (0 - a) : Int), .int .u64 (loN (0 - a) : Int)]) := rfl
    have HWa := hide (HWI.out a ha)
    have HMa := hide (HMI.out a)
    rw [HE.out]
    clear ha hb h0 HE HWI HMI
    generalize hiN a = h1 at *
    generalize loN a = l1 at *
    generalize hiN (0 - a) = h2 at *
    generalize loN (0 - a) = l2 at *
    go_enter Tryd.func74, Tryd.ntmps74
    go_wp2_with (first
      | (go_at_call 59; refine (HWa.out _).mono ?_; rintro e w1 ⟨rfl, hb1⟩; have HB1 := hide hb1; clear hb1)
      | (go_at_call 72; refine (HMa.out _).mono ?_; rintro e w2 ⟨rfl, hb2⟩; have HB2 := hide hb2; clear hb2)
      | (refine wpList_store_w rfl (.tmp 4) (.tmp 10) rfl rfl w.heap.size 0 0 (h2 : Int) (l2 : Int) rfl rfl ((HR.out.belowW HB1.out).belowW HB2.out) ?_))
    refine bodyPost_ret (v := .agg #[.int .u64 (h2 : Int), .int .u64 (l2 : Int)]) (results_cell_row Tryd.results74 _ _ w.heap.size 73 _ (0, 0) _ rfl (WBox.after ((HR.out.belowW HB1.out).belowW HB2.out) (h2 : Int) (l2 : Int)) Tryd.underlying73 rfl Tryd.size73) rfl ?_
    rw [HWV.out]
    exact ⟨rfl, below_setRow ((HAL.out.trans (HB1.out.mono HAL.out.size)).trans (HB2.out.mono (Nat.le_trans HAL.out.size HB1.out.size))) (Nat.le_refl _) _⟩
  · have k1 : (b == -1) = false := beq_eq_false_iff_ne.2 h1
    have k0 : (b == 0) = false := beq_eq_false_iff_ne.2 h0
    have hs := tdiv_small a b ha h0 h1
    have HE : Hid (wrap64 (a.tdiv b) = a.tdiv b) := wrap_id hs
    have HWV : Hid (wideV (a.tdiv b) = .agg #[.int .u64 (hiN (a.tdiv b) : Int), .int .u64 (loN (a.tdiv b) : Int)]) := rfl
    have HWa : Hid (∀ w, Calls Tryd.prog 59 #[.int .i64 (wrap64 (a.tdiv b))] w fun e w' => e = .returned (.agg #[.int .u64 (hiN (a.tdiv b) : Int), .int .u64 (loN (a.tdiv b) : Int)]) ∧ Below w.heap.size w w') := by
      rw [HE.out]
      exact HWI.out _ hs
    clear h1 ha hb hs HE HWI HMI
    generalize hiN (a.tdiv b) = h2 at *
    generalize loN (a.tdiv b) = l2 at *
    go_enter Tryd.func74, Tryd.ntmps74
    go_wp2_with (first
      | (go_at_call 59; refine (HWa.out _).mono ?_; rintro e w1 ⟨rfl, hb1⟩; have HB1 := hide hb1; clear hb1)
      | (refine wpList_store_w rfl (.tmp 4) (.tmp 14) rfl rfl w.heap.size 0 0 (h2 : Int) (l2 : Int) rfl rfl (HR.out.belowW HB1.out) ?_))
    refine bodyPost_ret (v := .agg #[.int .u64 (h2 : Int), .int .u64 (l2 : Int)]) (results_cell_row Tryd.results74 _ _ w.heap.size 73 _ (0, 0) _ rfl (WBox.after (HR.out.belowW HB1.out) (h2 : Int) (l2 : Int)) Tryd.underlying73 rfl Tryd.size73) rfl ?_
    rw [HWV.out]
    exact ⟨rfl, below_setRow (HAL.out.trans (HB1.out.mono HAL.out.size)) (Nat.le_refl _) _⟩
end Go.Proofs.YtigafjdacllohaaDoor
