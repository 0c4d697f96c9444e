/- The document's numbers. -/
import Derived.Test.YtigafjdacllohaaDoorMat
namespace Go.Proofs.YtigafjdacllohaaDoor
open Go.RowKit
set_option linter.unusedVariables false
set_option linter.unusedSimpArgs false
set_option maxRecDepth 100000

theorem numV_t {z : Int} (h : fitsI z = true) : (numV z).n = z ∧ numE z = 0 := by unfold numV numE; rw [if_pos h, if_pos h]; exact ⟨rfl, rfl⟩
theorem numV_f {z : Int} (h : fitsI z = false) : (numV z).n = 0 ∧ numE z = 161 := by
  have h' : ¬ fitsI z = true := by rw [h]; decide
  unfold numV numE; rw [if_neg h', if_neg h']; exact ⟨rfl, rfl⟩
theorem fits_is (z : Int) : (fitsI z = true ∧ wrap64 z = z) ∨ (fitsI z = false ∧ (z < -9223372036854775808 ∨ 9223372036854775807 < z)) := by
  cases h : fitsI z
  · right
    have := of_decide_eq_false h
    exact ⟨rfl, by omega⟩
  · left
    have h2 : small z := by have := of_decide_eq_true h; exact this
    exact ⟨rfl, wrap_id h2⟩
set_option maxHeartbeats 4000000 in
theorem radd_any (a b : Int) (ha : small a) (hb : small b) (w : World) : Calls Tryd.prog 50 #[.int .i64 18, .int .i64 a, .int .i64 b] w fun e w' => e = .returned (.tuple #[.int .i64 (numV (a + b)).n, .int .i64 (numE (a + b))]) ∧ w' = w := by
  obtain ⟨s, hs⟩ : ∃ s, wrap64 (a + b) = s := ⟨_, rfl⟩
  rcases fits_is (a + b) with ⟨h, h1⟩ | ⟨h, h1⟩
  · have HN := hide (numV_t h).1
    have HE := hide (numV_t h).2
    have HS : Hid (s = a + b) := by rw [← hs]; exact h1
    have HC : Hid (¬ (0 < a ∧ 0 < b ∧ s ≤ 0) ∧ ¬ (a < 0 ∧ b < 0 ∧ 0 ≤ s)) := by
      rw [Hid, HS.out]
      unfold small at ha hb
      have := of_decide_eq_true h
      omega
    clear h h1 ha hb
    go_enter Tryd.func50, Tryd.ntmps50
    go_wp2
    all_goals first
      | (refine bodyPost_ret (results_tmp2 rfl _ _ _) rfl ?_; rw [HN.out, HE.out, ← HS.out]; exact ⟨rfl, rfl⟩)
      | (exfalso; have := HC.out; omega)
  · have HN := hide (numV_f h).1
    have HE := hide (numV_f h).2
    have HC : Hid (0 < a ∧ 0 < b ∧ s ≤ 0 ∨ a < 0 ∧ b < 0 ∧ 0 ≤ s) := by
      rw [Hid, ← hs]
      unfold small at ha hb
      simp only [wrap64]
      omega
    clear h h1 ha hb
    go_enter Tryd.func50, Tryd.ntmps50
    go_wp2
    all_goals first
      | (exfalso; have := HC.out; omega)
      | (refine bodyPost_ret (results_tmp2 rfl _ _ _) rfl ?_; rw [HN.out, HE.out]; exact ⟨rfl, rfl⟩)
set_option maxHeartbeats 4000000 in
theorem rsub_any (a b : Int) (ha : small a) (hb : small b) (w : World) : Calls Tryd.prog 50 #[.int .i64 19, .int .i64 a, .int .i64 b] w fun e w' => e = .returned (.tuple #[.int .i64 (numV (a - b)).n, .int .i64 (numE (a - b))]) ∧ w' = w := by
  obtain ⟨s, hs⟩ : ∃ s, wrap64 (a - b) = s := ⟨_, rfl⟩
  rcases fits_is (a - b) with ⟨h, h1⟩ | ⟨h, h1⟩
  · have HN := hide (numV_t h).1
    have HE := hide (numV_t h).2
    have HS : Hid (s = a - b) := by rw [← hs]; exact h1
    have HC : Hid (¬ (0 ≤ a ∧ b < 0 ∧ s < 0) ∧ ¬ (a < 0 ∧ 0 < b ∧ 0 ≤ s)) := by
      rw [Hid, HS.out]
      unfold small at ha hb
      have := of_decide_eq_true h
      omega
    clear h h1 ha hb
    go_enter Tryd.func50, Tryd.ntmps50
    go_wp2
    all_goals first
      | (refine bodyPost_ret (results_tmp2 rfl _ _ _) rfl ?_; rw [HN.out, HE.out, ← HS.out]; exact ⟨rfl, rfl⟩)
      | (exfalso; have := HC.out; omega)
  · have HN := hide (numV_f h).1
    have HE := hide (numV_f h).2
    have HC : Hid (0 ≤ a ∧ b < 0 ∧ s < 0 ∨ a < 0 ∧ 0 < b ∧ 0 ≤ s) := by
      rw [Hid, ← hs]
      unfold small at ha hb
      simp only [wrap64]
      omega
    clear h h1 ha hb
    go_enter Tryd.func50, Tryd.ntmps50
    go_wp2
    all_goals first
      | (exfalso; have := HC.out; omega)
      | (refine bodyPost_ret (results_tmp2 rfl _ _ _) rfl ?_; rw [HN.out, HE.out]; exact ⟨rfl, rfl⟩)
theorem back_div (a b : Int) (ha : small a) (hb : small b) (h0 : b ≠ 0) : ((wrap64 (a * b)).tdiv b == a) = fitsI (a * b) := by
  rcases fits_is (a * b) with ⟨h, h1⟩ | ⟨h, h1⟩
  · rw [h, h1, Int.mul_tdiv_cancel _ h0]
    simp
  · rw [h]
    refine beq_eq_false_iff_ne.2 fun e => ?_
    have hm := Int.mul_tdiv_add_tmod (wrap64 (a * b)) b
    rw [e] at hm
    have ht : ((wrap64 (a * b)).tmod b).natAbs < b.natAbs := by rw [Int.natAbs_tmod]; exact Nat.mod_lt _ (by omega)
    rw [Int.mul_comm] at hm
    generalize (wrap64 (a * b)).tmod b = r at *
    generalize a * b = z at *
    unfold small at hb
    have hw : wrap64 z = (z + 9223372036854775808) % 18446744073709551616 - 9223372036854775808 := by simp only [wrap64]
    omega
theorem wrap_div (a b : Int) (ha : small a) (hb : small b) (h0 : b ≠ 0) (h1 : ¬ (b = -1 ∧ a = -9223372036854775808)) : wrap64 ((wrap64 (a * b)).tdiv b) = (wrap64 (a * b)).tdiv b := by
  refine wrap_id ?_
  have hs : small (wrap64 (a * b)) := by unfold small; simp only [wrap64]; omega
  by_cases h : b = -1
  · subst h
    have ha2 : small (0 - a) := by unfold small at *; omega
    have e : wrap64 (a * -1) = 0 - a := by rw [show a * -1 = 0 - a by omega]; exact wrap_id ha2
    rw [e, tdiv_neg1, show 0 - (0 - a) = a by omega]
    exact ha
  · exact tdiv_small _ _ hs h0 h
set_option maxHeartbeats 4000000 in
theorem rprod_any (a b : Int) (ha : small a) (hb : small b) (w : World) : Calls Tryd.prog 76 #[.int .i64 a, .int .i64 b] w fun e w' => (∃ p, e = .returned (.tuple #[.int .i64 p, .bool (fitsI (a * b))]) ∧ (fitsI (a * b) = true → p = a * b)) ∧ Below w.heap.size w w' := by
  by_cases ha0 : a = 0
  · subst ha0
    have hf : fitsI (0 * b) = true := by rw [Int.zero_mul]; rfl
    have HF := hide hf
    have HZ : Hid ((0 : Int) * b = 0) := Int.zero_mul b
    clear ha hb hf
    go_enter Tryd.func76, Tryd.ntmps76
    go_wp2
    refine bodyPost_ret (results_tmp2 rfl _ _ _) rfl ?_
    rw [HF.out]
    exact ⟨⟨_, rfl, fun _ => HZ.out.symm⟩, Below.refl _ _⟩
  by_cases hb0 : b = 0
  · subst hb0
    have hf : fitsI (a * 0) = true := by rw [Int.mul_zero]; rfl
    have HF := hide hf
    have HZ : Hid (a * (0 : Int) = 0) := Int.mul_zero a
    have k0 : (a == 0) = false := beq_eq_false_iff_ne.2 ha0
    clear ha hb hf ha0
    go_enter Tryd.func76, Tryd.ntmps76
    go_wp2
    refine bodyPost_ret (results_tmp2 rfl _ _ _) rfl ?_
    rw [HF.out]
    exact ⟨⟨_, rfl, fun _ => HZ.out.symm⟩, Below.refl _ _⟩
  have k0 : (a == 0) = false := beq_eq_false_iff_ne.2 ha0
  have j0 : (b == 0) = false := beq_eq_false_iff_ne.2 hb0
  by_cases hs1 : a = -1 ∧ b = -9223372036854775808
  · obtain ⟨rfl, rfl⟩ := hs1
    clear ha hb ha0 hb0 k0 j0
    have HF : Hid (fitsI (-1 * -9223372036854775808) = false) := rfl
    go_enter Tryd.func76, Tryd.ntmps76
    go_wp2
    refine bodyPost_ret (results_tmp2 rfl _ _ _) rfl ?_
    rw [HF.out]
    exact ⟨⟨_, rfl, fun h => by cases h⟩, Below.refl _ _⟩
  by_cases hs2 : b = -1 ∧ a = -9223372036854775808
  · obtain ⟨rfl, rfl⟩ := hs2
    clear ha hb ha0 hb0 k0 j0 hs1
    have HF : Hid (fitsI (-9223372036854775808 * -1) = false) := rfl
    go_enter Tryd.func76, Tryd.ntmps76
    go_wp2
    refine bodyPost_ret (results_tmp2 rfl _ _ _) rfl ?_
    rw [HF.out]
    exact ⟨⟨_, rfl, fun h => by cases h⟩, Below.refl _ _⟩
  have HBD := hide (back_div a b ha hb hb0)
  have HWD := hide (wrap_div a b ha hb hb0 hs2)
  have HFP : Hid (fitsI (a * b) = true → wrap64 (a * b) = a * b) := fun h => by
    rcases fits_is (a * b) with ⟨_, h1⟩ | ⟨h1, _⟩
    · exact h1
    · rw [h] at h1; cases h1
  obtain ⟨p, hp⟩ : ∃ p, wrap64 (a * b) = p := ⟨_, rfl⟩
  rw [hp] at HBD HWD HFP
  have hq1 : (a == -1 && b == -9223372036854775808) = false := by
    rw [Bool.and_eq_false_iff]
    by_cases h : a = -1
    · right; exact beq_eq_false_iff_ne.2 (fun h2 => hs1 ⟨h, h2⟩)
    · left; exact beq_eq_false_iff_ne.2 h
  have hq2 : (b == -1 && a == -9223372036854775808) = false := by
    rw [Bool.and_eq_false_iff]
    by_cases h : b = -1
    · right; exact beq_eq_false_iff_ne.2 (fun h2 => hs2 ⟨h, h2⟩)
    · left; exact beq_eq_false_iff_ne.2 h
  have HQ1 := hide hq1
  have HQ2 := hide hq2
  clear hq1 hq2 hs1 hs2 ha hb ha0
  have fin : ∀ (x1 x2 y1 y2 : Bool), (a == -1) = x1 → (b == -9223372036854775808) = x2 → (b == -1) = y1 → (a == -9223372036854775808) = y2 → (x1 && x2) = false → (y1 && y2) = false → Calls Tryd.prog 76 #[.int .i64 a, .int .i64 b] w fun e w' => (∃ p, e = .returned (.tuple #[.int .i64 p, .bool (fitsI (a * b))]) ∧ (fitsI (a * b) = true → p = a * b)) ∧ Below w.heap.size w w' := by
    intro x1 x2 y1 y2 e1 e2 e3 e4 n1 n2
    clear HQ1 HQ2
    have e5 := HWD.out
    have e6 := HBD.out
    clear HWD HBD
    generalize fitsI (a * b) = ft at *
    cases x1 <;> cases x2 <;> cases y1 <;> cases y2 <;> first
      | (cases n1; done)
      | (cases n2; done)
      | (clear n1 n2
         go_enter Tryd.func76, Tryd.ntmps76
         go_upto_region 6 with fail
         go_quiet (fail)
         go_wp2
         refine bodyPost_ret (results_tmp2 rfl _ _ _) rfl ?_
         exact ⟨⟨_, rfl, fun h => hp.trans (HFP.out h)⟩, below_drewN _ _ _⟩)
  exact fin _ _ _ _ rfl rfl rfl rfl HQ1.out HQ2.out
theorem rck_z (op a b : Int) (h : ¬ ((op = 21 ∨ op = 22) ∧ b = 0)) : rckV op a b = numV (zOf op a b) ∧ rckE op a b = numE (zOf op a b) := ⟨if_neg h, if_neg h⟩
theorem rck_0 (op a : Int) (h : op = 21 ∨ op = 22) : rckV op a 0 = Vl.zero ∧ rckE op a 0 = 162 := ⟨if_pos ⟨h, rfl⟩, if_pos ⟨h, rfl⟩⟩
theorem rmul_any (a b : Int) (ha : small a) (hb : small b) (w : World) : Calls Tryd.prog 50 #[.int .i64 20, .int .i64 a, .int .i64 b] w fun e w' => e = .returned (.tuple #[.int .i64 (numV (a * b)).n, .int .i64 (numE (a * b))]) ∧ Below w.heap.size w w' := by
  have HP : Hid (∀ w, Calls Tryd.prog 76 #[.int .i64 a, .int .i64 b] w fun e w' => (∃ p, e = .returned (.tuple #[.int .i64 p, .bool (fitsI (a * b))]) ∧ (fitsI (a * b) = true → p = a * b)) ∧ Below w.heap.size w w') := rprod_any a b ha hb
  have HT : Hid (fitsI (a * b) = true → (numV (a * b)).n = a * b ∧ numE (a * b) = 0) := numV_t
  have HF : Hid (fitsI (a * b) = false → (numV (a * b)).n = 0 ∧ numE (a * b) = 161) := numV_f
  clear ha hb
  generalize a * b = z at *
  generalize fitsI z = ft at *
  cases ft
  · have HN := hide (HF.out rfl).1
    have HE := hide (HF.out rfl).2
    clear HF HT
    go_enter Tryd.func50, Tryd.ntmps50
    go_wp2_with (go_at_call 76; refine (HP.out _).mono ?_; rintro e w1 ⟨⟨p, rfl, _⟩, hb1⟩; have HB1 := hide hb1; clear hb1)
    refine bodyPost_ret (results_tmp2 rfl _ _ _) rfl ?_
    rw [HN.out, HE.out]
    exact ⟨rfl, HB1.out⟩
  · have HN := hide (HT.out rfl).1
    have HE := hide (HT.out rfl).2
    clear HF HT
    go_enter Tryd.func50, Tryd.ntmps50
    go_wp2_with (go_at_call 76; refine (HP.out _).mono ?_; rintro e w1 ⟨⟨p, rfl, hp⟩, hb1⟩; have HB1 := hide hb1; have HPZ := hide (hp rfl); clear hb1 hp)
    refine bodyPost_ret (results_tmp2 rfl _ _ _) rfl ?_
    rw [HN.out, HE.out, ← HPZ.out]
    exact ⟨rfl, HB1.out⟩
theorem wrap_neg (a : Int) (h : small a) (h1 : a ≠ -9223372036854775808) : wrap64 (-a) = -a := by
  refine wrap_id ?_
  unfold small at *
  omega
set_option maxHeartbeats 2000000 in
theorem rquo_any (a b : Int) (ha : small a) (hb : small b) (w : World) : Calls Tryd.prog 50 #[.int .i64 21, .int .i64 a, .int .i64 b] w fun e w' => e = .returned (.tuple #[.int .i64 (rckV 21 a b).n, .int .i64 (rckE 21 a b)]) ∧ w' = w := by
  by_cases h0 : b = 0
  · subst h0
    have HN := hide (rck_0 21 a (by omega))
    clear ha hb
    go_enter Tryd.func50, Tryd.ntmps50
    go_wp2
    refine bodyPost_ret (results_tmp2 rfl _ _ _) rfl ?_
    rw [HN.out.1, HN.out.2]
    exact ⟨rfl, rfl⟩
  have k0 : (b == 0) = false := beq_eq_false_iff_ne.2 h0
  have HZ : Hid (rckV 21 a b = numV (a.tdiv b) ∧ rckE 21 a b = numE (a.tdiv b)) := rck_z 21 a b (fun h => h0 h.2)
  by_cases h1 : b = -1
  · subst h1
    by_cases h2 : a = -9223372036854775808
    · subst h2
      clear ha hb h0 k0
      have HF : Hid ((numV ((-9223372036854775808 : Int).tdiv (-1))).n = 0 ∧ numE ((-9223372036854775808 : Int).tdiv (-1)) = 161) := numV_f rfl
      go_enter Tryd.func50, Tryd.ntmps50
      go_wp2
      refine bodyPost_ret (results_tmp2 rfl _ _ _) rfl ?_
      rw [HZ.out.1, HZ.out.2, HF.out.1, HF.out.2]
      exact ⟨rfl, rfl⟩
    · have k2 : (a == -9223372036854775808) = false := beq_eq_false_iff_ne.2 h2
      have hn := wrap_neg a ha h2
      have e2 : a.tdiv (-1) = -a := by rw [tdiv_neg1]; omega
      have HF : Hid ((numV (a.tdiv (-1))).n = wrap64 (-a) ∧ numE (a.tdiv (-1)) = 0) := by
        rw [e2, hn]
        exact numV_t (decide_eq_true (by unfold small at ha; omega))
      clear ha hb h0 h2 k0 e2 hn
      go_enter Tryd.func50, Tryd.ntmps50
      go_wp2
      refine bodyPost_ret (results_tmp2 rfl _ _ _) rfl ?_
      rw [HZ.out.1, HZ.out.2, HF.out.1, HF.out.2]
      exact ⟨rfl, rfl⟩
  have k1 : (b == -1) = false := beq_eq_false_iff_ne.2 h1
  have hs := tdiv_small a b ha h0 h1
  have hw := wrap_id hs
  have HF : Hid ((numV (a.tdiv b)).n = wrap64 (a.tdiv b) ∧ numE (a.tdiv b) = 0) := by rw [hw]; exact numV_t (decide_eq_true hs)
  clear ha hb h1 hs hw
  go_enter Tryd.func50, Tryd.ntmps50
  go_wp2
  refine bodyPost_ret (results_tmp2 rfl _ _ _) rfl ?_
  rw [HZ.out.1, HZ.out.2, HF.out.1, HF.out.2]
  exact ⟨rfl, rfl⟩
set_option maxHeartbeats 2000000 in
theorem rrem_any (a b : Int) (ha : small a) (hb : small b) (w : World) : Calls Tryd.prog 50 #[.int .i64 22, .int .i64 a, .int .i64 b] w fun e w' => e = .returned (.tuple #[.int .i64 (rckV 22 a b).n, .int .i64 (rckE 22 a b)]) ∧ w' = w := by
  by_cases h0 : b = 0
  · subst h0
    have HN := hide (rck_0 22 a (by omega))
    clear ha hb
    go_enter Tryd.func50, Tryd.ntmps50
    go_wp2
    refine bodyPost_ret (results_tmp2 rfl _ _ _) rfl ?_
    rw [HN.out.1, HN.out.2]
    exact ⟨rfl, rfl⟩
  have k0 : (b == 0) = false := beq_eq_false_iff_ne.2 h0
  have HZ : Hid (rckV 22 a b = numV (a.tmod b) ∧ rckE 22 a b = numE (a.tmod b)) := rck_z 22 a b (fun h => h0 h.2)
  have HF : Hid ((numV (a.tmod b)).n = a.tmod b ∧ numE (a.tmod b) = 0) := numV_t (decide_eq_true (tmod_small a b ha))
  by_cases h1 : b = -1
  · subst h1
    have HM : Hid (a.tmod (-1) = 0) := by rw [Hid, Int.tmod_neg, Int.tmod_one]
    clear ha hb h0 k0
    go_enter Tryd.func50, Tryd.ntmps50
    go_wp2
    refine bodyPost_ret (results_tmp2 rfl _ _ _) rfl ?_
    rw [HZ.out.1, HZ.out.2, HF.out.1, HF.out.2, HM.out]
    exact ⟨rfl, rfl⟩
  have k1 : (b == -1) = false := beq_eq_false_iff_ne.2 h1
  clear ha hb h1
  go_enter Tryd.func50, Tryd.ntmps50
  go_wp2
  refine bodyPost_ret (results_tmp2 rfl _ _ _) rfl ?_
  rw [HZ.out.1, HZ.out.2, HF.out.1, HF.out.2]
  exact ⟨rfl, rfl⟩
theorem rnum_any (op a b : Int) (h : op = 18 ∨ op = 19 ∨ op = 20 ∨ op = 21 ∨ op = 22) (ha : small a) (hb : small b) (w : World) : Calls Tryd.prog 50 #[.int .i64 op, .int .i64 a, .int .i64 b] w fun e w' => e = .returned (.tuple #[.int .i64 (rckV op a b).n, .int .i64 (rckE op a b)]) ∧ Below w.heap.size w w' := by
  rcases h with rfl | rfl | rfl | rfl | rfl
  · exact (radd_any a b ha hb w).mono fun e w' ⟨h1, h2⟩ => by subst h2; exact ⟨h1, Below.refl _ _⟩
  · exact (rsub_any a b ha hb w).mono fun e w' ⟨h1, h2⟩ => by subst h2; exact ⟨h1, Below.refl _ _⟩
  · exact rmul_any a b ha hb w
  · exact (rquo_any a b ha hb w).mono fun e w' ⟨h1, h2⟩ => by subst h2; exact ⟨h1, Below.refl _ _⟩
  · exact (rrem_any a b ha hb w).mono fun e w' ⟨h1, h2⟩ => by subst h2; exact ⟨h1, Below.refl _ _⟩
end Go.Proofs.YtigafjdacllohaaDoor
