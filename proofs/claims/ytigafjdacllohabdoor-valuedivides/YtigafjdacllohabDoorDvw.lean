/- ValueDivides, whole. -/
import Derived.Test.YtigafjdacllohabDoorDiv
namespace Go.Proofs.YtigafjdacllohabDoor
set_option maxRecDepth 100000
open Go.RowKit
set_option linter.unusedVariables false
set_option linter.unusedSimpArgs false

theorem math_nn (op a b : Int) (h : op = 18 ∨ op = 19 ∨ op = 20 ∨ op = 21 ∨ op = 22) (ha : small a) (hb : small b) (W : World) : Calls Tryd.prog 5 #[.int .i64 op, valOf (nV a), valOf (nV b)] W fun e w' => e = .returned (telling (rckV op a b) (rckE op a b)) ∧ Below W.heap.size W w' := by
  have h1 := math_any op (nV a) (nV b) ⟨(by decide : (-9223372036854775808 : Int) ≤ 1 ∧ (1 : Int) ≤ 9223372036854775807), ha⟩ ⟨(by decide : (-9223372036854775808 : Int) ≤ 1 ∧ (1 : Int) ≤ 9223372036854775807), hb⟩ (by show 0 + 0 ≤ 100000000000; omega) W
  have hk : kindOf op = 1 := by unfold kindOf; rw [if_pos h]
  have h2 : mathP op (nV a) (nV b) = (rckV op a b, rckE op a b) := by
    unfold mathP
    rw [hk]
    rfl
  rw [h2] at h1
  exact h1
theorem quo_fits (a b : Int) (ha : small a) (hb0 : b ≠ 0) (h : ¬ (b = -1 ∧ a = -9223372036854775808)) : small (a.tdiv b) := by
  have h1 : (a.tdiv b).natAbs = a.natAbs / b.natAbs := Int.natAbs_tdiv a b
  unfold small at *
  by_cases e : b = -1
  · subst e
    rw [Int.tdiv_neg, Int.tdiv_one]
    omega
  by_cases e1 : b = 1
  · subst e1
    rw [Int.tdiv_one]
    omega
  have h2 : a.natAbs / b.natAbs ≤ a.natAbs / 2 := Nat.div_le_div_left (by omega) (by omega)
  omega
theorem num_small (z : Int) (h : small z) : numV z = nV z ∧ numE z = 0 := by
  have h' : fitsI z = true := decide_eq_true h
  unfold numV numE
  rw [if_pos h', if_pos h']
  exact ⟨rfl, rfl⟩
theorem rest_sign (a b : Int) : (0 ≤ a → 0 ≤ a.tmod b ∧ a.tmod b ≤ a) ∧ (a ≤ 0 → a ≤ a.tmod b ∧ a.tmod b ≤ 0) := by
  have h1 : (a.tmod b).natAbs = a.natAbs % b.natAbs := Int.natAbs_tmod a b
  have h2 : a.natAbs % b.natAbs ≤ a.natAbs := Nat.mod_le _ _
  constructor
  · intro h
    have := Int.tmod_nonneg b h
    omega
  · intro h
    have h3 := Int.tmod_nonneg b (a := -a) (by omega)
    rw [Int.neg_tmod] at h3
    omega
theorem divides_walk (a b : Int) (ha : small a) (hb : small b) (m : Int) (w : World) (hm : w.cell? ⟨1, 0, none⟩ = some (.int .i64 m)) :
    Calls Tryd.prog 3 #[.int .i64 a, .int .i64 b] w fun e w' => e = .returned (.bool true) ∧ Below w.heap.size w w' := by
  have M := math_nn
  by_cases hb0 : b = 0
  · subst hb0
    have e1 : ∀ op, op = 21 ∨ op = 22 → rckV op a 0 = Vl.zero ∧ rckE op a 0 = 162 := fun op h => by
      unfold rckV rckE
      rw [if_pos ⟨h, rfl⟩, if_pos ⟨h, rfl⟩]
      exact ⟨rfl, rfl⟩
    refine div_zero a m w hm (fun W => ?_) (fun W => ?_)
    · have := M 21 a 0 (by decide) ha hb W
      rw [(e1 21 (by decide)).1, (e1 21 (by decide)).2] at this
      exact this
    · have := M 22 a 0 (by decide) ha hb W
      rw [(e1 22 (by decide)).1, (e1 22 (by decide)).2] at this
      exact this
  have hn : ∀ op : Int, ¬ ((op = 21 ∨ op = 22) ∧ b = 0) := fun op h => hb0 h.2
  have e21 : rckV 21 a b = numV (a.tdiv b) ∧ rckE 21 a b = numE (a.tdiv b) := by
    unfold rckV rckE
    rw [if_neg (hn 21), if_neg (hn 21)]
    exact ⟨rfl, rfl⟩
  have e22 : rckV 22 a b = nV (a.tmod b) ∧ rckE 22 a b = 0 := by
    unfold rckV rckE
    rw [if_neg (hn 22), if_neg (hn 22)]
    exact num_tmod a b ha
  have h22 : ∀ W, Calls Tryd.prog 5 #[.int .i64 22, valOf (nV a), valOf (nV b)] W fun e w' => e = .returned (telling (nV (a.tmod b)) 0) ∧ Below W.heap.size W w' := fun W => by
    have := M 22 a b (by decide) ha hb W
    rw [e22.1, e22.2] at this
    exact this
  have h21 : ∀ W, Calls Tryd.prog 5 #[.int .i64 21, valOf (nV a), valOf (nV b)] W fun e w' => e = .returned (telling (numV (a.tdiv b)) (numE (a.tdiv b))) ∧ Below W.heap.size W w' := fun W => by
    have := M 21 a b (by decide) ha hb W
    rw [e21.1, e21.2] at this
    exact this
  by_cases ho : b = -1 ∧ a = -9223372036854775808
  · obtain ⟨rfl, rfl⟩ := ho
    exact div_over m w hm h21 h22
  have hq := quo_fits a b ha hb0 ho
  rw [(num_small _ hq).1, (num_small _ hq).2] at h21
  have hr : small (a.tmod b) := tmod_small a b ha
  have hsum : b * a.tdiv b + a.tmod b = a := Int.mul_tdiv_add_tmod a b
  have hsg := rest_sign a b
  have hp : small (a.tdiv b * b) := by
    rw [Int.mul_comm]
    unfold small at *
    omega
  have h20 : ∀ W, Calls Tryd.prog 5 #[.int .i64 20, valOf (nV (a.tdiv b)), valOf (nV b)] W fun e w' => e = .returned (telling (nV (a.tdiv b * b)) 0) ∧ Below W.heap.size W w' := fun W => by
    have := M 20 (a.tdiv b) b (by decide) hq hb W
    rw [show rckV 20 (a.tdiv b) b = numV (a.tdiv b * b) from rfl, show rckE 20 (a.tdiv b) b = numE (a.tdiv b * b) from rfl, (num_small _ hp).1, (num_small _ hp).2] at this
    exact this
  have hps : a.tdiv b * b + a.tmod b = a := by rw [Int.mul_comm]; exact hsum
  have h18 : ∀ W, Calls Tryd.prog 5 #[.int .i64 18, valOf (nV (a.tdiv b * b)), valOf (nV (a.tmod b))] W fun e w' => e = .returned (telling (nV a) 0) ∧ Below W.heap.size W w' := fun W => by
    have := M 18 (a.tdiv b * b) (a.tmod b) (by decide) hp hr W
    rw [show rckV 18 (a.tdiv b * b) (a.tmod b) = numV (a.tdiv b * b + a.tmod b) from rfl, show rckE 18 (a.tdiv b * b) (a.tmod b) = numE (a.tdiv b * b + a.tmod b) from rfl, hps, (num_small _ ha).1, (num_small _ ha).2] at this
    exact this
  by_cases hb1 : b = -1
  · subst hb1
    have hz : a.tmod (-1) = 0 := by rw [Int.tmod_neg, Int.tmod_one]
    rw [hz] at h22 h18
    exact div_m1 a (a.tdiv (-1)) (a.tdiv (-1) * (-1)) m w hm h21 h22 h20 h18
  · refine div_fit a b (a.tdiv b) (a.tmod b) (a.tdiv b * b) m w hm h21 h22 h20 h18 (beq_eq_false_iff_ne.2 hb0) (beq_eq_false_iff_ne.2 hb1) ?_
    unfold Hid
    by_cases h0 : a.tmod b = 0
    · exact .inl h0
    · refine .inr ?_
      by_cases hl : a < 0
      · exact .inl ⟨beq_eq_false_iff_ne.2 h0, decide_eq_true (by omega), decide_eq_true hl⟩
      · exact .inr ⟨beq_eq_false_iff_ne.2 h0, decide_eq_false (by omega), decide_eq_false hl⟩
end Go.Proofs.YtigafjdacllohabDoor
