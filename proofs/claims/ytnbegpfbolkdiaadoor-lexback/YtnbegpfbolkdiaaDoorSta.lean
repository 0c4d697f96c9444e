/- Where the next token begins. -/
import Derived.Test.YtnbegpfbolkdiaaDoorKind
namespace Go.Proofs.YtnbegpfbolkdiaaDoor
set_option maxRecDepth 100000
open Go.RowKit
set_option linter.unusedVariables false
set_option linter.unusedSimpArgs false

theorem kind_z (s : ByteArray) (z : Int) (w : World) (h0 : 0 ≤ z) (hi : z ≤ 140737488355328) (hs : s.size ≤ 140737488355328) :
    Calls Tryd.prog 31 #[.string s, .int .i64 z] w fun e w' => e = .returned (.int .i64 (kdAt s.data.toList z.toNat)) ∧ w' = w := by
  obtain ⟨i, rfl⟩ := Int.eq_ofNat_of_zero_le h0
  exact kind_any s i w (by omega) hs
/-- What holds at start's labels: 0 white, 1 remark. -/
def StJ (s : ByteArray) (w : World) (E : Nat) (l m : Nat) (a : Act) (w' : World) : Prop :=
  w' = w ∧ ∃ (i : Nat), i ≤ s.size ∧ (∃ (x2 x3 x4 x5 x6 x7 x8 x9 x10 x11 x12 x13 x14 x15 x16 x17 x18 x19 x20 x21 x22 x23 x24 x25 x26 x27 x28 : Value), a = ⟨#[.string s, .int .i64 (i : Int), x2, x3, x4, x5, x6, x7, x8, x9, x10, x11, x12, x13, x14, x15, x16, x17, x18, x19, x20, x21, x22, x23, x24, x25, x26, x27, x28], []⟩) ∧
    ((l = 0 ∧ skipTo s.data.toList false i = E ∧ m = 3 * (s.size - i) + (if kdAt s.data.toList i = 7 then 2 else 0)) ∨ (l = 1 ∧ skipTo s.data.toList true i = E ∧ m = 3 * (s.size - i) + 1))
theorem start_steps (s : ByteArray) (i E : Nat) (hi : i ≤ s.size) :
    (skipTo s.data.toList false i = E → (kdAt s.data.toList i = 2 ∨ kdAt s.data.toList i = 3 → i + 1 ≤ s.size ∧ skipTo s.data.toList false (i + 1) = E) ∧
      (kdAt s.data.toList i = 7 → kdAt s.data.toList (i + 1) = 7 → skipTo s.data.toList true i = E) ∧
      (kdAt s.data.toList i ≠ 2 → kdAt s.data.toList i ≠ 3 → ¬ (kdAt s.data.toList i = 7 ∧ kdAt s.data.toList (i + 1) = 7) → i = E)) ∧
    (skipTo s.data.toList true i = E → (kdAt s.data.toList i = 3 ∨ kdAt s.data.toList i = 1 → skipTo s.data.toList false i = E) ∧
      (kdAt s.data.toList i ≠ 3 → kdAt s.data.toList i ≠ 1 → i + 1 ≤ s.size ∧ skipTo s.data.toList true (i + 1) = E)) := by
  have hlen : s.data.toList.length = s.size := (Lib.size_eq s).symm
  refine ⟨fun h => ⟨fun hk => ⟨?_, ?_⟩, fun h7 h7' => ?_, fun h2 h3 h7 => ?_⟩, fun h => ⟨fun hk => ?_, fun h3 h1 => ⟨?_, ?_⟩⟩⟩
  · have := lt_of_kd (l := s.data.toList) (i := i) (by omega); omega
  · rw [← skip_white hk]; exact h
  · rw [← skip_dash h7 h7']; exact h
  · rw [← h]; exact (skip_stop h2 h3 h7).symm
  · rw [← skip_out hk]; exact h
  · have := lt_of_kd h1; omega
  · rw [← skip_in h3 h1]; exact h
theorem measure_white (s : ByteArray) (i : Nat) (h : i < s.size) : 3 * (s.size - (i + 1)) + (if kdAt s.data.toList (i + 1) = 7 then 2 else 0) < 3 * (s.size - i) + (if kdAt s.data.toList i = 7 then 2 else 0) := by split <;> split <;> omega

set_option maxHeartbeats 8000000 in
theorem start_any (s : ByteArray) (i : Nat) (w : World) (hi : i ≤ s.size) (hs : s.size ≤ 70368744177664) :
    Calls Tryd.prog 24 #[.string s, .int .i64 (i : Int)] w fun e w' => e = .returned (.int .i64 (skipTo s.data.toList false i)) ∧ w' = w := by
  obtain ⟨E, hE⟩ : ∃ E, skipTo s.data.toList false i = E := ⟨_, rfl⟩
  rw [hE]
  obtain ⟨K, hK⟩ : ∃ K : Int → Int, ∀ z, K z = (kdAt s.data.toList z.toNat : Int) := ⟨_, fun _ => rfl⟩
  have HK : Hid (∀ (z : Int) (w : World), 0 ≤ z → z ≤ 140737488355328 → Calls Tryd.prog 31 #[.string s, .int .i64 z] w fun e w' => e = .returned (.int .i64 (K z)) ∧ w' = w) := fun z w h0 h1 => by
    rw [hK]; exact kind_z s z w h0 h1 (by omega)
  have HKK := hide hK
  clear hK
  go_enter Tryd.func24, Tryd.ntmps24
  go_wp2
  refine wp_scope_ghost (StJ s w E) ?_ ?_
  · have HS := hide ((start_steps s i E hi).1 hE)
    clear hE
    rw [show kdAt s.data.toList i = (K (i : Int)).toNat by rw [HKK.out]; simp, show kdAt s.data.toList (i + 1) = (K ((i : Int) + 1)).toNat by rw [HKK.out]; simp] at HS
    go_wp2
    go_step3
    go_wp2_with (first | (go_at_call 31; refine (HK.out _ _ (by omega) (by omega)).mono ?_; rintro e w' ⟨rfl, hw⟩; have hw := hw.symm; subst hw))
    all_goals (try simp only [beq_iff_eq, bne_iff_ne, beq_eq_false_iff_ne, Bool.not_eq_true, Bool.not_eq_false] at *)
    all_goals first
      | (go_step3; exact ⟨_, rfl, i + 1, (HS.out.1 (by omega)).1, ⟨_, _, _, _, _, _, _, _, _, _, _, _, _, _, _, _, _, _, _, _, _, _, _, _, _, _, _, rfl⟩, .inl ⟨rfl, (HS.out.1 (by omega)).2, rfl⟩⟩)
      | (go_step3; exact ⟨_, rfl, i, hi, ⟨_, _, _, _, _, _, _, _, _, _, _, _, _, _, _, _, _, _, _, _, _, _, _, _, _, _, _, rfl⟩, .inr ⟨rfl, HS.out.2.1 (by omega) (by omega), rfl⟩⟩)
      | (rw [Exit.jumps_ret]; go_ret; have e := HS.out.2.2 (by omega) (by omega) (by omega); subst e; exact ⟨rfl, rfl⟩)
  · rintro l m a w2 ⟨rfl, i, hi, ⟨x2, x3, x4, x5, x6, x7, x8, x9, x10, x11, x12, x13, x14, x15, x16, x17, x18, x19, x20, x21, x22, x23, x24, x25, x26, x27, x28, rfl⟩, ⟨rfl, hE, rfl⟩ | ⟨rfl, hE, rfl⟩⟩
    all_goals refine ⟨_, rfl, ?_⟩
    rotate_left
    · have HS := hide ((start_steps s i E hi).2 hE)
      clear hE
      rw [show kdAt s.data.toList i = (K (i : Int)).toNat by rw [HKK.out]; simp] at HS
      have HM := hide (fun h : (K (i : Int)).toNat ≠ 7 => show 3 * (s.size - i) + (if kdAt s.data.toList i = 7 then 2 else 0) < 3 * (s.size - i) + 1 by
        rw [if_neg (by rw [HKK.out] at h; simpa using h)]; omega)
      go_wp2_with (first | (go_at_call 31; refine (HK.out _ _ (by omega) (by omega)).mono ?_; rintro e w' ⟨rfl, hw⟩; have hw := hw.symm; subst hw))
      all_goals (try simp only [beq_iff_eq, bne_iff_ne, beq_eq_false_iff_ne, Bool.not_eq_true, Bool.not_eq_false] at *)
      all_goals first
        | (go_step3; exact ⟨_, HM.out (by omega), rfl, i, hi, ⟨_, _, _, _, _, _, _, _, _, _, _, _, _, _, _, _, _, _, _, _, _, _, _, _, _, _, _, rfl⟩, .inl ⟨rfl, HS.out.1 (by omega), rfl⟩⟩)
        | (go_step3; exact ⟨_, by have := (HS.out.2 (by omega) (by omega)).1; omega, rfl, i + 1, (HS.out.2 (by omega) (by omega)).1, ⟨_, _, _, _, _, _, _, _, _, _, _, _, _, _, _, _, _, _, _, _, _, _, _, _, _, _, _, rfl⟩, .inr ⟨rfl, (HS.out.2 (by omega) (by omega)).2, rfl⟩⟩)
        | (rw [Exit.jumps_ret]; go_ret; have e := (by omega : i = E); subst e; exact ⟨rfl, rfl⟩)
    · have HS := hide ((start_steps s i E hi).1 hE)
      clear hE
      rw [show kdAt s.data.toList i = (K (i : Int)).toNat by rw [HKK.out]; simp, show kdAt s.data.toList (i + 1) = (K ((i : Int) + 1)).toNat by rw [HKK.out]; simp] at HS
      have HM7 := hide (fun h : (K (i : Int)).toNat = 7 => show 3 * (s.size - i) + 1 < 3 * (s.size - i) + (if kdAt s.data.toList i = 7 then 2 else 0) by rw [if_pos (by rw [HKK.out] at h; simpa using h)]; omega)
      skip
      go_wp2_with (first | (go_at_call 31; refine (HK.out _ _ (by omega) (by omega)).mono ?_; rintro e w' ⟨rfl, hw⟩; have hw := hw.symm; subst hw))
      all_goals (try simp only [beq_iff_eq, bne_iff_ne, beq_eq_false_iff_ne, Bool.not_eq_true, Bool.not_eq_false] at *)
      all_goals first
        | (go_step3; exact ⟨_, measure_white s i (by have := (HS.out.1 (by omega)).1; omega), rfl, i + 1, (HS.out.1 (by omega)).1, ⟨_, _, _, _, _, _, _, _, _, _, _, _, _, _, _, _, _, _, _, _, _, _, _, _, _, _, _, rfl⟩, .inl ⟨rfl, (HS.out.1 (by omega)).2, rfl⟩⟩)
        | (go_step3; exact ⟨_, HM7.out (by omega), rfl, i, hi, ⟨_, _, _, _, _, _, _, _, _, _, _, _, _, _, _, _, _, _, _, _, _, _, _, _, _, _, _, rfl⟩, .inr ⟨rfl, HS.out.2.1 (by omega) (by omega), rfl⟩⟩)
        | (rw [Exit.jumps_ret]; go_ret; have e := HS.out.2.2 (by omega) (by omega) (by omega); subst e; exact ⟨rfl, rfl⟩)
end Go.Proofs.YtnbegpfbolkdiaaDoor
