/- The document's modes: mode, Fits, Join. -/
import Derived.Test.YtffjdjbjkjefoaaModes
namespace Go.Proofs.Ytffjdjbjkjefoaa
open Go.RowKit
set_option linter.unusedVariables false
set_option linter.unusedSimpArgs false

set_option maxHeartbeats 400000 in
theorem mode_any (n : Int) (w : World) : Calls Try.prog 38 #[.int .i64 n] w fun e w' => e = .returned (.bool (isMode n)) ∧ w' = w := by
  have hc : (¬ 1 ≤ n ∧ isMode n = false) ∨ (1 ≤ n ∧ ¬ n ≤ 5 ∧ isMode n = false) ∨ (1 ≤ n ∧ n ≤ 5 ∧ isMode n = true) := by
    unfold isMode
    by_cases h1 : 1 ≤ n
    · by_cases h2 : n ≤ 5
      · right; right; exact ⟨h1, h2, by simp [h1, h2]⟩
      · right; left; exact ⟨h1, h2, by simp [h2]⟩
    · left; exact ⟨h1, by simp [h1]⟩
  have hc := hide hc
  generalize isMode n = c at *
  rcases hc.out with ⟨h, rfl⟩ | ⟨h, h', rfl⟩ | ⟨h, h', rfl⟩
  all_goals
    clear hc
    go_enter Try.func38, Try.ntmps38
    go_wp2
    go_ret
    exact ⟨rfl, rfl⟩
theorem isMode_known {n : Int} : isMode n = true → n = 1 ∨ n = 2 ∨ n = 3 ∨ n = 4 ∨ n = 5 := by
  unfold isMode
  intro h
  have := of_decide_eq_true h
  omega
theorem known_none {n : Int} (h : isMode n = false) : known n = 0 := by
  unfold isMode at h
  have := of_decide_eq_false h
  unfold known
  rw [if_neg this]
theorem known_some {n : Int} (h : isMode n = true) : known n = n := by
  unfold isMode at h
  have := of_decide_eq_true h
  unfold known
  rw [if_pos this]
theorem fits_none_left {a : Int} (h : isMode a = false) (b : Int) : fits a b = false := by
  unfold fits
  rw [known_none h]
  obtain ⟨k, hk, _, e⟩ := known_nat b
  rw [e]
  have hk' : k = 0 ∨ k = 1 ∨ k = 2 ∨ k = 3 ∨ k = 4 ∨ k = 5 := by omega
  rcases hk' with rfl | rfl | rfl | rfl | rfl | rfl <;> rfl
theorem fits_none_right {b : Int} (h : isMode b = false) (a : Int) : fits a b = false := by
  unfold fits
  rw [known_none h]
  obtain ⟨k, hk, _, e⟩ := known_nat a
  rw [e]
  have hk' : k = 0 ∨ k = 1 ∨ k = 2 ∨ k = 3 ∨ k = 4 ∨ k = 5 := by omega
  rcases hk' with rfl | rfl | rfl | rfl | rfl | rfl <;> rfl
theorem join_none_left {a : Int} (h : isMode a = false) (b : Int) : join a b = known b := by
  unfold join
  rw [known_none h]
  obtain ⟨k, hk, e1, e⟩ := known_nat b
  rw [e, e1]
  have hk' : k = 0 ∨ k = 1 ∨ k = 2 ∨ k = 3 ∨ k = 4 ∨ k = 5 := by omega
  rcases hk' with rfl | rfl | rfl | rfl | rfl | rfl <;> rfl
theorem join_none_right {b : Int} (h : isMode b = false) (a : Int) : join a b = known a := by
  unfold join
  rw [known_none h]
  obtain ⟨k, hk, e1, e⟩ := known_nat a
  rw [e, e1]
  have hk' : k = 0 ∨ k = 1 ∨ k = 2 ∨ k = 3 ∨ k = 4 ∨ k = 5 := by omega
  rcases hk' with rfl | rfl | rfl | rfl | rfl | rfl <;> rfl
set_option maxHeartbeats 4000000 in
theorem rfits_any (a b : Int) (w : World) : Calls Try.prog 16 #[.int .i64 a, .int .i64 b] w fun e w' => e = .returned (.bool (fits a b)) ∧ w' = w := by
  have HM : Hid (∀ n w, Calls Try.prog 38 #[.int .i64 n] w fun e w' => e = .returned (.bool (isMode n)) ∧ w' = w) := mode_any
  cases ha : isMode a with
  | false =>
    rw [fits_none_left ha]
    go_enter Try.func16, Try.ntmps16
    go_wp2_with (go_at_call 38; refine (HM.out _ _).mono ?_; rintro e w' ⟨rfl, hw⟩; have hw := hw.symm; subst hw; simp only [ha])
    go_ret
    exact ⟨rfl, rfl⟩
  | true =>
    cases hb : isMode b with
    | false =>
      rw [fits_none_right hb]
      go_enter Try.func16, Try.ntmps16
      go_wp2_with (go_at_call 38; refine (HM.out _ _).mono ?_; rintro e w' ⟨rfl, hw⟩; have hw := hw.symm; subst hw; simp only [ha, hb])
      go_ret
      exact ⟨rfl, rfl⟩
    | true =>
      rcases isMode_known ha with rfl | rfl | rfl | rfl | rfl <;> rcases isMode_known hb with rfl | rfl | rfl | rfl | rfl
      all_goals
        go_enter Try.func16, Try.ntmps16
        go_wp2_with (go_at_call 38; refine (HM.out _ _).mono ?_; rintro e w' ⟨rfl, hw⟩; have hw := hw.symm; subst hw; simp only [ha, hb])
        go_ret
        exact ⟨rfl, rfl⟩
set_option maxHeartbeats 4000000 in
theorem rjoin_any (a b : Int) (w : World) : Calls Try.prog 18 #[.int .i64 a, .int .i64 b] w fun e w' => e = .returned (.int .i64 (join a b)) ∧ w' = w := by
  have HM : Hid (∀ n w, Calls Try.prog 38 #[.int .i64 n] w fun e w' => e = .returned (.bool (isMode n)) ∧ w' = w) := mode_any
  cases ha : isMode a with
  | false =>
    rw [join_none_left ha]
    cases hb : isMode b with
    | false =>
      rw [known_none hb]
      go_enter Try.func18, Try.ntmps18
      go_wp2_with (go_at_call 38; refine (HM.out _ _).mono ?_; rintro e w' ⟨rfl, hw⟩; have hw := hw.symm; subst hw; simp only [ha, hb])
      go_ret
      exact ⟨rfl, rfl⟩
    | true =>
      rw [known_some hb]
      go_enter Try.func18, Try.ntmps18
      go_wp2_with (go_at_call 38; refine (HM.out _ _).mono ?_; rintro e w' ⟨rfl, hw⟩; have hw := hw.symm; subst hw; simp only [ha, hb])
      go_ret
      exact ⟨rfl, rfl⟩
  | true =>
    cases hb : isMode b with
    | false =>
      rw [join_none_right hb, known_some ha]
      go_enter Try.func18, Try.ntmps18
      go_wp2_with (go_at_call 38; refine (HM.out _ _).mono ?_; rintro e w' ⟨rfl, hw⟩; have hw := hw.symm; subst hw; simp only [ha, hb])
      go_ret
      exact ⟨rfl, rfl⟩
    | true =>
      rcases isMode_known ha with rfl | rfl | rfl | rfl | rfl <;> rcases isMode_known hb with rfl | rfl | rfl | rfl | rfl
      all_goals
        go_enter Try.func18, Try.ntmps18
        go_wp2_with (go_at_call 38; refine (HM.out _ _).mono ?_; rintro e w' ⟨rfl, hw⟩; have hw := hw.symm; subst hw; simp only [ha, hb])
        go_ret
        exact ⟨rfl, rfl⟩
end Go.Proofs.Ytffjdjbjkjefoaa
