/- The kinds' names; what the document fixes. -/
import Derived.Test.YtmfiafdhflaafaaEnc
import Derived.Deep.QuietTactic
import Derived.BigQuiet
namespace Go.Proofs.Ytmfiafdhflaafaa
open Go.RowKit
set_option linter.unusedVariables false
set_option linter.unusedSimpArgs false

def kindOf (n : Int) : ByteArray :=
  if n = 1 then ⟨#[98, 101, 103, 105, 110]⟩ else if n = 2 then ⟨#[117, 112, 100, 97, 116, 101]⟩ else if n = 3 then ⟨#[99, 108, 114]⟩ else if n = 4 then ⟨#[99, 111, 109, 109, 105, 116]⟩
  else if n = 5 then ⟨#[97, 98, 111, 114, 116]⟩ else if n = 6 then ⟨#[101, 110, 100]⟩ else if n = 7 then ⟨#[99, 104, 101, 99, 107]⟩ else ⟨#[]⟩
theorem kindOf_none (n : Int) (h : n < 1 ∨ 7 < n) : kindOf n = ⟨#[]⟩ := by
  unfold kindOf
  rw [if_neg (by omega), if_neg (by omega), if_neg (by omega), if_neg (by omega), if_neg (by omega), if_neg (by omega), if_neg (by omega)]
theorem kinds_cases (n : Int) : (n < 1 ∨ 7 < n) ∨ n = 1 ∨ n = 2 ∨ n = 3 ∨ n = 4 ∨ n = 5 ∨ n = 6 ∨ n = 7 := by omega

set_option maxHeartbeats 1000000 in
theorem kind_any (n : Int) (w : World) : Calls Try.prog 16 #[.int .i64 n] w fun e w' => e = .returned (.string (kindOf n)) ∧ w' = w := by
  rcases kinds_cases n with h | rfl | rfl | rfl | rfl | rfl | rfl | rfl
  · rw [kindOf_none n h]
    have e1 : (n == 1) = false := beq_eq_false_iff_ne.2 (by omega)
    have e2 : (n == 2) = false := beq_eq_false_iff_ne.2 (by omega)
    have e3 : (n == 3) = false := beq_eq_false_iff_ne.2 (by omega)
    have e4 : (n == 4) = false := beq_eq_false_iff_ne.2 (by omega)
    have e5 : (n == 5) = false := beq_eq_false_iff_ne.2 (by omega)
    have e6 : (n == 6) = false := beq_eq_false_iff_ne.2 (by omega)
    have e7 : (n == 7) = false := beq_eq_false_iff_ne.2 (by omega)
    clear h
    go_enter Try.func16, Try.ntmps16
    go_wp2
    go_ret
    exact ⟨rfl, rfl⟩
  all_goals
    go_enter Try.func16, Try.ntmps16
    go_wp2
    go_ret
    exact ⟨rfl, rfl⟩
set_option maxHeartbeats 1000000 in
theorem refKind_any (n : Int) (w : World) : Calls Try.prog 17 #[.int .i64 n] w fun e w' => e = .returned (.string (kindOf n)) ∧ Below w.heap.size w w' := by
  rcases kinds_cases n with h | rfl | rfl | rfl | rfl | rfl | rfl | rfl
  · rw [kindOf_none n h]
    by_cases h0 : n < 0
    · clear h
      go_enter Try.func17, Try.ntmps17
      go_wp2
      go_ret
      exact ⟨rfl, (Below.refl _ w).alloc (Nat.le_refl _) _⟩
    · by_cases h7 : n = 0
      · subst h7
        clear h h0
        go_enter Try.func17, Try.ntmps17
        go_wp2
        go_ret
        exact ⟨rfl, (Below.refl _ w).alloc (Nat.le_refl _) _⟩
      · have h8 : 8 ≤ n := by omega
        have h9 : 0 ≤ n := by omega
        clear h h0 h7
        go_enter Try.func17, Try.ntmps17
        go_wp2
        go_ret
        exact ⟨rfl, (Below.refl _ w).alloc (Nat.le_refl _) _⟩
  all_goals
    go_enter Try.func17, Try.ntmps17
    go_wp2
    go_ret
    exact ⟨rfl, (Below.refl _ w).alloc (Nat.le_refl _) _⟩
end Go.Proofs.Ytmfiafdhflaafaa
