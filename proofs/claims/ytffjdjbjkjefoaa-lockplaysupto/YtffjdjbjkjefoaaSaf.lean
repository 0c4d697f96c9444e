/- That no two ever hold what does not fit. -/
import Derived.Test.YtffjdjbjkjefoaaTak
import Derived.Test.YtffjdjbjkjefoaaLbl
import Derived.Test.YtffjdjbjkjefoaaApt
namespace Go.Proofs.Ytffjdjbjkjefoaa
open Go.RowKit Go.WideAt
set_option linter.unusedVariables false
set_option linter.unusedSimpArgs false

def Safe (m : Held) : Prop := ∀ x y s h k, x ≠ y → m x s = some h → m y s = some k → fits h k = true
theorem Safe.zero : Safe (fun _ _ => none) := fun _ _ _ _ _ _ h => by cases h
theorem Safe.free {m : Held} (h : Safe m) (id : Int) : Safe (freeH m id) := fun x y s p q hxy hp hq => by
  have e : ∀ z r, freeH m id z s = some r → m z s = some r := fun z r hz => by
    unfold freeH at hz
    split at hz
    · cases hz
    · exact hz
  exact h x y s p q hxy (e x p hp) (e y q hq)
theorem fits_turn {a b : Int} (ha : isMode a = true) (hb : isMode b = true) (h : fits a b = true) : fits b a = true := by
  rcases isMode_known ha with rfl | rfl | rfl | rfl | rfl <;> rcases isMode_known hb with rfl | rfl | rfl | rfl | rfl <;> revert h <;> decide
theorem Safe.take {m : Held} (h : Safe m) (hg : ∀ x s p, m x s = some p → isMode p = true) {id : Int} {g : List UInt8 → Option Int} (hm : ∀ s p, g s = some p → isMode p = true) (hA : Against m g id []) : Safe (heldN m id g) := by
  have key : ∀ y s p q, y ≠ id → heldN m id g id s = some p → m y s = some q → fits q p = true := fun y s p q hy hp hq => by
    unfold heldN at hp
    rw [if_pos rfl] at hp
    cases hgs : g s with
    | none =>
      rw [hgs] at hp
      exact h y id s q p hy hq (by simpa using hp)
    | some r =>
      rw [hgs] at hp
      have e : r = p := by simpa using hp
      subst e
      cases hf : fits q r with
      | true => rfl
      | false =>
        have : y ∈ ([] : List Int) := (hA.iff y).2 ⟨s, hy, r, q, hgs, hq, hf⟩
        cases this
  have old : ∀ y s q, y ≠ id → heldN m id g y s = some q → m y s = some q := fun y s q hy hq => by
    unfold heldN at hq
    rwa [if_neg hy] at hq
  have mode : ∀ s p, heldN m id g id s = some p → isMode p = true := fun s p hp => by
    unfold heldN at hp
    rw [if_pos rfl] at hp
    cases hgs : g s with
    | none => rw [hgs] at hp; exact hg id s p (by simpa using hp)
    | some r =>
      rw [hgs] at hp
      have e : r = p := by simpa using hp
      subst e
      exact hm s r hgs
  intro x y s p q hxy hp hq
  by_cases hx : x = id
  · subst hx
    have hy : y ≠ x := fun e => hxy e.symm
    have hq' := old y s q hy hq
    exact fits_turn (hg y s q hq') (mode s p hp) (key y s p q hy hp hq')
  · have hp' := old x s p hx hp
    by_cases hy : y = id
    · subst hy
      exact key x s q p hx hq hp'
    · exact h x y s p q hxy hp' (old y s q hy hq)
end Go.Proofs.Ytffjdjbjkjefoaa
