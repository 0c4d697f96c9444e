/- One loser at most. -/
import Derived.Test.YtpjppolbkdnkaaaUndo
namespace Go.Proofs.Ytpjppolbkdnkaaa
open Go.RowKit
set_option linter.unusedVariables false
set_option linter.unusedSimpArgs false

def hpOne (w0 : World) (R : Nat) (lg : Sv) : Hp w0 R lg 1 where
  pushL H y := H ++ [y]
  popL := List.tail
  fixL := id
  pushP H y := List.perm_append_singleton y H
  popP y T := List.Perm.refl _
  fixP H := List.Perm.refl _
  push H y h := by
    obtain rfl : H = [] := List.length_eq_zero_iff.1 (by omega)
    intro W los wr O K x
    refine (heapPush_nil x y).mono ?_
    rintro e w' ⟨rfl, ao, c, h⟩
    exact ⟨rfl, _, h⟩
  pop y T h := by
    obtain rfl : T = [] := List.length_eq_zero_iff.1 (by omega)
    intro W los wr O K x
    obtain ⟨g, c, cur, hlos, _, _, hc, _⟩ := own_some x.heap (by simp)
    subst hlos
    refine (heapPop_one x (by simpa using hc)).mono ?_
    rintro e w' ⟨h1, h⟩
    exact ⟨h1, _, h⟩
  fix y T h := by
    obtain rfl : T = [] := List.length_eq_zero_iff.1 (by omega)
    intro W los wr O K x
    obtain ⟨g, c, cur, hlos, _, _, hc, _⟩ := own_some x.heap (by simp)
    subst hlos
    refine (fix_one R _ c W x.c7).mono ?_
    rintro e w' ⟨h1, h⟩
    exact ⟨h1, _, x.stayD h⟩
/-- Step by step, from the first on. -/
def Run (L : List Ln) (bsOf : Ln → List Value) (popL : List Los → List Los) (fixL : List Los → List Los) (H : List Los) (O : List Ln) (K : List (Nat × Obj)) (O' : List Ln) (K' : List (Nat × Obj)) : Prop :=
  ∀ P : List Los → List Ln → List (Nat × Obj) → List Ln → List (Nat × Obj) → Prop,
    (∀ (O : List Ln) (K : List (Nat × Obj)), P ([]) O K O K) →
    (∀ (y : Los) (T : List Los) (O : List Ln) (K : List (Nat × Obj)) (H1 : List Los) (O1 : List Ln) (K1 : List (Nat × Obj)) (O' : List Ln) (K' : List (Nat × Obj)) (hb : BackTo L bsOf popL fixL y T O K H1 O1 K1) (h : P H1 O1 K1 O' K'), P (y :: T) O K O' K') →
    P H O K O' K'
theorem Run.done {L : List Ln} {bsOf : Ln → List Value} {popL : List Los → List Los} {fixL : List Los → List Los} (O : List Ln) (K : List (Nat × Obj)) : Run L bsOf popL fixL ([]) O K O K := fun P hP1 hP2 => hP1 O K
theorem Run.step {L : List Ln} {bsOf : Ln → List Value} {popL : List Los → List Los} {fixL : List Los → List Los} (y : Los) (T : List Los) (O : List Ln) (K : List (Nat × Obj)) (H1 : List Los) (O1 : List Ln) (K1 : List (Nat × Obj)) (O' : List Ln) (K' : List (Nat × Obj)) (hb : BackTo L bsOf popL fixL y T O K H1 O1 K1) (h : Run L bsOf popL fixL H1 O1 K1 O' K') : Run L bsOf popL fixL (y :: T) O K O' K' := fun P hP1 hP2 => hP2 y T O K H1 O1 K1 O' K' hb (h P hP1 hP2)
theorem Run.ind {L : List Ln} {bsOf : Ln → List Value} {popL : List Los → List Los} {fixL : List Los → List Los} {motive : (H : List Los) → (O : List Ln) → (K : List (Nat × Obj)) → (O' : List Ln) → (K' : List (Nat × Obj)) → Run L bsOf popL fixL H O K O' K' → Prop}
    (done : ∀ (O : List Ln) (K : List (Nat × Obj)), motive ([]) O K O K (.done O K))
    (step : ∀ (y : Los) (T : List Los) (O : List Ln) (K : List (Nat × Obj)) (H1 : List Los) (O1 : List Ln) (K1 : List (Nat × Obj)) (O' : List Ln) (K' : List (Nat × Obj)) (hb : BackTo L bsOf popL fixL y T O K H1 O1 K1) (h : Run L bsOf popL fixL H1 O1 K1 O' K') (ih : motive H1 O1 K1 O' K' h), motive (y :: T) O K O' K' (.step y T O K H1 O1 K1 O' K' hb h))
    {H : List Los} {O : List Ln} {K : List (Nat × Obj)} {O' : List Ln} {K' : List (Nat × Obj)} (h : Run L bsOf popL fixL H O K O' K') : motive H O K O' K' h := by
  obtain ⟨_, hm⟩ := h (fun H O K O' K' => ∃ c : Run L bsOf popL fixL H O K O' K', motive H O K O' K' c)
    (fun O K => ⟨.done O K, done O K⟩)
    (fun y T O K H1 O1 K1 O' K' hb ⟨h, mh⟩ => ⟨.step y T O K H1 O1 K1 O' K' hb h, step y T O K H1 O1 K1 O' K' hb h mh⟩)
  exact hm
theorem Run.cons {L : List Ln} {bsOf : Ln → List Value} {popL fixL : List Los → List Los} {y : Los} {T : List Los} {O O' : List Ln} {K K' : List (Nat × Obj)} (h : Run L bsOf popL fixL (y :: T) O K O' K') : ∃ H1 O1 K1, BackTo L bsOf popL fixL y T O K H1 O1 K1 ∧ Run L bsOf popL fixL H1 O1 K1 O' K' := by
  generalize hq : y :: T = q at h
  induction h using Run.ind with
  | done => cases hq
  | step y' T' O K H1 O1 K1 O' K' hb h ih => cases hq; exact ⟨H1, O1, K1, hb, h⟩
theorem Run.none {L : List Ln} {bsOf : Ln → List Value} {popL fixL : List Los → List Los} {O O' : List Ln} {K K' : List (Nat × Obj)} (h : Run L bsOf popL fixL [] O K O' K') : O' = O ∧ K' = K := by
  generalize hq : ([] : List Los) = q at h
  induction h using Run.ind with
  | done => exact ⟨rfl, rfl⟩
  | step => cases hq
theorem Reach.run {L : List Ln} {bsOf : Ln → List Value} {popL fixL : List Los → List Los} {H0 H : List Los} {O0 O O' : List Ln} {K0 K K' : List (Nat × Obj)} (h : Reach L bsOf popL fixL H0 O0 K0 H O K) (hr : Run L bsOf popL fixL H O K O' K') : Run L bsOf popL fixL H0 O0 K0 O' K' := by
  induction h using Reach.ind with
  | refl => exact hr
  | step y T O K H1 O1 K1 h hb ih => exact ih (Run.step y T O K H1 O1 K1 O' K' hb hr)
end Go.Proofs.Ytpjppolbkdnkaaa
