/- One loser at most. -/
import Derived.Test.YtpjppolbkdnkaaaUndo
namespace Go.Proofs.Ytpjppolbkdnkaaa
open Go.RowKit
set_option linter.unusedVariables false
set_option linter.unusedSimpArgs false

def hpOne (w0 : World) (R : Nat) (lg : Sv) : Hp w0 R lg 1 where
  pushL H y := H ++ [y]
  popL := List.tail
  fixL := id
  pushP H y := List.perm_append_singleton y H
  popP y T := List.Perm.refl _
  fixP H := List.Perm.refl _
  push H y h := by
    obtain rfl : H = [] := List.length_eq_zero_iff.1 (by omega)
    intro W los wr O K x
    refine (heapPush_nil x y).mono ?_
    rintro e w' ⟨rfl, ao, c, h⟩
    exact ⟨rfl, _, h⟩
  pop y T h := by
    obtain rfl : T = [] := List.length_eq_zero_iff.1 (by omega)
    intro W los wr O K x
    obtain ⟨g, c, cur, hlos, _, _, hc, _⟩ := own_some x.heap (by simp)
    subst hlos
    refine (heapPop_one x (by simpa using hc)).mono ?_
    rintro e w' ⟨h1, h⟩
    exact ⟨h1, _, h⟩
  fix y T h := by
    obtain rfl : T = [] := List.length_eq_zero_iff.1 (by omega)
    intro W los wr O K x
    obtain ⟨g, c, cur, hlos, _, _, hc, _⟩ := own_some x.heap (by simp)
    subst hlos
    refine (fix_one R _ c W x.c7).mono ?_
    rintro e w' ⟨h1, h⟩
    exact ⟨h1, _, x.stayD h⟩
/-- Step by step, from the first on. -/
inductive Run (L : List Ln) (bsOf : Ln → List Value) (popL fixL : List Los → List Los) : List Los → List Ln → List (Nat × Obj) → List Ln → List (Nat × Obj) → Prop
  | done (O : List Ln) (K : List (Nat × Obj)) : Run L bsOf popL fixL [] O K O K
  | step (y : Los) (T : List Los) (O : List Ln) (K : List (Nat × Obj)) (H1 : List Los) (O1 : List Ln) (K1 : List (Nat × Obj)) (O' : List Ln) (K' : List (Nat × Obj)) (hb : BackTo L bsOf popL fixL y T O K H1 O1 K1) (h : Run L bsOf popL fixL H1 O1 K1 O' K') : Run L bsOf popL fixL (y :: T) O K O' K'
theorem Reach.run {L : List Ln} {bsOf : Ln → List Value} {popL fixL : List Los → List Los} {H0 H : List Los} {O0 O O' : List Ln} {K0 K K' : List (Nat × Obj)} (h : Reach L bsOf popL fixL H0 O0 K0 H O K) (hr : Run L bsOf popL fixL H O K O' K') : Run L bsOf popL fixL H0 O0 K0 O' K' := by
  induction h with
  | refl => exact hr
  | step y T O K H1 O1 K1 h hb ih => exact ih (Run.step y T O K H1 O1 K1 O' K' hb hr)
end Go.Proofs.Ytpjppolbkdnkaaa
