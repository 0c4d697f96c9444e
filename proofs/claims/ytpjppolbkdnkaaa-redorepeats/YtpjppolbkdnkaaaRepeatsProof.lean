/- For every log, list of dirty pages and list of pages' LSNs the law RedoRepeats returns true and leaves its arguments as they were (no condition beyond the form's own reach): the row 'Rows.RedoRepeatsSaid'. -/
import Derived.Test.YtpjppolbkdnkaaaRepeats
import Derived.WalkKit
import Derived.ProofKit
import Derived.OpenShut
import Derived.ShutString
import Derived.ChangeOld
import Derived.Below
namespace Go.Proofs.Ytpjppolbkdnkaaa.redoRepeats
open Go.ChangeShapes Go.WideShapes Go.ChangeAt Go.RowKit
open Go.ChangeMaps (open_string shut_string)
set_option linter.unusedVariables false

theorem own : ownKnob Try.prog.godebug = none := by kernel_rfl
theorem laidOut : laidOutB Try.prog = true := by kernel_rfl

set_option maxRecDepth 100000 in
theorem lifted (os : Os) (started : os.Started) (H : Type) (enc : TypeId × Value → H) :
    ReturnsInHanded {} Try.checked os 5 .any (Rows.redoRepeatsSpec.pre6 enc Try.prog Try.f5 Rows.redoRepeatsRow.domain false) (Rows.redoRepeatsSpec.post enc Try.prog Try.f5 false true false false) := by
  refine returnsInHanded_of_change (C := Try.checked) own started (by kernel_rfl) Try.func5
    (ChangeSpec.witness6 (enc := enc) (C := Try.checked) false ⟨#[], #[.slice none 0 0, .slice none 0 0, .slice none 0 0], []⟩ 8 (by kernel_rfl) (by kernel_rfl) (by kernel_rfl) (by kernel_rfl)) ?_
  intro W base args ds gs before hval0 hW hcnd _
  have hval : ∀ (j : Nat) t v, Try.f5.params[j]? = some t → args[j]? = some v → Value.okWide Try.prog W .any base t v := hval0
  have hW' := hW
  obtain ⟨p, q, hA0, hV, rfl, hfz, hnd⟩ := hW
  have hA : DataW.TrodAll enc Try.prog W 0 (fun _ => true) true Try.f5.params.toList args.toList ds p := hA0
  rw [Try.params5] at hA hval
  obtain ⟨v0, vs0, d0, ds0, p0, q0, hargs, rfl, rfl, h0, r0⟩ := trodAll_cons hA
  obtain ⟨v1, vs1, d1, ds1, p1, q1, rfl, rfl, rfl, h1, r1⟩ := trodAll_cons r0
  obtain ⟨v2, vs2, d2, ds2, p2, q2, rfl, rfl, rfl, h2, r2⟩ := trodAll_cons r1
  obtain ⟨rfl, rfl, rfl⟩ := trodAll_nil r2
  obtain rfl : args = #[v0, v1, v2] := by cases args; simp_all
  obtain ⟨rfl, rfl⟩ := trodVars_none hV
  have k0 := h0
  have k1 := h1
  have k2 := h2
  have lt0 : ∀ x ∈ p0, x.block < W.heap.size := by obtain ⟨m, hm⟩ := k0; exact DataW.trod_lt m _ _ _ hm
  have lt1 : ∀ x ∈ p1, x.block < W.heap.size := by obtain ⟨m, hm⟩ := k1; exact DataW.trod_lt m _ _ _ hm
  have lt2 : ∀ x ∈ p2, x.block < W.heap.size := by obtain ⟨m, hm⟩ := k2; exact DataW.trod_lt m _ _ _ hm
  obtain ⟨a0, len0, cap0, rfl⟩ := okWide_slice Try.underlying23 (hval 0 23 v0 rfl rfl)
  obtain ⟨a1, len1, cap1, rfl⟩ := okWide_slice Try.underlying26 (hval 1 26 v1 rfl rfl)
  obtain ⟨a2, len2, cap2, rfl⟩ := okWide_slice Try.underlying49 (hval 2 49 v2 rfl rfl)
  have e0 : ∃ (a : Option Addr) (c : Nat) (L : List Ln), Value.slice a0 len0 cap0 = .slice a L.length c ∧ L.length ≤ c ∧ c ≤ 9223372036854775807 ∧ (a = none → L = [] ∧ c = 0) ∧ LinesIn W a L ∧ ∀ q ∈ L, ListsIn W q := by
    obtain ⟨fuel, hf⟩ := h0
    exact lines_of hf
  have e1 : ∃ (a : Option Addr) (c : Nat) (D : List (Int × Int)), Value.slice a1 len1 cap1 = .slice a D.length c ∧ D.length ≤ 9223372036854775807 ∧ (∀ q ∈ D, In64 q.1 ∧ In64 q.2) ∧ DirtsIn W a D := by
    obtain ⟨fuel, hf⟩ := h1
    exact dirts_of hf
  have e2 : ∃ (a : Option Addr) (c : Nat) (l : List Int), Value.slice a2 len2 cap2 = .slice a l.length c ∧ l.length ≤ 9223372036854775807 ∧ IntsIn W a l := by
    obtain ⟨fuel, hf⟩ := h2
    exact ints_of hf
  obtain ⟨la, lc, L, el, hL1, hL2, hL3, hL4, hL5⟩ := e0
  obtain ⟨da, dc, D, ed, hD1, hD2, hD3⟩ := e1
  obtain ⟨pa, pc, pages, ep, hP1, hP2⟩ := e2
  injection el with q1 q2 q3
  subst q1; subst q2; subst q3
  injection ed with q1 q2 q3
  subst q1; subst q2; subst q3
  injection ep with q1 q2 q3
  subst q1; subst q2; subst q3
  clear hA0 hval0
  refine (repeats_walk W a0 cap0 L hL4 hL5 hL1 hL2 hL3 a1 cap1 D hD3 hD2 hD1 a2 cap2 pages hP2 hP1).mono fun e W' ⟨he, bel⟩ => ?_
  subst he
  exact ⟨_, rfl, _, _, _, [], _, [], hW', trodAll_mk1 (shut_bool Try.underlying4 _), (trodAll_cons_mk (Below.trod laidOut (by kernel_rfl) (of_decide_eq_true (by kernel_rfl)) k0 bel lt0) (trodAll_cons_mk (Below.trod laidOut (by kernel_rfl) (of_decide_eq_true (by kernel_rfl)) k1 bel lt1) (trodAll_cons_mk (Below.trod laidOut (by kernel_rfl) (of_decide_eq_true (by kernel_rfl)) k2 bel lt2) trodAll_mk0))), rfl, bel.frame _, fun h => by cases h⟩

theorem over : Rows.redoRepeatsRow.holds Try.pinned (OpenSpec.ofChange Rows.redoRepeatsSpec) :=
  OpenClaim.holds_of_wide 5 Try.f5 rfl rfl rfl rfl rfl rfl rfl ⟨rfl, rfl, rfl, rfl, rfl⟩ rfl rfl rfl rfl rfl (by kernel_rfl) Try.func5 (by kernel_rfl)
    (of_decide_eq_true (by kernel_rfl)) (by unfold Func.isWrapper; first | (rw [if_pos (by decide +kernel)]; kernel_rfl) | (rw [if_neg (by decide +kernel)]; exact ⟨rfl, rfl⟩))
    (fun os started H enc _ => lifted os started H enc)
end Go.Proofs.Ytpjppolbkdnkaaa.redoRepeats
namespace Go.Proofs.Ytpjppolbkdnkaaa
theorem redoRepeats_holds : Rows.RedoRepeatsSaid := redoRepeats.over
end Go.Proofs.Ytpjppolbkdnkaaa
