/- For every list of steps the law RedoTwice returns true and leaves its argument as it was (no condition beyond the form's own reach): the row 'Rows.RedoTwiceSaid'. -/
import Derived.Test.YtpjppolbkdnkaaaTwice
import Derived.Test.YtpjppolbkdnkaaaHist
import Derived.Test.YtpjppolbkdnkaaaHOpen
import Derived.WalkKit
import Derived.ProofKit
import Derived.OpenShut
import Derived.ShutString
import Derived.ChangeOld
import Derived.Below
namespace Go.Proofs.Ytpjppolbkdnkaaa.redoTwice
open Go.ChangeShapes Go.WideShapes Go.ChangeAt Go.RowKit
open Go.ChangeMaps (open_string shut_string)
set_option linter.unusedVariables false

theorem own : ownKnob Try.prog.godebug = none := by kernel_rfl
theorem laidOut : laidOutB Try.prog = true := by kernel_rfl
theorem history_all (w : World) (a : Option Addr) (c : Nat) (X : List St) (hX : StepsIn w a X) (hXl : X.length ≤ 9223372036854775807) :
    Calls Try.prog 8 #[.slice a X.length c] w fun e w' => ∃ (a3 : Option Addr) (c3 : Nat) (S : Hs), e = .returned (.slice a3 S.L.length c3) ∧ w'.ownsRow w.heap.size 34 12 (.slice a3 S.L.length c3) S.L.length (lnRow S.L) ∧ HC S ∧ S.L.length ≤ 60 ∧ BytesOk w' S.L ∧ (∀ r ∈ S.L, r.kind = 2 → ∀ g, r.sb = oneSv g → (Value.slice a3 S.L.length c3).ownBlock ≠ some g) ∧ Below w.heap.size w w' := by
  refine (history_any w a c X hX hXl).mono ?_
  rintro e w' ⟨g4, g5, g6, v3, tv, S, K, rfl, hI, hR⟩
  obtain ⟨a3, c3, rfl⟩ := own_slice hI.lines
  refine ⟨a3, c3, S, rfl, hI.lines, hR.hc, by have := hR.ok.2; omega, fun r hr hk => ?_, fun r hr hk g hg ho => ?_, hI.below⟩
  · obtain ⟨g, v, e, hm⟩ := hR.bytes r hr hk
    exact ⟨g, v, e, (hI.keep _ hm).1⟩
  · obtain ⟨g', v, e, hm⟩ := hR.bytes r hr hk
    rw [hg] at e
    unfold oneSv at e
    injection e with e
    injection e with e
    injection e with e
    subst e
    have hnd := hI.nd
    simp only [List.nodup_cons] at hnd
    have h3 := List.nodup_append.1 hnd.2.2.2
    exact h3.2.2 g (List.mem_append_left _ (by rw [ho]; simp)) g (List.mem_map.2 ⟨_, hm, rfl⟩) rfl

set_option maxRecDepth 100000 in
theorem lifted (os : Os) (started : os.Started) (H : Type) (enc : TypeId × Value → H) :
    ReturnsInHanded {} Try.checked os 7 .any (Rows.redoTwiceSpec.pre6 enc Try.prog Try.f7 Rows.redoTwiceRow.domain false) (Rows.redoTwiceSpec.post enc Try.prog Try.f7 false true false false) := by
  refine returnsInHanded_of_change (C := Try.checked) own started (by kernel_rfl) Try.func7
    (ChangeSpec.witness6 (enc := enc) (C := Try.checked) false ⟨#[], #[.slice none 0 0], []⟩ 8 (by kernel_rfl) (by kernel_rfl) (by kernel_rfl) (by kernel_rfl)) ?_
  intro W base args ds gs before hval0 hW hcnd _
  have hval : ∀ (j : Nat) t v, Try.f7.params[j]? = some t → args[j]? = some v → Value.okWide Try.prog W .any base t v := hval0
  have hW' := hW
  obtain ⟨p, q, hA0, hV, rfl, hfz, hnd⟩ := hW
  have hA : DataW.TrodAll enc Try.prog W 0 (fun _ => true) true Try.f7.params.toList args.toList ds p := hA0
  rw [Try.params7] at hA hval
  obtain ⟨v0, vs0, d0, ds0, p0, q0, hargs, rfl, rfl, h0, r0⟩ := trodAll_cons hA
  obtain ⟨rfl, rfl, rfl⟩ := trodAll_nil r0
  obtain rfl : args = #[v0] := by cases args; simp_all
  obtain ⟨rfl, rfl⟩ := trodVars_none hV
  have k0 := h0
  have lt0 : ∀ x ∈ p0, x.block < W.heap.size := by obtain ⟨m, hm⟩ := k0; exact DataW.trod_lt m _ _ _ hm
  obtain ⟨a0, len0, cap0, rfl⟩ := okWide_slice Try.underlying22 (hval 0 22 v0 rfl rfl)
  have e0 : ∃ (a : Option Addr) (c : Nat) (X : List St), Value.slice a0 len0 cap0 = .slice a X.length c ∧ X.length ≤ 9223372036854775807 ∧ (∀ s ∈ X, In64 s.kind ∧ In64 s.txn ∧ In64 s.page ∧ In64 s.off) ∧ StepsIn W a X := by
    obtain ⟨fuel, hf⟩ := h0
    exact steps_of hf
  obtain ⟨xa, xc, X, ex, hX1, _, hX2⟩ := e0
  injection ex with q1 q2 q3
  subst q1; subst q2; subst q3
  clear hA0 hval0
  refine (twice_walk W a0 X.length cap0 (history_all W a0 cap0 X hX2 hX1)).mono fun e W' ⟨he, bel⟩ => ?_
  subst he
  exact ⟨_, rfl, _, _, _, [], _, [], hW', trodAll_mk1 (shut_bool Try.underlying4 _), (trodAll_cons_mk (Below.trod laidOut (by kernel_rfl) (of_decide_eq_true (by kernel_rfl)) k0 bel lt0) trodAll_mk0), rfl, bel.frame _, fun h => by cases h⟩

theorem over : Rows.redoTwiceRow.holds Try.pinned (OpenSpec.ofChange Rows.redoTwiceSpec) :=
  OpenClaim.holds_of_wide 7 Try.f7 rfl rfl rfl rfl rfl rfl rfl ⟨rfl, rfl, rfl, rfl, rfl⟩ rfl rfl rfl rfl rfl (by kernel_rfl) Try.func7 (by kernel_rfl)
    (of_decide_eq_true (by kernel_rfl)) (by unfold Func.isWrapper; first | (rw [if_pos (by decide +kernel)]; kernel_rfl) | (rw [if_neg (by decide +kernel)]; exact ⟨rfl, rfl⟩))
    (fun os started H enc _ => lifted os started H enc)
end Go.Proofs.Ytpjppolbkdnkaaa.redoTwice
namespace Go.Proofs.Ytpjppolbkdnkaaa
theorem redoTwice_holds : Rows.RedoTwiceSaid := redoTwice.over
end Go.Proofs.Ytpjppolbkdnkaaa
