/- Steps that came in. -/
import Derived.Test.YtpjppolbkdnkaaaHistP
namespace Go.Proofs.Ytpjppolbkdnkaaa
open Go.ChangeShapes Go.WideShapes Go.ChangeAt Go.RowKit
set_option linter.unusedVariables false
set_option linter.unusedSimpArgs false

section
variable {H : Type} {enc : TypeId × Value → H} {W : World} {held : Bool} {fuel : Nat}
set_option maxRecDepth 100000 in
theorem st_one (cs : List Value) (y : DataW H × List MemPlace) (hl : cs.length = 4) (h : DataW.trod enc Try.prog W 0 (fun _ => true) held fuel 66 cs = some y) : ∃ x : St, stCells x = cs ∧ (In64 x.kind ∧ In64 x.txn ∧ In64 x.page ∧ In64 x.off) := by
  obtain ⟨xs, n', _, _, _, hxl, hf⟩ := DataW.trod_struct Try.underlying66 h
  match cs, hl with
  | [v0, v1, v2, v3], _ =>
    have hxl : xs.length = 4 := hxl
    match xs, hxl with
    | [y0, y1, y2, y3], _ =>
      have g0 := hf 0 _ rfl
      have g1 := hf 1 _ rfl
      have g2 := hf 2 _ rfl
      have g3 := hf 3 _ rfl
      simp [Try.cells3] at g0 g1 g2 g3
      obtain ⟨i0, q0, _, w0⟩ := DataW.trod_int Try.underlying3 g0
      obtain ⟨i1, q1, _, w1⟩ := DataW.trod_int Try.underlying3 g1
      obtain ⟨i2, q2, _, w2⟩ := DataW.trod_int Try.underlying3 g2
      obtain ⟨i3, q3, _, w3⟩ := DataW.trod_int Try.underlying3 g3
      simp only [List.cons.injEq, and_true] at q0 q1 q2 q3
      subst q0 q1 q2 q3
      exact ⟨⟨i0, i1, i2, i3⟩, rfl, in64_of w0, in64_of w1, in64_of w2, in64_of w3⟩
theorem steps_of {v : Value} {x : DataW H × List MemPlace} (h : DataW.trod enc Try.prog W 0 (fun _ => true) held fuel 22 [v] = some x) :
    ∃ (a : Option Addr) (c : Nat) (X : List St), v = .slice a X.length c ∧ X.length ≤ 9223372036854775807 ∧ (∀ s ∈ X, In64 s.kind ∧ In64 s.txn ∧ In64 s.page ∧ In64 s.off) ∧ StepsIn W a X := by
  obtain ⟨a, c, X, h1, h2, h3, h0, h4⟩ := rows_of (α := St) Try.underlying22 4 (by kernel_rfl) (by omega) stCells (fun s => In64 s.kind ∧ In64 s.txn ∧ In64 s.page ∧ In64 s.off) (fun _ => rfl) (fun fuel cs y hl ht => st_one cs y hl ht) h
  refine ⟨a, c, X, h1, by simp only [maxLen] at h3; omega, fun s hs => ?_, fun i q hq => (h4 i q hq).2⟩
  obtain ⟨i, hi, he⟩ := List.getElem_of_mem hs
  exact (h4 i s (by rw [← he]; exact List.getElem?_eq_getElem hi)).1
end
end Go.Proofs.Ytpjppolbkdnkaaa
