/- Edges that came in. -/
import Derived.Test.YtaoghggbcbpapaaFre
import Derived.ProofKit
import Derived.OpenShut
import Derived.Below
import Derived.Deep.Grids
namespace Go.Proofs.Ytaoghggbcbpapaa
open Go.ChangeShapes Go.WideShapes Go.ChangeAt Go.RowKit
set_option linter.unusedVariables false
set_option linter.unusedSimpArgs false

set_option maxRecDepth 100000 in
theorem pairs_of {H : Type} {enc : TypeId × Value → H} {W : World} {held : Bool} {fuel : Nat} {a : Option Addr} {len cap : Nat} {x : DataW H × List MemPlace}
    (h : DataW.trod enc Try.prog W 0 (fun _ => true) held fuel 22 [.slice a len cap] = some x) : len ≤ 9223372036854775807 ∧ ∀ k, k < len → ∃ b o, a = some ⟨b, o, none⟩ ∧ b < W.heap.size ∧ ∃ e : Int × Int, W.rangeAt b (o + k * 2) [.int .i64 e.1, .int .i64 e.2] := by
  rcases Deep.open_slice Try.underlying22 h with ⟨hcs, _⟩ | ⟨a', len', cap', m, n, D, Pl, hcs, hb, hl, hm, hmm, _, hx⟩
  · simp at hcs
    obtain ⟨rfl, rfl, rfl⟩ := hcs
    exact ⟨by omega, fun k hk => by omega⟩
  · simp at hcs
    obtain ⟨rfl, rfl, rfl⟩ := hcs
    simp only [if_true] at hmm
    subst hmm
    refine ⟨by simp only [maxLen] at hm; omega, fun k hk => ?_⟩
    have h6 : Try.prog.cellsOf 24 = 2 := by kernel_rfl
    have h3 : Try.prog.cellsOf 3 = 1 := by kernel_rfl
    obtain ⟨cs, hc, ht⟩ := hx k (by omega)
    rw [h6] at hc
    obtain ⟨_, hlen, hcell⟩ := World.cells?_some hc
    obtain ⟨xs, n', _, _, _, hxl, hf⟩ := DataW.trod_struct Try.underlying24 ht
    match cs, hlen with
    | [v0, v1], _ =>
      have g0 := hf 0 _ rfl
      have g1 := hf 1 _ rfl
      have hs : ∀ i, i < 2 → ∃ y, xs[i]? = some y := fun i hi => ⟨_, List.getElem?_eq_getElem (by rw [hxl]; exact hi)⟩
      obtain ⟨y0, e0⟩ := hs 0 (by omega)
      obtain ⟨y1, e1⟩ := hs 1 (by omega)
      rw [e0] at g0
      rw [e1] at g1
      simp [h3] at g0 g1
      obtain ⟨i0, q0, _, w0⟩ := DataW.trod_int Try.underlying3 g0
      obtain ⟨i1, q1, _, w1⟩ := DataW.trod_int Try.underlying3 g1
      obtain ⟨b, o, sp⟩ := a'
      have hsp : sp = none := by
        obtain ⟨cs0, hc0, _⟩ := hx 0 (by omega)
        rw [h6] at hc0
        obtain ⟨_, hl0, hcl⟩ := World.cells?_some hc0
        have h00 := (hcl 0 (by omega)).trans (List.getElem?_eq_getElem (by omega))
        simpa [Addr.add] using World.cell?_spot h00
      subst hsp
      simp only [List.cons.injEq, and_true] at q0 q1
      subst q0 q1
      refine ⟨b, o, rfl, ?_, (i0, i1), ?_⟩
      · have := hcell 0 (by omega)
        rw [Addr.add_mid, Addr.add_mid] at this
        exact World.block_lt_of_cell? W _ this
      · intro j u hu
        have hj : j < 2 := (List.getElem?_eq_some_iff.1 hu).1
        have := hcell j hj
        rw [Addr.add_mid, Addr.add_mid] at this
        rw [this]
        exact hu
theorem edges_of {H : Type} {enc : TypeId × Value → H} {W : World} {held : Bool} {fuel : Nat} {a : Option Addr} {len cap : Nat} {x : DataW H × List MemPlace}
    (h : DataW.trod enc Try.prog W 0 (fun _ => true) held fuel 22 [.slice a len cap] = some x) : len ≤ 9223372036854775807 ∧ (len ≤ 1000000 → ∃ E : List (Int × Int), E.length = len ∧ EdgesAt W a E) := by
  obtain ⟨h1, h2⟩ := pairs_of h
  refine ⟨h1, fun hl => ?_⟩
  have key : ∀ n, n ≤ len → ∃ E : List (Int × Int), E.length = n ∧ EdgesAt W a E := by
    intro n
    induction n with
    | zero => intro _; exact ⟨[], rfl, EdgesAt.nil _ _⟩
    | succ n ih =>
      intro hn
      obtain ⟨E, hE, hA⟩ := ih (by omega)
      obtain ⟨b, o, e, hb, p, hp⟩ := h2 n (by omega)
      refine ⟨E ++ [p], by simp [hE], by simp; omega, fun i y hy => ?_⟩
      by_cases hi : i < E.length
      · rw [List.getElem?_append_left hi] at hy
        exact hA.at' i y hy
      · have hil := (List.getElem?_eq_some_iff.1 hy).1
        rw [List.length_append, List.length_singleton] at hil
        have : i = n := by omega
        subst this
        rw [List.getElem?_append_right (by omega), hE, Nat.sub_self] at hy
        simp at hy
        subst hy
        exact ⟨b, o, e, hb, hp⟩
  exact key len (Nat.le_refl _)
end Go.Proofs.Ytaoghggbcbpapaa
