/- A script that came in, opened call by call. -/
import Derived.Test.YtohhcgcifceklaaPlaysIn
import Derived.ProofKit
import Derived.OpenShut
import Derived.Below
import Derived.Deep.Grids
namespace Go.Proofs.Ytohhcgcifceklaa
open Go.ChangeShapes Go.WideShapes Go.ChangeAt Go.RowKit
set_option linter.unusedVariables false

theorem bools_of {H : Type} {enc : TypeId × Value → H} {W : World} {held : Bool} {fuel : Nat} {v : Value} {x : DataW H × List MemPlace}
    (h : DataW.trod enc Try.prog W 0 (fun _ => true) held fuel 31 [v] = some x) : ∃ a len cap zs, v = .slice a len cap ∧ IsBools W a len cap zs := by
  rcases Deep.open_bools Try.underlying31 Try.underlying4 (by kernel_rfl) h with ⟨hcs, _⟩ | ⟨x, l, c, B, hcs, _, hl, hm, _, hcell⟩
  · exact ⟨none, 0, 0, [], by simpa using hcs, .inl ⟨rfl, rfl, rfl, rfl⟩⟩
  · refine ⟨some x, l, c, (List.range c).map B, by simpa using hcs, .inr ⟨_, rfl, hl, hm, by simp, fun i hi => ?_⟩⟩
    have hi' : i < c := by simpa using hi
    rw [hcell i hi']
    simp [hi']

theorem ops_of {H : Type} {enc : TypeId × Value → H} {W : World} {held : Bool} {fuel : Nat} {a : Option Addr} {len cap : Nat} {x : DataW H × List MemPlace}
    (h : DataW.trod enc Try.prog W 0 (fun _ => true) held fuel 22 [.slice a len cap] = some x) : IsOps W a len := by
  rcases Deep.open_slice Try.underlying22 h with ⟨hcs, _⟩ | ⟨a', len', cap', m, n, D, Pl, hcs, hb, hl, hm, hmm, _, hx⟩
  · simp at hcs
    obtain ⟨rfl, rfl, rfl⟩ := hcs
    exact ⟨by omega, fun k hk => by omega⟩
  · simp at hcs
    obtain ⟨rfl, rfl, rfl⟩ := hcs
    simp only [if_true] at hmm
    subst hmm
    refine ⟨by simp only [maxLen] at hm; omega, fun k hk => ?_⟩
    have h6 : Try.prog.cellsOf 33 = 6 := by kernel_rfl
    have h3 : Try.prog.cellsOf 3 = 1 := by kernel_rfl
    have h31 : Try.prog.cellsOf 31 = 1 := by kernel_rfl
    obtain ⟨cs, hc, ht⟩ := hx k (by omega)
    rw [h6] at hc
    obtain ⟨_, hlen, hcell⟩ := World.cells?_some hc
    obtain ⟨xs, n', _, _, _, hxl, hf⟩ := DataW.trod_struct Try.underlying33 ht
    match cs, hlen with
    | [v0, v1, v2, v3, v4, v5], _ =>
      have g0 := hf 0 _ rfl
      have g1 := hf 1 _ rfl
      have g2 := hf 2 _ rfl
      have g3 := hf 3 _ rfl
      have g4 := hf 4 _ rfl
      have g5 := hf 5 _ rfl
      have hs : ∀ i, i < 6 → ∃ y, xs[i]? = some y := fun i hi => ⟨_, List.getElem?_eq_getElem (by rw [hxl]; exact hi)⟩
      obtain ⟨y0, e0⟩ := hs 0 (by omega)
      obtain ⟨y1, e1⟩ := hs 1 (by omega)
      obtain ⟨y2, e2⟩ := hs 2 (by omega)
      obtain ⟨y3, e3⟩ := hs 3 (by omega)
      obtain ⟨y4, e4⟩ := hs 4 (by omega)
      obtain ⟨y5, e5⟩ := hs 5 (by omega)
      rw [e0] at g0
      rw [e1] at g1
      rw [e2] at g2
      rw [e3] at g3
      rw [e4] at g4
      rw [e5] at g5
      simp [h3] at g0 g1 g2 g3 g4
      simp [h31] at g5
      obtain ⟨i0, q0, _, w0⟩ := DataW.trod_int Try.underlying3 g0
      obtain ⟨i1, q1, _, w1⟩ := DataW.trod_int Try.underlying3 g1
      obtain ⟨i2, q2, _, w2⟩ := DataW.trod_int Try.underlying3 g2
      obtain ⟨i3, q3, _, w3⟩ := DataW.trod_int Try.underlying3 g3
      obtain ⟨i4, q4, _, w4⟩ := DataW.trod_int Try.underlying3 g4
      obtain ⟨ka, kn, kc, ks, q5, hks⟩ := bools_of g5
      have bd := bounds_i64 w2
      obtain ⟨b, o, sp⟩ := a'
      have hsp : sp = none := by
        obtain ⟨cs0, hc0, _⟩ := hx 0 (by omega)
        rw [h6] at hc0
        obtain ⟨_, hl0, hcl⟩ := World.cells?_some hc0
        have h00 := (hcl 0 (by omega)).trans (List.getElem?_eq_getElem (by omega))
        simpa [Addr.add] using World.cell?_spot h00
      subst hsp
      simp only [List.cons.injEq, and_true] at q0 q1 q2 q3 q4
      subst q0 q1 q2 q3 q4 q5
      refine ⟨b, o, rfl, ?_, i0, i1, i2, i3, i4, ka, kn, kc, ks, ?_, hks, bd.1, bd.2⟩
      · have := hcell 0 (by omega)
        rw [Addr.add_mid, Addr.add_mid] at this
        exact World.block_lt_of_cell? W _ this
      · intro j v hv
        have hj : j < 6 := by
          have := (List.getElem?_eq_some_iff.1 hv).1
          simpa using this
        have := hcell j hj
        rw [Addr.add_mid, Addr.add_mid] at this
        exact this.trans hv
end Go.Proofs.Ytohhcgcifceklaa
