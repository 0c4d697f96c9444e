/- Bools that came in. -/
import Derived.Test.YtjcobejaldfibaaOpn
import Derived.Test.YtjcobejaldfibaaMpp
import Derived.Deep.Grids
namespace Go.Proofs.Ytjcobejaldfibaa
open Go.ChangeShapes Go.WideShapes Go.ChangeAt Go.RowKit
set_option linter.unusedVariables false
set_option linter.unusedSimpArgs false

theorem Try.cells4b : Try.prog.cellsOf 4 = 1 := by kernel_rfl
theorem bools_of {H : Type} {enc : TypeId × Value → H} {w : World} {held : Bool} {fuel : Nat} {v : Value} {x : DataW H × List MemPlace} (h : DataW.trod enc Try.prog w 0 (fun _ => true) held fuel 23 [v] = some x) :
    ∃ B, BoAt w v B := by
  rcases Deep.open_bools Try.underlying23 Try.underlying4 Try.cells4b h with ⟨hcs, hx⟩ | ⟨y, l, c, F, hcs, _, hl, hm, hx, hcell⟩
  · simp at hcs
    subst hcs
    exact ⟨[], Row.nil w⟩
  · simp at hcs
    subst hcs
    have hlen : ((List.range l).map F).length = l := by simp
    refine ⟨(List.range l).map F, ⟨some y, c, by rw [hlen], by rw [hlen]; exact hl, hm, fun hne => ?_⟩⟩
    obtain ⟨b, o, sp⟩ := y
    have h0 : 0 < l := by
      rcases Nat.eq_zero_or_pos l with h | h
      · subst h; exact absurd rfl hne
      · exact h
    have hsp : sp = none := spot_of (hcell 0 (by omega)) rfl
    subst hsp
    refine ⟨b, o, rfl, fun j u hu => ?_⟩
    have hj : j < l := by
      have := (List.getElem?_eq_some_iff.1 hu).1
      simpa using this
    have := hcell j (by omega)
    rw [Addr.add_mid] at this
    rw [this]
    simp [hj] at hu
    rw [hu]
theorem bools_arg {H : Type} {enc : TypeId × Value → H} {W : World} {held : Bool} {base : Nat} {v : Value} {d : DataW H} {p : List MemPlace} (hv : Value.okWide Try.prog W .any base 23 v) (h : DataW.Trod enc Try.prog W 0 (fun _ => true) held 23 v d p) :
    ∃ B, BoAt W v B := by
  obtain ⟨a, len, cap, rfl⟩ := okWide_slice Try.underlying23 hv
  obtain ⟨fuel, hf⟩ := h
  exact bools_of hf
end Go.Proofs.Ytjcobejaldfibaa
