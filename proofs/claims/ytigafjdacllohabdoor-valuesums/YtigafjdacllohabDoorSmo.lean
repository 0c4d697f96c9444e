/- Numbers that came in as a slice. -/
import Derived.Test.YtigafjdacllohabDoorSml
import Derived.Test.YtigafjdacllohabDoorOpen
namespace Go.Proofs.YtigafjdacllohabDoor
set_option maxRecDepth 100000
open Go.ChangeShapes Go.WideShapes Go.ChangeAt Go.RowKit
set_option linter.unusedVariables false
set_option linter.unusedSimpArgs false

theorem Tryd.under30 : Tryd.prog.underlying 30 = some (.slice 3) := by kernel_rfl
theorem ints_of {H : Type} {enc : TypeId × Value → H} {w : World} {held : Bool} {fuel : Nat} {v : Value} {x : DataW H × List MemPlace} (h : DataW.trod enc Tryd.prog w 0 (fun _ => true) held fuel 30 [v] = some x) :
    ∃ l, IsAt w v l ∧ ∀ n ∈ l, small n := by
  rcases ChangeShapes.open_ints Tryd.under30 Tryd.underlying3 Tryd.cells3 h with ⟨hcs, hx⟩ | ⟨y, l, c, zs, hcs, _, hl, hm, hz, hx, hcell, hwz⟩
  · simp at hcs
    subst hcs
    exact ⟨[], Row.nil w, fun n hn => by cases hn⟩
  · simp at hcs
    subst hcs
    simp at hz
    have hlen : (zs.take l).length = l := by simp; omega
    refine ⟨zs.take l, ⟨some y, c, by rw [hlen], by rw [hlen]; exact hl, hm, fun hne => ?_⟩, fun n hn => bounds_i64 (hwz n (List.mem_of_mem_take hn))⟩
    obtain ⟨b, o, sp⟩ := y
    have h0 : 0 < l := by
      rcases Nat.eq_zero_or_pos l with h | h
      · subst h; exact absurd rfl hne
      · exact h
    have hsp : sp = none := spot_of (hcell 0 (by omega)) rfl
    subst hsp
    refine ⟨b, o, rfl, fun j u hu => ?_⟩
    have hj : j < l := by
      have := (List.getElem?_eq_some_iff.1 hu).1
      rw [List.length_map, hlen] at this
      exact this
    have := hcell j (by omega)
    rw [Addr.add_mid] at this
    rw [this, ← hu]
    have hjz : j < zs.length := by omega
    simp [hj, hjz]
theorem ints_arg {H : Type} {enc : TypeId × Value → H} {W : World} {held : Bool} {base : Nat} {v : Value} {d : DataW H} {p : List MemPlace} (hv : Value.okWide Tryd.prog W .any base 30 v) (h : DataW.Trod enc Tryd.prog W 0 (fun _ => true) held 30 v d p) :
    ∃ l, IsAt W v l ∧ ∀ n ∈ l, small n := by
  obtain ⟨a, len, cap, rfl⟩ := okWide_slice Tryd.under30 hv
  obtain ⟨fuel, hf⟩ := h
  exact ints_of hf
end Go.Proofs.YtigafjdacllohabDoor
