/- A part of it: SMkIn. -/
import Derived.Test.YteeembildppgmaaGreatM41
import Derived.ProofKit
import Derived.OpenShut
import Derived.Below
import Derived.Deep.Grids
namespace Go.Proofs.YteeembildppgmaaGreat
open Go.ChangeShapes Go.WideShapes Go.ChangeAt Go.RowKit
set_option linter.unusedVariables false
set_option linter.unusedSimpArgs false
theorem bcell_nat (n : Nat) (h : n < 256) : bcell (UInt8.ofNat n) = .int .u8 (n : Int) := by
  unfold bcell
  rw [UInt8.toNat_ofNat', Nat.mod_eq_of_lt (by omega)]
def bytesOfInts (zs : List Int) : List UInt8 := zs.map fun n => UInt8.ofNat n.toNat
theorem bytes_cell (zs : List Int) (hz : ∀ n ∈ zs, (Lit.int .u8 n).wf = true) (j : Nat) (u : Value) (hu : (secCells (bytesOfInts zs))[j]? = some u) : j < zs.length ∧ u = .int .u8 (zs.getD j 0) := by
  simp only [secCells, bytesOfInts, List.getElem?_map, Option.map_map] at hu
  cases hj : zs[j]? with
  | none => simp [hj] at hu
  | some n =>
    have hlt : j < zs.length := (List.getElem?_eq_some_iff.1 hj).1
    refine ⟨hlt, ?_⟩
    have hn : zs.getD j 0 = n := by simp [hj]
    rw [hn]
    have hw := hz n (List.mem_of_getElem? hj)
    have hw2 : (0 : Int) ≤ n ∧ n ≤ 255 := by
      have h : (decide (IntKind.u8.min ≤ n) && decide (n ≤ IntKind.u8.max)) = true := hw
      rw [Bool.and_eq_true, decide_eq_true_eq, decide_eq_true_eq] at h
      exact h
    simp [hj] at hu
    rw [← hu, bcell_nat _ (by omega)]
    congr 1
    omega
theorem Tryz.cells5m : Tryz.prog.cellsOf 5 = 1 := by kernel_rfl
theorem bytes_of1 {H : Type} {enc : TypeId × Value → H} {w : World} {held : Bool} {fuel : Nat} {v : Value} {x : DataW H × List MemPlace} (h : DataW.trod enc Tryz.prog w 0 (fun _ => true) held fuel 36 [v] = some x) :
    ∃ da dn dc bs, v = .slice da dn dc ∧ bs.length = dn ∧ dn ≤ dc ∧ dc ≤ maxLen ∧ (0 < dn → ∃ g o', da = some ⟨g, o', none⟩ ∧ g < w.heap.size ∧ w.rangeAt g o' (secCells bs)) := by
  rcases ChangeShapes.open_ints Tryz.underlying36 Tryz.underlying5 Tryz.cells5m h with ⟨hcs, hx⟩ | ⟨y, l, c, zs, hcs, _, hl, hm, hz, hx, hcell, hwz⟩
  · simp at hcs
    subst hcs
    exact ⟨none, 0, 0, [], rfl, rfl, Nat.le_refl _, Nat.zero_le _, fun h => by omega⟩
  · simp at hcs
    subst hcs
    simp at hz
    have hlen : (bytesOfInts (zs.take l)).length = l := by simp [bytesOfInts]; omega
    refine ⟨some y, l, c, bytesOfInts (zs.take l), rfl, hlen, hl, hm, fun h0 => ?_⟩
    obtain ⟨b, o, sp⟩ := y
    have hsp : sp = none := by simpa [Addr.add] using World.cell?_spot (hcell 0 (by omega))
    subst hsp
    have h00 := hcell 0 (by omega)
    rw [Addr.add_mid] at h00
    refine ⟨b, o, rfl, World.block_lt_of_cell? w _ h00, fun j u hu => ?_⟩
    obtain ⟨hj, rfl⟩ := bytes_cell _ (fun n hn => hwz n (List.mem_of_mem_take hn)) j u hu
    rw [List.length_take] at hj
    have := hcell j (by omega)
    rw [Addr.add_mid] at this
    rw [this]
    congr 2
    simp only [List.getD_eq_getElem?_getD, List.getElem?_take]
    rw [if_pos (by omega)]
set_option maxRecDepth 100000 in
theorem writes_of {H : Type} {enc : TypeId × Value → H} {W : World} {held : Bool} {fuel : Nat} {a : Option Addr} {len cap : Nat} {x : DataW H × List MemPlace}
    (h : DataW.trod enc Tryz.prog W 0 (fun _ => true) held fuel 22 [.slice a len cap] = some x) : IsW W a len := by
  rcases Deep.open_slice Tryz.underlying22 h with ⟨hcs, _⟩ | ⟨a', len', cap', m, n, D, Pl, hcs, hb, hl, hm, hmm, _, hx⟩
  · simp at hcs
    obtain ⟨rfl, rfl, rfl⟩ := hcs
    exact ⟨by omega, fun k hk => by omega⟩
  · simp at hcs
    obtain ⟨rfl, rfl, rfl⟩ := hcs
    simp only [if_true] at hmm
    subst hmm
    refine ⟨by simp only [maxLen] at hm; omega, fun k hk => ?_⟩
    have h7 : Tryz.prog.cellsOf 38 = 7 := by kernel_rfl
    have h3 : Tryz.prog.cellsOf 3 = 1 := by kernel_rfl
    have h36 : Tryz.prog.cellsOf 36 = 1 := by kernel_rfl
    obtain ⟨cs, hc, ht⟩ := hx k (by omega)
    rw [h7] at hc
    obtain ⟨_, hlen, hcell⟩ := World.cells?_some hc
    obtain ⟨xs, n', _, _, _, hxl, hf⟩ := DataW.trod_struct Tryz.underlying38 ht
    match cs, hlen with
    | [v0, v1, v2, v3, v4, v5, v6], _ =>
      have g2 := hf 2 _ rfl
      have g3 := hf 3 _ rfl
      have g6 := hf 6 _ rfl
      have hs : ∀ i, i < 7 → ∃ y, xs[i]? = some y := fun i hi => ⟨_, List.getElem?_eq_getElem (by rw [hxl]; exact hi)⟩
      obtain ⟨y2, e2⟩ := hs 2 (by omega)
      obtain ⟨y3, e3⟩ := hs 3 (by omega)
      obtain ⟨y6, e6⟩ := hs 6 (by omega)
      rw [e2] at g2
      rw [e3] at g3
      rw [e6] at g6
      simp [h3] at g2 g3
      simp [h3, h36] at g6
      obtain ⟨i2, q2, _, w2⟩ := DataW.trod_int Tryz.underlying3 g2
      obtain ⟨i3, q3, _, w3⟩ := DataW.trod_int Tryz.underlying3 g3
      obtain ⟨da, dn, dc, bs, q6, r1, r2, r3, r4⟩ := bytes_of1 g6
      obtain ⟨b, o, sp⟩ := a'
      have hsp : sp = none := by
        obtain ⟨cs0, hc0, _⟩ := hx 0 (by omega)
        rw [h7] at hc0
        obtain ⟨_, hl0, hcl⟩ := World.cells?_some hc0
        have h00 := (hcl 0 (by omega)).trans (List.getElem?_eq_getElem (by omega))
        simpa [Addr.add] using World.cell?_spot h00
      subst hsp
      simp only [List.cons.injEq, and_true] at q2 q3
      subst q2 q3 q6
      have hcl : ∀ j, j < 7 → W.cell? ⟨b, o + k * 7 + j, none⟩ = [v0, v1, .int .i64 i2, .int .i64 i3, v4, v5, .slice da dn dc][j]? := fun j hj => by
        have := hcell j hj
        rw [Addr.add_mid, Addr.add_mid] at this
        exact this
      refine ⟨b, o, i2, i3, da, dn, dc, bs, rfl, ?_, ⟨hcl 2 (by omega), hcl 3 (by omega), hcl 6 (by omega), r1, r2, r3, r4⟩⟩
      exact World.block_lt_of_cell? W _ (hcl 2 (by omega))
end Go.Proofs.YteeembildppgmaaGreat
