/- Slices of bytes, and slices of such, that came in. -/
import Derived.Test.YtkkmkcobmjdblaaRAwake
import Derived.Deep.Matrix
import Derived.ChangeSlices
namespace Go.Proofs.Ytkkmkcobmjdblaa
open Go.RowKit
set_option linter.unusedVariables false
set_option linter.unusedSimpArgs false

theorem Sl.below {w w' : World} {v : Value} {bs : List UInt8} (h : Sl w v bs) {B : Nat} (hb : Below B w w') (hB : w.heap.size ≤ B) : Sl w' v bs := by
  rcases h with h | ⟨a, c, rfl, hc⟩
  · exact .inl h
  · exact .inr ⟨a, c, rfl, fun j u hu => by
      have h1 := hc j u hu
      have h2 := World.block_lt_of_cell? w _ h1
      exact (World.cell?_of_block (hb.block _ (by omega))).trans h1⟩
/-- A slice of slices of bytes that came in. -/
def RowsIn (w : World) (a : Option Addr) (len : Nat) (B : Nat → List UInt8) : Prop :=
  len ≤ 9223372036854775807 ∧ ∀ i, i < len → ∃ b o ai ci, a = some ⟨b, o, none⟩ ∧ b < w.heap.size ∧ w.cell? ⟨b, o + i, none⟩ = some (.slice ai (B i).length ci) ∧ Sl w (.slice ai (B i).length ci) (B i) ∧ (B i).length ≤ 9223372036854775807
theorem rows_in {w wr : World} {a : Option Addr} {len : Nat} {B : Nat → List UInt8} (h : RowsIn w a len B) (hb : Below w.heap.size w wr) (i : Nat) (hi : i < len) :
    ∃ b o ai ci, a = some ⟨b, o, none⟩ ∧ b < w.heap.size ∧ wr.cell? ⟨b, o + i, none⟩ = some (.slice ai (B i).length ci) ∧ Sl wr (.slice ai (B i).length ci) (B i) ∧ (B i).length ≤ 9223372036854775807 := by
  obtain ⟨b, o, ai, ci, h1, h2, h3, h4, h5⟩ := h.2 i hi
  exact ⟨b, o, ai, ci, h1, h2, (hb.cell (p := ⟨b, o + i, none⟩) h2).trans h3, h4.below hb (Nat.le_refl _), h5⟩
def bytesOfInts (zs : List Int) : List UInt8 := zs.map fun n => UInt8.ofNat n.toNat
theorem bytes_cell (zs : List Int) (hz : ∀ n ∈ zs, (Lit.int .u8 n).wf = true) (j : Nat) (u : Value) (hu : (secCells (bytesOfInts zs))[j]? = some u) : j < zs.length ∧ u = .int .u8 (zs.getD j 0) := by
  simp only [secCells, bytesOfInts, List.getElem?_map, Option.map_map] at hu
  cases hj : zs[j]? with
  | none => simp [hj] at hu
  | some n =>
    have hlt : j < zs.length := (List.getElem?_eq_some_iff.1 hj).1
    refine ⟨hlt, ?_⟩
    have hn : zs.getD j 0 = n := by simp [hj]
    rw [hn]
    have hw := hz n (List.mem_of_getElem? hj)
    have hw2 : (0 : Int) ≤ n ∧ n ≤ 255 := by
      have h : (decide (IntKind.u8.min ≤ n) && decide (n ≤ IntKind.u8.max)) = true := hw
      rw [Bool.and_eq_true, decide_eq_true_eq, decide_eq_true_eq] at h
      exact h
    simp [hj] at hu
    rw [← hu, bcell_ofNat _ (by omega)]
    congr 1
    omega
theorem Try.cells27 : Try.prog.cellsOf 27 = 1 := by kernel_rfl
theorem Try.cells5 : Try.prog.cellsOf 5 = 1 := by kernel_rfl
theorem rows_of {H : Type} {enc : TypeId × Value → H} {w : World} {base fuel : Nat} {a : Option Addr} {len cap : Nat} {x : DataW H × List MemPlace} (h : DataW.trod enc Try.prog w base (fun _ => true) true fuel 22 (Value.slice a len cap).cells.toList = some x) :
    ∃ B, RowsIn w a len B := by
  rcases Deep.open_int_rows Try.underlying22 Try.underlying27 Try.underlying5 Try.cells27 Try.cells5 h with ⟨hcs, _⟩ | ⟨y, l, c, A, L, C, Z, hcs, _, hl, hm, _, hr⟩
  · simp [Value.cells] at hcs
    obtain ⟨rfl, rfl, rfl⟩ := hcs
    exact ⟨fun _ => [], by omega, fun i hi => by omega⟩
  · simp [Value.cells] at hcs
    obtain ⟨rfl, rfl, rfl⟩ := hcs
    simp only [maxLen] at hm
    refine ⟨fun i => bytesOfInts ((Z i).take (L i)), by omega, fun i hi => ?_⟩
    obtain ⟨h1, h2, h3, h4, h5, h6, h7⟩ := hr i (by omega)
    have hlen : (bytesOfInts ((Z i).take (L i))).length = L i := by simp [bytesOfInts]; omega
    obtain ⟨b, o, sp⟩ := y
    have hsp : sp = none := by simpa [Addr.add] using World.cell?_spot (hr 0 (by omega)).1
    subst hsp
    rw [Addr.add_mid] at h1
    refine ⟨b, o, A i, C i, rfl, World.block_lt_of_cell? w _ h1, by rw [hlen]; exact h1, ?_, by rw [hlen]; simp only [maxLen] at h3; omega⟩
    rw [hlen]
    cases hA : A i with
    | none =>
      have h0 := h6 hA
      have hL : L i = 0 := by omega
      rw [hL]
      exact .inl ⟨_, rfl, by simp [bytesOfInts, hL]⟩
    | some a' =>
      refine .inr ⟨a', C i, by rw [hlen], fun j u hu => ?_⟩
      obtain ⟨hj, rfl⟩ := bytes_cell _ (fun n hn => h5 n (List.mem_of_mem_take hn)) j u hu
      rw [List.length_take] at hj
      rw [(h7 a' hA).2 j (by omega)]
      congr 2
      simp only [List.getD_eq_getElem?_getD, List.getElem?_take]
      rw [if_pos (by omega)]
theorem slice_of {H : Type} {enc : TypeId × Value → H} {w : World} {base fuel : Nat} {a : Option Addr} {len cap : Nat} {x : DataW H × List MemPlace} (h : DataW.trod enc Try.prog w base (fun _ => true) true fuel 27 (Value.slice a len cap).cells.toList = some x) :
    ∃ bs, Sl w (.slice a len cap) bs ∧ bs.length = len ∧ len ≤ 9223372036854775807 := by
  rcases ChangeShapes.open_ints Try.underlying27 Try.underlying5 Try.cells5 h with ⟨hcs, _⟩ | ⟨y, l, c, zs, hcs, _, hl, hm, hz, _, hcell, hwz⟩
  · simp [Value.cells] at hcs
    obtain ⟨rfl, rfl, rfl⟩ := hcs
    exact ⟨[], .inl ⟨_, rfl, rfl⟩, rfl, by omega⟩
  · simp [Value.cells] at hcs
    obtain ⟨rfl, rfl, rfl⟩ := hcs
    simp at hz
    simp only [maxLen] at hm
    have hlen : (bytesOfInts (zs.take len)).length = len := by simp [bytesOfInts]; omega
    refine ⟨bytesOfInts (zs.take len), .inr ⟨y, cap, by rw [hlen], fun j u hu => ?_⟩, hlen, by omega⟩
    obtain ⟨hj, rfl⟩ := bytes_cell _ (fun n hn => hwz n (List.mem_of_mem_take hn)) j u hu
    rw [List.length_take] at hj
    rw [hcell j (by omega)]
    congr 2
    simp only [List.getD_eq_getElem?_getD, List.getElem?_take]
    rw [if_pos (by omega)]
end Go.Proofs.Ytkkmkcobmjdblaa
