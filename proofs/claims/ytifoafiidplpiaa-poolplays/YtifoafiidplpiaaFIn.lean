/- What comes in: lists of ints and bools; the law's own numbers; a row of ints of the law's own. -/
import Derived.Test.YtifoafiidplpiaaFSteps
import Derived.Deep.Grids
import Derived.ChangeSlices
namespace Go.Proofs.Ytifoafiidplpiaa
open Go.RowKit
set_option linter.unusedVariables false
set_option linter.unusedSimpArgs false

/-! ### Lists of bools and ints that came in -/
def IsInts (w : World) (a : Option Addr) (len cap : Nat) (zs : List Int) : Prop :=
  len ≤ 9223372036854775807 ∧ ∀ k, k < len → ∃ b o, a = some ⟨b, o, none⟩ ∧ b < w.heap.size ∧ w.cell? ⟨b, o + k, none⟩ = some (.int .i64 (zs.getD k 0)) ∧ -9223372036854775808 ≤ zs.getD k 0 ∧ zs.getD k 0 ≤ 9223372036854775807
theorem Try.cells3 : Try.prog.cellsOf 3 = 1 := by kernel_rfl
theorem ints_of {H : Type} {enc : TypeId × Value → H} {w : World} {base fuel : Nat} {a : Option Addr} {len cap : Nat} {x : DataW H × List MemPlace} (h : DataW.trod enc Try.prog w base (fun _ => true) true fuel 49 (Value.slice a len cap).cells.toList = some x) :
    ∃ zs, IsInts w a len cap zs := by
  rcases ChangeShapes.open_ints Try.underlying49 Try.underlying3 Try.cells3 h with ⟨hcs, _⟩ | ⟨y, l, c, zs, hcs, _, hl, hm, hz, _, hcell, hwz⟩
  · simp [Value.cells] at hcs
    obtain ⟨rfl, rfl, rfl⟩ := hcs
    exact ⟨[], by omega, fun k hk => by omega⟩
  · simp [Value.cells] at hcs
    obtain ⟨rfl, rfl, rfl⟩ := hcs
    simp at hz
    simp only [maxLen] at hm
    refine ⟨zs, by omega, fun k hk => ?_⟩
    have hc := hcell k (by omega)
    obtain ⟨b, o, sp⟩ := y
    have hsp : sp = none := by simpa [Addr.add] using World.cell?_spot (hcell 0 (by omega))
    subst hsp
    rw [Addr.add_mid] at hc
    have hmem : zs.getD k 0 ∈ zs := by
      rw [List.getD_eq_getElem?_getD, List.getElem?_eq_getElem (by omega)]
      exact List.getElem_mem (by omega)
    have hb : (decide (IntKind.i64.min ≤ zs.getD k 0) && decide (zs.getD k 0 ≤ IntKind.i64.max)) = true := hwz _ hmem
    rw [Bool.and_eq_true, decide_eq_true_eq, decide_eq_true_eq] at hb
    exact ⟨b, o, rfl, World.block_lt_of_cell? w _ hc, hc, hb.1, hb.2⟩
theorem ints_at {w wr : World} {a : Option Addr} {len cap : Nat} {zs : List Int} (h : IsInts w a len cap zs) (hb : Below w.heap.size w wr) (k : Nat) (hk : k < len) :
    ∃ b o, a = some ⟨b, o, none⟩ ∧ wr.cell? ⟨b, o + k, none⟩ = some (.int .i64 (zs.getD k 0)) ∧ -9223372036854775808 ≤ zs.getD k 0 ∧ zs.getD k 0 ≤ 9223372036854775807 := by
  obtain ⟨b, o, h1, h2, h3, h4, h5⟩ := h.2 k hk
  exact ⟨b, o, h1, (hb.cell (p := ⟨b, o + k, none⟩) h2).trans h3, h4, h5⟩
/-- (z % m + m) % m, as the program reckons it. -/
theorem mod_in (z : Int) (m : Nat) (h1 : 0 < m) (h2 : m ≤ 1000) : ∃ P : Nat, P < m ∧ (z.tmod m + m).tmod m = (P : Int) ∧ IntKind.i64.wrap (z.tmod m + m) = z.tmod m + m := by
  have hb : -(m : Int) < z.tmod m ∧ z.tmod m < m := by
    by_cases hz : 0 ≤ z
    · rw [Int.tmod_eq_emod_of_nonneg hz]
      have := Int.emod_nonneg z (show (m : Int) ≠ 0 by omega)
      have := Int.emod_lt_of_pos z (show 0 < (m : Int) by omega)
      omega
    · have e : z.tmod m = -((-z).tmod m) := by rw [Int.neg_tmod]; omega
      rw [e, Int.tmod_eq_emod_of_nonneg (show 0 ≤ -z by omega)]
      have := Int.emod_nonneg (-z) (show (m : Int) ≠ 0 by omega)
      have := Int.emod_lt_of_pos (-z) (show 0 < (m : Int) by omega)
      omega
  have hn : 0 ≤ z.tmod m + m := by omega
  refine ⟨((z.tmod m + m) % m).toNat, ?_, ?_, ?_⟩
  · have := Int.emod_nonneg (z.tmod m + m) (show (m : Int) ≠ 0 by omega)
    have := Int.emod_lt_of_pos (z.tmod m + m) (show 0 < (m : Int) by omega)
    omega
  · rw [Int.tmod_eq_emod_of_nonneg hn]
    have := Int.emod_nonneg (z.tmod m + m) (show (m : Int) ≠ 0 by omega)
    omega
  · rw [IntKind.wrap_i64]; omega
/-- The last seven bits of whatever int. -/
theorem and127 (x : Int) : bits .and .i64 x 127 = x % 128 := by
  have h7 : (BitVec.ofInt 64 127).toNat = 2 ^ 7 - 1 := by decide
  have hx : (BitVec.ofInt 64 x).toNat = (x % 18446744073709551616).toNat := by simp
  have : bits .and .i64 x 127 = IntKind.i64.wrap (((BitVec.ofInt 64 x).toNat &&& (BitVec.ofInt 64 127).toNat : Nat) : Int) := by
    simp only [bits, BitVec.toNat_and]
    rfl
  rw [this, h7, Nat.and_two_pow_sub_one_eq_mod, hx, IntKind.wrap_i64]
  omega
/-- A row of the law's own ints. -/
def Own (w : World) (g : Nat) (t : TypeId) (Z : List Int) : Prop := w.heap[g]? = some (.cells (Z.map (Value.int .i64)).toArray t (0, 0))
theorem Own.cell {w : World} {g : Nat} {t : TypeId} {Z : List Int} (h : Own w g t Z) (k : Nat) (hk : k < Z.length) : w.cell? ⟨g, k, none⟩ = some (.int .i64 (Z.getD k 0)) := by
  rw [cell_of_row _ _ _ _ _ _ h]
  simp [hk]
theorem Own.fz {w : World} {g : Nat} {t : TypeId} {Z : List Int} (h : Own w g t Z) (k : Nat) : w.frozen? ⟨g, k, none⟩ = false := frozen_of_row w g k _ _ h
theorem Own.set {w : World} {g : Nat} {t : TypeId} {Z : List Int} (h : Own w g t Z) (k : Nat) (v : Int) : Own (w.setCell ⟨g, k, none⟩ (.int .i64 v)) g t (Z.set k v) := by
  unfold Own at h ⊢
  rw [heap_setCell_same w g k _ _ _ h]
  simp [List.map_set]
theorem Own.kept {w w' : World} {g : Nat} {t : TypeId} {Z : List Int} {xs : List Nat} (h : Own w g t Z) (hk : Kept xs w w') (hg : g ∈ xs) : Own w' g t Z := (hk.2 g hg).trans h
theorem Own.lt {w : World} {g : Nat} {t : TypeId} {Z : List Int} (h : Own w g t Z) : g < w.heap.size := (Array.getElem?_eq_some_iff.1 h).1
theorem Own.belowW {w w' : World} {g : Nat} {t : TypeId} {Z : List Int} (h : Own w g t Z) (hb : Below w.heap.size w w') : Own w' g t Z := (hb.block g h.lt).trans h
end Go.Proofs.Ytifoafiidplpiaa
