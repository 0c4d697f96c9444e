/- 'number', 'lay' and Clone: numbers out of bytes and into bytes. -/
import Derived.Test.YtdddeneppciiiaaMem
import Derived.Deep.QuietTactic
import Derived.BigQuiet
import Derived.WalkMore
import Derived.ScopeJumps
namespace Go.Proofs.Ytdddeneppciiiaa
open Go.RowKit
set_option linter.unusedVariables false
set_option linter.unusedSimpArgs false

theorem or_low (v c : Nat) (hc : c < 256) : (v * 256) ||| c = v * 256 + c := by
  have h := Nat.shiftLeft_add_eq_or_of_lt (i := 8) (by simpa using hc) v
  rw [Nat.shiftLeft_eq] at h
  exact h.symm
theorem or_i64 (v c : Nat) (hv : v < 72057594037) (hc : c < 256) : bits .or .i64 ((v : Int) * 256) (c : Int) = ((v * 256 + c : Nat) : Int) := by
  have h1 : (v : Int) * 256 = ((v * 256 : Nat) : Int) := by omega
  rw [h1]
  have : bits .or .i64 ((v * 256 : Nat) : Int) (c : Int) = IntKind.i64.wrap (((BitVec.ofInt 64 ((v * 256 : Nat) : Int)).toNat ||| (BitVec.ofInt 64 (c : Int)).toNat : Nat) : Int) := by
    simp only [bits, BitVec.toNat_or]
    rfl
  rw [this]
  have e1 : (BitVec.ofInt 64 ((v * 256 : Nat) : Int)).toNat = v * 256 := by simp; omega
  have e2 : (BitVec.ofInt 64 (c : Int)).toNat = c := by simp; omega
  rw [e1, e2, or_low v c hc, IntKind.wrap_i64]
  omega
theorem w64 (b : UInt8) : wrap64 (b.toNat : Int) = (b.toNat : Int) := by
  have := b.toNat_lt
  simp only [wrap64]
  omega
theorem beval_take_lt (bs : List UInt8) (k : Nat) (hk : k ≤ 4) : beval (bs.take k) < 4294967297 := by
  have h1 := beval_lt (bs.take k)
  have h2 : (bs.take k).length ≤ k := List.length_take_le _ _
  exact Nat.lt_of_lt_of_le h1 (Nat.le_trans (Nat.pow_le_pow_right (by omega) (by omega : (bs.take k).length ≤ 4)) (by decide))

set_option maxHeartbeats 400000 in
theorem number_any {w : World} {v : Value} {bs : List UInt8} (h : Sl w v bs) (hl : bs.length ≤ 4) :
    Calls Try.prog 42 #[v] w fun e w' => e = .returned (.int .i64 (beval bs : Nat)) ∧ w' = w := by
  obtain ⟨ao, c, rfl, hc1, hc2⟩ := h.len
  simp only [maxLen] at hc2
  have HG : Hid (∀ k, k < bs.length → ∃ g o, ao = some ⟨g, o, none⟩ ∧ w.cell? ⟨g, o + k, none⟩ = some (.int .u8 ((bs[k]?.getD 0).toNat : Int))) := fun k hk => by simpa using h.get k hk
  have HT : Hid (∀ k, k < bs.length → beval (bs.take (k + 1)) = beval (bs.take k) * 256 + (bs[k]?.getD 0).toNat) := fun k hk => by
    rw [List.take_succ_eq_append_getElem hk, beval_snoc, List.getElem?_eq_getElem hk]
    rfl
  have HE : Hid (beval (bs.take bs.length) = beval bs) := by rw [Hid, List.take_length]
  clear h
  generalize bs.length = L at *
  go_enter Try.func42, Try.ntmps42
  go_wp2
  go_loop [8, 3] (fun i v => ∃ k : Nat, k ≤ L ∧ i = .int .i64 k ∧ v = .int .i64 (beval (bs.take k) : Nat)) (fun i _ => L - (intOf i).toNat)
  case atStart => exact ⟨0, by omega, rfl, rfl⟩
  case round =>
    obtain ⟨k, hk, rfl, rfl⟩ := hrel
    by_cases hlt : k < L
    · obtain ⟨g, o, rfl, hcell⟩ := HG.out k hlt
      have hb1 := beval_take_lt bs k (by omega)
      go_wp2
      go_round
      case rel =>
        refine ⟨k + 1, by omega, by go_num, ?_⟩
        rw [HT.out k hlt]
        rw [w64, or_i64 _ _ (by omega) (UInt8.toNat_lt _)]
      case measure => simp [intOf]; omega
    · have hk8 : k = L := by omega
      subst hk8
      go_wp2
      go_ret
      rw [HE.out]
      exact ⟨rfl, rfl⟩

/-! ### lay -/
def patch (X : List UInt8) (o : Nat) (D : List UInt8) : List UInt8 := X.take o ++ D ++ X.drop (o + D.length)
theorem length_patch {X : List UInt8} {o : Nat} {D : List UInt8} (h : o + D.length ≤ X.length) : (patch X o D).length = X.length := by
  simp only [patch, List.length_append, List.length_take, List.length_drop]; omega
theorem patch_nil (X : List UInt8) (o : Nat) : patch X o [] = X := by simp [patch]
theorem patch_set {X D : List UInt8} {o : Nat} (b : UInt8) (h : o + 1 + D.length ≤ X.length) : (patch X (o + 1) D).set o b = patch X o (b :: D) := by
  simp only [patch, List.append_assoc, List.length_cons]
  rw [show o + (D.length + 1) = o + 1 + D.length by omega]
  have h1 : X.take (o + 1) = X.take o ++ [X[o]'(by omega)] := List.take_succ_eq_append_getElem (by omega)
  rw [h1, List.append_assoc, List.set_append_right _ _ (by simp; omega)]
  simp [List.length_take, Nat.min_eq_left (show o ≤ X.length by omega)]
/-- A block of bytes. -/
def Blk (w : World) (g : Nat) (X : List UInt8) : Prop := w.heap[g]? = some (.cells (secCells X).toArray 5 (0, 0))
theorem blk_set {w : World} {g : Nat} {X : List UInt8} (hg : Blk w g X) (k : Nat) (b : UInt8) : Blk (w.setCell ⟨g, k, none⟩ (bcell b)) g (X.set k b) := by
  unfold Blk at *
  rw [heap_set_same _ hg]
  simp [secCells, List.map_set]
theorem Blk.cell {w : World} {g : Nat} {X : List UInt8} (hg : Blk w g X) (k : Nat) (hk : k < X.length) : w.cell? ⟨g, k, none⟩ = some (.int .u8 ((X[k]'hk).toNat : Int)) := by
  rw [cell_row hg]
  simpa using secCells_get X k hk
theorem byte_cell (m : Nat) : Value.int .u8 ((m : Int) % 256) = bcell (UInt8.ofNat (m % 256)) := by
  unfold bcell
  rw [UInt8.toNat_ofNat', Nat.mod_mod_of_dvd _ (by decide)]
  congr 1
theorem be_succ_app (j m : Nat) (D : List UInt8) : be (j + 1) m ++ D = be j (m / 256) ++ (UInt8.ofNat (m % 256) :: D) := by rw [be, List.append_assoc]; rfl

set_option maxHeartbeats 400000 in
theorem lay_any {w : World} {g o k c v : Nat} {X : List UInt8} (hg : Blk w g X) (ho : o + k ≤ X.length) (hk : k ≤ c) (hc : c ≤ 140737488355328) (hv : v < 9223372036854775807) :
    Calls Try.prog 41 #[.slice (some ⟨g, o, none⟩) k c, .int .i64 (v : Int)] w fun e w' => e = .returned (.tuple #[]) ∧ Blk w' g (patch X o (be k v)) ∧ Off [g] w w' ∧ w'.heap.size = w.heap.size := by
  have HO : Hid (Off [g] w w) := Off.refl _ _
  have HG := hide hg
  go_enter Try.func41, Try.ntmps41
  go_wp2
  go_loopw [4, 1] (fun i n wr => ∃ j m : Nat, ∃ D : List UInt8, j ≤ k ∧ i = .int .i64 ((j : Int) - 1) ∧ n = .int .i64 (m : Int) ∧ m < 9223372036854775807 ∧ D.length = k - j ∧ be j m ++ D = be k v ∧ Blk wr g (patch X (o + j) D) ∧ Off [g] w wr ∧ wr.heap.size = w.heap.size) (fun i _ _ => ((intOf i) + 1).toNat)
  case atStart => exact ⟨k, v, [], Nat.le_refl _, by go_num, rfl, hv, by simp, by simp, by rw [patch_nil]; exact HG.out, HO.out, rfl⟩
  case round =>
    obtain ⟨j, m, D, hj, rfl, rfl, hm, hD, hbe, hB, hO, hS⟩ := hrel
    have HB := hide hB
    have HbO := hide hO
    cases j with
    | zero =>
      go_wp2
      go_end0
      have e0 : D = be k v := by simpa [be] using hbe
      subst e0
      exact ⟨rfl, by simpa using HB.out, HbO.out, hS⟩
    | succ j =>
      have hlen : (patch X (o + (j + 1)) D).length = X.length := length_patch (by omega)
      have hcell := hB.cell (o + j) (by omega)
      have hfz : wr.frozen? ⟨g, o + j, none⟩ = false := frozen_row hB
      have hi : ((j + 1 : Nat) : Int) - 1 = (j : Int) := by omega
      rw [hi]
      have Hbe := hide hbe
      clear hbe hB hO hi
      go_wp2
      go_roundw
      case rel =>
        refine ⟨j, m / 256, UInt8.ofNat (m % 256) :: D, by omega, by go_num, ?_, by omega, by simp; omega, by rw [← Hbe.out, be_succ_app], ?_, HbO.out.setCell _ _ (.inl (by simp)), by simpa [World.setCell] using hS⟩
        · rw [Int.natCast_ediv]; rfl
        · rw [byte_cell, ← patch_set _ (by omega)]
          exact blk_set HB.out _ _
      case measure => simp [intOf]
end Go.Proofs.Ytdddeneppciiiaa
