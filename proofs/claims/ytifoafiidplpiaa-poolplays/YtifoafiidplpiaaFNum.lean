/- Numbers out of bytes and into bytes: 'number', 'headOf'. -/
import Derived.Test.YtifoafiidplpiaaDev
import Derived.Deep.QuietTactic
import Derived.BigQuiet
import Derived.WalkMore
import Derived.ScopeJumps
namespace Go.Proofs.Ytifoafiidplpiaa
open Go.RowKit
set_option linter.unusedVariables false
set_option linter.unusedSimpArgs false

/-- The number that bytes are, the highest first. -/
def beval (bs : List UInt8) : Nat := bs.foldl (fun v c => v * 256 + c.toNat) 0
theorem beval_snoc (bs : List UInt8) (c : UInt8) : beval (bs ++ [c]) = beval bs * 256 + c.toNat := by simp [beval]
theorem befold_lt : ∀ (bs : List UInt8) (v : Nat), bs.foldl (fun v c => v * 256 + c.toNat) v < (v + 1) * 256 ^ bs.length
  | [], v => by simp
  | c :: r, v => by
    rw [List.foldl_cons, List.length_cons, Nat.pow_succ]
    refine Nat.lt_of_lt_of_le (befold_lt r _) ?_
    have := c.toNat_lt
    calc (v * 256 + c.toNat + 1) * 256 ^ r.length ≤ ((v + 1) * 256) * 256 ^ r.length := Nat.mul_le_mul_right _ (by omega)
      _ = (v + 1) * (256 ^ r.length * 256) := by rw [Nat.mul_assoc, Nat.mul_comm 256]
theorem beval_lt (bs : List UInt8) : beval bs < 256 ^ bs.length := by
  have := befold_lt bs 0
  simpa [beval] using this
theorem secCells_get (bs : List UInt8) (k : Nat) (h : k < bs.length) : (secCells bs).toArray[k]? = some (.int .u8 (bs[k].toNat : Int)) := by
  simp [secCells, bcell, h]

theorem or_low (v c : Nat) (hc : c < 256) : (v * 256) ||| c = v * 256 + c := by
  have h := Nat.shiftLeft_add_eq_or_of_lt (i := 8) (by simpa using hc) v
  rw [Nat.shiftLeft_eq] at h
  exact h.symm
theorem wrapU (x : Int) : IntKind.u64.wrap x = x % 18446744073709551616 := rfl
theorem or_u64 (v c : Nat) (hv : v < 72057594037927936) (hc : c < 256) : bits .or .u64 (IntKind.u64.wrap ((v : Int) * 256)) (IntKind.u64.wrap (c : Int)) = ((v * 256 + c : Nat) : Int) := by
  have h1 : IntKind.u64.wrap ((v : Int) * 256) = ((v * 256 : Nat) : Int) := by rw [wrapU]; omega
  have h2 : IntKind.u64.wrap (c : Int) = (c : Int) := by rw [wrapU]; omega
  rw [h1, h2]
  have : bits .or .u64 ((v * 256 : Nat) : Int) (c : Int) = IntKind.u64.wrap (((BitVec.ofInt 64 ((v * 256 : Nat) : Int)).toNat ||| (BitVec.ofInt 64 (c : Int)).toNat : Nat) : Int) := by
    simp only [bits, BitVec.toNat_or]
    rfl
  rw [this]
  have e1 : (BitVec.ofInt 64 ((v * 256 : Nat) : Int)).toNat = v * 256 := by simp; omega
  have e2 : (BitVec.ofInt 64 (c : Int)).toNat = c := by simp; omega
  rw [e1, e2, or_low v c hc, wrapU]
  omega
theorem or_i64 (v c : Nat) (hv : v < 256) (hc : c < 256) : bits .or .i64 ((v : Int) * 256) (c : Int) = ((v * 256 + c : Nat) : Int) := by
  have h1 : (v : Int) * 256 = ((v * 256 : Nat) : Int) := by omega
  rw [h1]
  have : bits .or .i64 ((v * 256 : Nat) : Int) (c : Int) = IntKind.i64.wrap (((BitVec.ofInt 64 ((v * 256 : Nat) : Int)).toNat ||| (BitVec.ofInt 64 (c : Int)).toNat : Nat) : Int) := by
    simp only [bits, BitVec.toNat_or]
    rfl
  rw [this]
  have e1 : (BitVec.ofInt 64 ((v * 256 : Nat) : Int)).toNat = v * 256 := by simp; omega
  have e2 : (BitVec.ofInt 64 (c : Int)).toNat = c := by simp; omega
  rw [e1, e2, or_low v c hc, IntKind.wrap_i64]
  omega

set_option maxHeartbeats 400000 in
theorem number_any (g c : Nat) (bs : List UInt8) (t : TypeId) (fr : Nat × Nat) (w : World) (hq : w.heap[g]? = some (.cells (secCells bs).toArray t fr)) (hl : bs.length = 128) (hc : 128 ≤ c) :
    Calls Try.prog 46 #[.slice (some ⟨g, 0, none⟩) 128 c] w fun e w' => e = .returned (.int .u64 (beval (bs.take 8) : Nat)) ∧ w' = w := by
  go_enter Try.func46, Try.ntmps46
  go_wp2
  go_loop [9, 3] (fun i v => ∃ k : Nat, k ≤ 8 ∧ i = .int .i64 k ∧ v = .int .u64 (beval (bs.take k) : Nat)) (fun i _ => 8 - (intOf i).toNat)
  case atStart => exact ⟨0, by omega, rfl, rfl⟩
  case round =>
    obtain ⟨k, hk, rfl, rfl⟩ := hrel
    by_cases hlt : k < 8
    · have hcell : w.cell? ⟨g, k, none⟩ = some (.int .u8 ((bs[k]'(by omega)).toNat : Int)) := by rw [cell_of_row _ _ _ _ _ _ hq]; exact secCells_get bs k (by omega)
      go_wp2
      go_round
      case rel =>
        refine ⟨k + 1, by omega, rfl, ?_⟩
        have hv : beval (bs.take k) < 72057594037927936 := by
          have h1 := beval_lt (bs.take k)
          rw [List.length_take, Nat.min_eq_left (by omega)] at h1
          exact Nat.lt_of_lt_of_le h1 (Nat.le_trans (Nat.pow_le_pow_right (by omega) (by omega : k ≤ 7)) (by decide))
        rw [or_u64 _ _ hv (bs[k]'(by omega)).toNat_lt, List.take_succ_eq_append_getElem (by omega), beval_snoc]
      case measure => simp [intOf]; omega
    · go_wp2
      go_ret
      have hk8 : k = 8 := by omega
      subst hk8
      exact ⟨rfl, rfl⟩
/-- Eight bytes of a number, the highest first. -/
def be8 (v : Nat) : List UInt8 := (List.range 8).map fun i => UInt8.ofNat (v / 256 ^ (7 - i) % 256)
theorem length_be8 (v : Nat) : (be8 v).length = 8 := by simp [be8]

theorem sec_setCell {w : World} {g : Nat} {X : List UInt8} (hg : w.heap[g]? = some (.cells (secCells X).toArray 5 (0, 0))) (k : Nat) (b : UInt8) :
    (w.setCell ⟨g, k, none⟩ (bcell b)).heap[g]? = some (.cells (secCells (X.set k b)).toArray 5 (0, 0)) := by
  rw [heap_setCell_same w g k _ _ _ hg]
  simp [secCells, List.map_set]
theorem set_mid {α : Type} (A B : List α) (k : Nat) (hA : k < A.length) (hB : k < B.length) : (A.take k ++ B.drop k).set k A[k] = A.take (k + 1) ++ B.drop (k + 1) := by
  rw [List.set_append_right _ _ (by simp; omega), List.length_take, Nat.min_eq_left (by omega), Nat.sub_self, List.take_succ_eq_append_getElem hA, List.append_assoc]
  congr 1
  rw [List.drop_eq_getElem_cons hB, List.set_cons_zero]
  rfl
theorem be8_get (v k : Nat) (h : k < 8) : (be8 v)[k]'(by rw [length_be8]; exact h) = UInt8.ofNat (v / 256 ^ (7 - k) % 256) := by simp [be8]
theorem bcell_ofNat (x : Nat) (h : x < 256) : bcell (UInt8.ofNat x) = .int .u8 (x : Int) := by
  unfold bcell
  rw [UInt8.toNat_ofNat', Nat.mod_eq_of_lt h]
theorem be8_cell (s k : Nat) (h : k < 8) : Value.int .u8 ((s : Int) / 2 ^ (8 * (7 - k)) % 256) = bcell ((be8 s)[k]'(by rw [length_be8]; exact h)) := by
  rw [be8_get _ _ h, bcell_ofNat _ (Nat.mod_lt _ (by omega))]
  congr 1
  have e : (2 : Int) ^ (8 * (7 - k)) = ((256 ^ (7 - k) : Nat) : Int) := by
    rw [Int.pow_mul]
    simp
  rw [e, ← Int.natCast_ediv]
  omega

def zerosN (n : Nat) : List UInt8 := List.replicate n 0
theorem length_zerosN (n : Nat) : (zerosN n).length = n := by simp [zerosN]
theorem makeN (n : Nat) (hn : n ≤ 2000000) (w : World) : (Instr.makeSlice 37 (.int .i64 (n : Int)) (.int .i64 (n : Int))).run Try.prog w = .ok (.slice (some ⟨w.heap.size, 0, none⟩) n n) (w.alloc (.cells (secCells (zerosN n)).toArray 5)) := by
  have h := run_make_row' (P := Try.prog) 37 5 (.int .u8 0) 1 Try.underlying37 Try.info5 rfl .i64 .i64 n (by omega) (by omega) w
  have e : madeCells #[.int .u8 0] n = (secCells (zerosN n)).toArray := by
    have := made_same (bcell 0) 1 n (by omega)
    simpa [secCells, zerosN, bcell] using this
  rw [e] at h
  exact h

def headOf (v : Nat) : List UInt8 := be8 v ++ zerosN 120
theorem length_headOf (v : Nat) : (headOf v).length = 128 := by simp [headOf, length_be8, zerosN]

set_option maxHeartbeats 400000 in
set_option maxRecDepth 100000 in
theorem headOf_any (v : Nat) (w : World) (hv : v < 4611686018427387904) :
    Calls Try.prog 56 #[.int .u64 (v : Int)] w fun e w' => e = .returned (.slice (some ⟨w.heap.size, 0, none⟩) 128 128) ∧ w'.heap[w.heap.size]? = some (.cells (secCells (headOf v)).toArray 5 (0, 0)) ∧ Below w.heap.size w w' := by
  have hmk := makeN 128 (by omega)
  have h0 : (w.alloc (.cells (secCells (zerosN 128)).toArray 5)).heap[w.heap.size]? = some (.cells (secCells (zerosN 128)).toArray 5 (0, 0)) := heap_alloc_new w _
  have hb0 : Below w.heap.size w (w.alloc (.cells (secCells (zerosN 128)).toArray 5)) := (Below.refl _ _).alloc (Nat.le_refl _) _
  obtain ⟨w0, hw0⟩ : ∃ w0, w.alloc (.cells (secCells (zerosN 128)).toArray 5) = w0 := ⟨_, rfl⟩
  have HW0 := hide hw0
  rw [hw0] at h0 hb0
  have hmk2 : (Instr.makeSlice 37 (.int .i64 128) (.int .i64 128)).run Try.prog w = .ok (.slice (some ⟨w.heap.size, 0, none⟩) 128 128) w0 := by rw [← hw0]; exact hmk w
  clear hmk hw0
  generalize w.heap.size = g at *
  go_enter Try.func56, Try.ntmps56
  go_wp2
  go_loopw [6] (fun i wr => ∃ k : Nat, k ≤ 8 ∧ i = .int .i64 k ∧ wr.heap[g]? = some (.cells (secCells ((be8 v).take k ++ (zerosN 128).drop k)).toArray 5 (0, 0)) ∧ Below g w wr) (fun i _ => 8 - (intOf i).toNat)
  case atStart => exact ⟨0, by omega, rfl, by simpa using h0, hb0⟩
  case round =>
    obtain ⟨k, hk, rfl, hg, ho⟩ := hrel
    have hlen : ((be8 v).take k ++ (zerosN 128).drop k).length = 128 := by simp [length_be8, zerosN]; omega
    by_cases hlt : k < 8
    · have hcell : wr.cell? ⟨g, k, none⟩ = some (.int .u8 (((be8 v).take k ++ (zerosN 128).drop k)[k]'(by omega)).toNat) := by rw [cell_of_row _ _ _ _ _ _ hg]; exact secCells_get _ k (by omega)
      have hfz := frozen_of_row wr g k _ _ hg
      go_wp2
      go_roundw
      case rel =>
        refine ⟨k + 1, by omega, rfl, ?_, ho.setCell (Nat.le_refl _) _⟩
        rw [be8_cell v k hlt, sec_setCell hg, set_mid _ _ _ (by rw [length_be8]; exact hlt) (by simp [zerosN]; omega)]
      case measure => simp [intOf]; omega
    · have hk8 : k = 8 := by omega
      subst hk8
      go_wp2
      go_ret
      refine ⟨rfl, ?_, ho⟩
      rw [hg]
      congr 4
end Go.Proofs.Ytifoafiidplpiaa
