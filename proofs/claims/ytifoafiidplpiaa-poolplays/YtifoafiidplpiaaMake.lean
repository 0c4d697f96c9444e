/- What Sector and New make. -/
import Derived.Test.YtifoafiidplpiaaPlain
import Derived.WalkSpells
import Derived.WalkLawsBesides
import Derived.Deep.MidRow
import Derived.Deep.OwnRows
namespace Go.Proofs.Ytifoafiidplpiaa
open Go.RowKit
set_option linter.unusedVariables false
set_option linter.unusedSimpArgs false

theorem Try.info5 : (Try.prog.info? 5).map (fun i => (i.zero, i.size, i.bytes)) = some (some (.int .u8 0), 1, 1) := by kernel_rfl
theorem made128 : madeCells #[.int .u8 0] 128 = (zeros.map bcell).toArray := by kernel_rfl
theorem make128 (w : World) : (Instr.makeSlice 37 (.int .i64 128) (.int .i64 128)).run Try.prog w = .ok (.slice (some ⟨w.heap.size, 0, none⟩) 128 128) (w.alloc (.cells (secPart 0 0 0) 5)) := by
  have h := run_make_row' (P := Try.prog) 37 5 (.int .u8 0) 1 Try.underlying37 Try.info5 rfl .i64 .i64 128 (by omega) (by omega) w
  rw [made128, ← secPart_zero 0 0] at h
  exact h

def Try.zeroRow (n : Nat) : Array Value := (List.replicate (n * 128) (bcell 0)).toArray
theorem Try.info101 : (Try.prog.info? 101).map (fun i => (i.zero, i.size, i.bytes)) = some (some (.agg (zeros.map bcell).toArray), 128, 128) := by kernel_rfl
theorem made_same (c : Value) (m n : Nat) (hm : 0 < m) : madeCells (List.replicate m c).toArray n = (List.replicate n c).toArray := by
  apply Array.ext
  · simp [madeCells]
  · intro i h1 h2
    have hlt : i % m < m := Nat.mod_lt _ hm
    simp only [madeCells, Array.getElem_map, Array.getElem_range, List.size_toArray, List.length_replicate, List.getElem_toArray, List.getElem_replicate]
    rw [getElem!_pos _ _ (by simpa using hlt)]
    simp
theorem made_zeros (n : Nat) : madeCells (zeros.map bcell).toArray n = (List.replicate n (bcell 0)).toArray := by
  unfold zeros
  rw [List.map_replicate]
  exact made_same _ _ _ (by omega)
theorem makeRow (n : Int) (w : World) (h1 : 1 ≤ n) (h2 : n ≤ 8192) : (Instr.makeSlice 68 (.int .i64 n) (.int .i64 n)).run Try.prog w = .ok (.slice (some ⟨w.heap.size, 0, none⟩) n.toNat n.toNat) (w.alloc (.cells (Try.zeroRow n.toNat) 101)) := by
  obtain ⟨i, hi, hz⟩ := Option.map_eq_some_iff.1 Try.info101
  simp only [Prod.mk.injEq] at hz
  obtain ⟨hz, hs, hb⟩ := hz
  have h := run_make (P := Try.prog) w 68 101 i _ Try.underlying68 hi hz .i64 .i64 n n (by omega) (by omega) (by rw [hb]; omega) (by omega)
  rw [h, hs]
  unfold Try.zeroRow
  rw [← made_zeros]
  rfl

set_option maxHeartbeats 400000 in
set_option maxRecDepth 100000 in
theorem new_any (n : Int) (w : World) (h1 : 1 ≤ n) (h2 : n ≤ 8192) :
    Calls Try.prog 6 #[.int .i64 n] w fun e w' => e = .returned (.tuple #[.pointer (some ⟨w.heap.size + 1, 0, none⟩), .int .i64 0]) ∧
      w' = (w.alloc (.cells (Try.zeroRow n.toNat) 101)).alloc (.cells #[.slice (some ⟨w.heap.size, 0, none⟩) n.toNat n.toNat, .slice none 0 0, .int .i64 (-1), .bool false, .int .i64 0] 71) := by
  have hmk := fun w => makeRow n w h1 h2
  go_enter Try.func6, Try.ntmps6
  go_wp2
  go_ret2
  exact ⟨rfl, rfl⟩

set_option maxHeartbeats 400000 in
theorem new_not (n : Int) (w : World) (h : n < 1 ∨ 8192 < n) :
    Calls Try.prog 6 #[.int .i64 n] w fun e w' => e = .returned (.tuple #[.pointer none, .int .i64 1]) ∧ w' = w := by
  by_cases h1 : n < 1
  · clear h
    go_enter Try.func6, Try.ntmps6
    go_wp2
    go_ret2
    exact ⟨rfl, rfl⟩
  · have h2 : 8192 < n := by omega
    clear h
    go_enter Try.func6, Try.ntmps6
    go_wp2
    go_ret2
    exact ⟨rfl, rfl⟩

end Go.Proofs.Ytifoafiidplpiaa
