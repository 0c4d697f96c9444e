/- Operations on structs of two ints, and on arrays of ints. -/
import Derived.Test.YtifoafiidplpiaaCAt
namespace Go.Proofs.Ytifoafiidplpiaa
open Go.RowKit
set_option linter.unusedVariables false
set_option linter.unusedSimpArgs false

theorem Try.zero34 (w : World) : (zeroValue 34).run Try.prog w = .ok (.agg #[.int .i64 0, .int .i64 0, .int .i64 0, .int .i64 0, .int .i64 0, .int .i64 0]) w := by kernel_rfl
theorem Try.size45 : (Try.prog.info? 45).map (·.size) = some 2 := by kernel_rfl
theorem run_load45 (w : World) (g o : Nat) (a b : Int) (h0 : w.cell? ⟨g, o, none⟩ = some (.int .i64 a)) (h1 : w.cell? ⟨g, o + 1, none⟩ = some (.int .i64 b)) : (Instr.loadAt 45 (.pointer (some ⟨g, o, none⟩))).run Try.prog w = .ok (.agg #[.int .i64 a, .int .i64 b]) w := by
  have := run_loadAt_mid (P := Try.prog) w g o 45 [.int .i64 a, .int .i64 b] _ (fun j v hv => by
    match j with
    | 0 => simp at hv; subst hv; exact h0
    | 1 => simp at hv; subst hv; exact h1
    | j + 2 => simp at hv) Try.underlying45 rfl Try.size45
  simpa using this
theorem run_index42 (w : World) (g n cap i : Nat) (h : i < n) : (Instr.indexAt 42 (.slice (some ⟨g, 0, none⟩) n cap) (.int .i64 (i : Int))).run Try.prog w = .ok (.pointer (some ⟨g, i * 2, none⟩)) w := by
  have hu := Try.underlying42
  have hs := Try.sizeOf45
  simp [go_sem, hu, hs, h]
theorem run_index34 (w : World) (g i : Nat) (h : i < 6) : (Instr.indexAt 34 (.pointer (some ⟨g, 0, none⟩)) (.int .i64 (i : Int))).run Try.prog w = .ok (.pointer (some ⟨g, i, none⟩)) w := by
  have hu := Try.underlying34
  have hs := Try.sizeOf3
  simp [go_sem, hu, hs, h]
  intro h6
  omega
theorem op_build45 (ρ : Operand → Value) (o : Oper) (x y : Operand) (ho : o.op = .build 45 #[(0, x), (1, y)]) (a b : Int) (hx : ρ x = .int .i64 a) (hy : ρ y = .int .i64 b) {w : World} : (execOp ρ o).run Try.prog w = .ok (.value (.agg #[.int .i64 a, .int .i64 b])) w := by
  unfold execOp
  simp only [ho]
  simp [hx, hy]
  kernel_rfl
theorem op_neq45 (ρ : Operand → Value) (o : Oper) (x y : Operand) (tt : TypeId) (ho : o.op = .binOp .neq 45 x y tt) (a b : Int) (hx : ρ x = .agg #[.int .i64 a, .int .i64 b]) (hy : ρ y = .agg #[.int .i64 a, .int .i64 b]) {w : World} : (execOp ρ o).run Try.prog w = .ok (.value (.bool false)) w := by
  have u3 := Try.underlying3
  have a3 := Try.isAgg3
  have z3 := Try.sizeOf3
  have hS : Try.prog.underlying 45 = some (.struct (Try.prog.fieldsOf 45)) := by kernel_rfl
  have hp : Try.prog.stoodInHeld 45 = false := by kernel_rfl
  unfold execOp
  simp only [ho, hx, hy]
  have he : (binOp .neq 45 (.agg #[.int .i64 a, .int .i64 b]) (.agg #[.int .i64 a, .int .i64 b])).run Try.prog w = .ok (.bool false) w := by
    rw [run_neq_struct, show (10000 : Nat) = 9999 + 1 from rfl, run_equalIn_agg w 9999 45 _ _ hS hp]
    simp only [Program.fieldsOf, Try.underlying45]
    go_simp
  have hg : ∀ (W : World), (eqGuard .neq 45 x y (.agg #[.int .i64 a, .int .i64 b]) (.agg #[.int .i64 a, .int .i64 b])).run Try.prog W = .ok () W := fun W => by kernel_rfl
  simp [he, hg]
end Go.Proofs.Ytifoafiidplpiaa
