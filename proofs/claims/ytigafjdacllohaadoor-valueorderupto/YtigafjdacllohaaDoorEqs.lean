/- Two values are the same, or are not; so two numbers of two words. -/
import Derived.Test.YtigafjdacllohaaDoorVal
import Derived.Laws.StructEq
namespace Go.Proofs.YtigafjdacllohaaDoor
open Go.RowKit
set_option linter.unusedVariables false
set_option linter.unusedSimpArgs false
set_option maxRecDepth 100000

theorem Tryd.under23 : Tryd.prog.underlying 23 = some (.struct (Tryd.prog.fieldsOf 23)) := by kernel_rfl
theorem vl_ext {A B : Vl} (h0 : A.ty = B.ty) (h1 : A.n = B.n) (h2 : A.t = B.t) (h3 : A.b = B.b) : A = B := by
  cases A; cases B; simp_all
theorem eq23 (w : World) (A B : Vl) (b : Bool) (hb : b = true ↔ A = B) : (Op.equalIn 10000 23 (.agg #[.int .i64 A.ty, .int .i64 A.n, .string (strOf A.t), .bool A.b]) (.agg #[.int .i64 B.ty, .int .i64 B.n, .string (strOf B.t), .bool B.b])).run Tryd.prog w = .ok b w := by
  have u3 := Tryd.underlying3
  have u9 := Tryd.underlying9
  have u4 := Tryd.underlying4
  have a3 := Tryd.isAgg3
  have a9 := Tryd.isAgg9
  have a4 := Tryd.isAgg4
  have z3 : ∀ w, (sizeOf 3).run Tryd.prog w = .ok 1 w := fun w => by kernel_rfl
  have z9 : ∀ w, (sizeOf 9).run Tryd.prog w = .ok 1 w := fun w => by kernel_rfl
  have z4 : ∀ w, (sizeOf 4).run Tryd.prog w = .ok 1 w := fun w => by kernel_rfl
  have hp : Tryd.prog.stoodInHeld 23 = false := by kernel_rfl
  have e1 := strOf_toList A.t
  have e2 := strOf_toList B.t
  rw [show (10000 : Nat) = 9999 + 1 from rfl, run_equalIn_agg w 9999 23 _ _ Tryd.under23 hp]
  simp only [Program.fieldsOf, Tryd.underlying23]
  go_simp
  by_cases h0 : A.ty = B.ty
  · by_cases h1 : A.n = B.n
    · by_cases h2 : A.t = B.t
      · by_cases h3 : A.b = B.b
        · have : b = true := hb.2 (vl_ext h0 h1 h2 h3)
          simp [h0, h1, h2, h3, e1, e2, this]
        · have : b = false := by
            cases b
            · rfl
            · exact absurd (congrArg Vl.b (hb.1 rfl)) h3
          simp [h0, h1, h2, h3, e1, e2, this]
      · have : b = false := by
          cases b
          · rfl
          · exact absurd (congrArg Vl.t (hb.1 rfl)) h2
        simp [h0, h1, h2, e1, e2, this]
    · have : b = false := by
        cases b
        · rfl
        · exact absurd (congrArg Vl.n (hb.1 rfl)) h1
      simp [h0, h1, e1, e2, this]
  · have : b = false := by
      cases b
      · rfl
      · exact absurd (congrArg Vl.ty (hb.1 rfl)) h0
    simp [h0, e1, e2, this]
theorem run_eql23 (w : World) (A B : Vl) (b : Bool) (hb : b = true ↔ A = B) : (binOp .eql 23 (.agg #[.int .i64 A.ty, .int .i64 A.n, .string (strOf A.t), .bool A.b]) (.agg #[.int .i64 B.ty, .int .i64 B.n, .string (strOf B.t), .bool B.b])).run Tryd.prog w = .ok (.bool b) w := by
  rw [run_eql_struct, eq23 w A B b hb]
  rfl
theorem run_neq23 (w : World) (A B : Vl) (b : Bool) (hb : b = true ↔ A = B) : (binOp .neq 23 (.agg #[.int .i64 A.ty, .int .i64 A.n, .string (strOf A.t), .bool A.b]) (.agg #[.int .i64 B.ty, .int .i64 B.n, .string (strOf B.t), .bool B.b])).run Tryd.prog w = .ok (.bool (!b)) w := by
  rw [run_neq_struct, eq23 w A B b hb]
  rfl

theorem Tryd.under73 : Tryd.prog.underlying 73 = some (.struct (Tryd.prog.fieldsOf 73)) := by kernel_rfl
theorem eq73 (w : World) (a b c d : Int) (r : Bool) (hr : r = true ↔ a = c ∧ b = d) : (Op.equalIn 10000 73 (.agg #[.int .u64 a, .int .u64 b]) (.agg #[.int .u64 c, .int .u64 d])).run Tryd.prog w = .ok r w := by
  have u3 := Tryd.underlying71
  have a3 : ∀ w, (isAgg 71).run Tryd.prog w = .ok false w := fun w => by kernel_rfl
  have z3 : ∀ w, (sizeOf 71).run Tryd.prog w = .ok 1 w := fun w => by kernel_rfl
  have hp : Tryd.prog.stoodInHeld 73 = false := by kernel_rfl
  rw [show (10000 : Nat) = 9999 + 1 from rfl, run_equalIn_agg w 9999 73 _ _ Tryd.under73 hp]
  simp only [Program.fieldsOf, Tryd.underlying73]
  go_simp
  by_cases h0 : a = c
  · by_cases h1 : b = d
    · have : r = true := hr.2 ⟨h0, h1⟩
      simp [h0, h1, this]
    · have : r = false := by
        cases r
        · rfl
        · exact absurd (hr.1 rfl).2 h1
      simp [h0, h1, this]
  · have : r = false := by
      cases r
      · rfl
      · exact absurd (hr.1 rfl).1 h0
    simp [h0, this]
theorem run_neq73 (w : World) (a b c d : Int) (r : Bool) (hr : r = true ↔ a = c ∧ b = d) : (binOp .neq 73 (.agg #[.int .u64 a, .int .u64 b]) (.agg #[.int .u64 c, .int .u64 d])).run Tryd.prog w = .ok (.bool (!r)) w := by
  rw [run_neq_struct, eq73 w a b c d r hr]
  rfl
end Go.Proofs.YtigafjdacllohaaDoor
