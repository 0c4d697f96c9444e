/- What a row's laid variables give: ErrRange and the greatest length of a search. -/
import Derived.Test.YtnbegpfbolkdiaaDoorWrd
import Derived.Test.YtnbegpfbolkdiaaDoorRows
import Derived.Stop.LaidErr
import Derived.Shelf.Vars
namespace Go.Proofs.YtnbegpfbolkdiaaDoor
open Go.ChangeShapes Go.RowKit
set_option linter.unusedVariables false
set_option linter.unusedSimpArgs false

theorem Tryd.gER : Tryd.prog.globalNamed "strconv.ErrRange" = some 2 := by kernel_rfl
theorem Tryd.gERType : (Tryd.prog.globals[2]?).map (·.type) = some 53 := by kernel_rfl
theorem Tryd.cells107 : Tryd.prog.cellsOf 107 = 1 := by kernel_rfl
theorem Tryd.cells9 : Tryd.prog.cellsOf 9 = 1 := by kernel_rfl
theorem Tryd.star : "*" ++ "errors.errorString" = "*errors.errorString" := by decide
theorem Tryd.row105 (u : TypeId) (h : Tryd.prog.typeName? 3 u = some "*errors.errorString") : u = 105 :=
  typeName_ptr_named (nm := "errors.errorString") (by rw [Tryd.star]; kernel_rfl) (by kernel_rfl) (by decide) u (by rw [Tryd.star]; exact h)
/-- The laid variables of the four rows. -/
def laidAll : List (String × DataW Unit) := Rows.lexLengthsRow.laid
theorem ready_of {W : World} (hL : laidMetH Tryd.prog laidAll W) (hsh : W.ShapedOpen Tryd.prog) : Ready W := by
  obtain ⟨m, hm⟩ := Tryd.laysM143.s1_3 W hsh
  have e : (laidAll.filter fun x => x.2.handleName?.isSome) = [] := by kernel_rfl
  unfold laidMetH at hL
  rw [e] at hL
  have h4 := hL.tail.tail.tail.tail
  obtain ⟨a1, s1, hv1, -, -, -⟩ := laid_sentinel h4 Tryd.gER Tryd.gERType Tryd.underlying53 Tryd.row105 Tryd.underlying105 Tryd.underlying107 rfl rfl Tryd.underlying9 Tryd.cells107 Tryd.cells9
  have h0 := World.var?_cell Tryd.gER hv1 0
  have hlt := World.block_lt_of_cell? W _ hm
  exact ⟨⟨_, by simpa using h0, .inr ⟨_, _, rfl⟩⟩, ⟨m, hm⟩, by have : 3 < W.heap.size := hlt; omega⟩
end Go.Proofs.YtnbegpfbolkdiaaDoor
