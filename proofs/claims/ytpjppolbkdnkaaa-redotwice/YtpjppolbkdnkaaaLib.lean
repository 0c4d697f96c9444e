/- slices.Collect at int: where the library's laws find it in this program. -/
import Derived.Shelf.SlIterI.Collect
import Derived.Test.YtpjppolbkdnkaaaProg
namespace Go.Proofs
open Go.Shelf
def Try.collI_ren : Go.Shelf.Ren := ⟨fun | 8 => 56 | 11 => 77 | n => n, fun | 24 => 49 | 26 => 3 | 28 => 116 | 33 => 100 | n => n, fun n => n⟩
theorem Try.collI : SlLaysZI.n8 Try.prog Try.collI_ren := {
  mixed := by kernel_rfl
  f8 := ⟨Try.f56.name, by decide, Try.func56.trans (congrArg some (by kernel_rfl))⟩
  f11 := ⟨Try.f77.name, by decide, Try.func77.trans (congrArg some (by kernel_rfl))⟩
  t0 := by kernel_rfl
  a0 := fun w => by kernel_rfl
  z0 := fun w => by kernel_rfl
  v0 := fun w => by kernel_rfl
  t24 := by kernel_rfl
  a24 := fun w => by kernel_rfl
  z24 := fun w => by kernel_rfl
  v24 := fun w => by kernel_rfl
  t26 := by kernel_rfl
  a26 := fun w => by kernel_rfl
  z26 := fun w => by kernel_rfl
  v26 := fun w => by kernel_rfl
  t28 := by kernel_rfl
  a28 := fun w => by kernel_rfl
  z28 := fun w => by kernel_rfl
  v28 := fun w => by kernel_rfl
  i26 := by kernel_rfl }
end Go.Proofs
