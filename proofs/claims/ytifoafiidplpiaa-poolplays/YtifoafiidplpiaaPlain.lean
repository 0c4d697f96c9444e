/- Plain facts on bytes, sectors and lists of sectors; no program in sight but its values. -/
import Derived.Test.YtifoafiidplpiaaRows
import Derived.WalkKit
namespace Go.Proofs.Ytifoafiidplpiaa
open Go.RowKit
set_option linter.unusedVariables false
set_option linter.unusedSimpArgs false

theorem hide {p : Prop} (h : p) : Hid p := h
/-- A byte as a cell. -/
def bcell (b : UInt8) : Value := .int .u8 (b.toNat : Int)
/-- The byte of a number. -/
def byteOf (x : Int) : UInt8 := UInt8.ofNat (x % 256).toNat
theorem bcell_byteOf (x : Int) : bcell (byteOf x) = .int .u8 (x % 256) := by
  have h0 : 0 ≤ x % 256 := Int.emod_nonneg _ (by omega)
  have h1 : x % 256 < 256 := Int.emod_lt_of_pos _ (by omega)
  have : ((byteOf x).toNat : Int) = x % 256 := by
    unfold byteOf
    rw [UInt8.toNat_ofNat', Nat.mod_eq_of_lt (by omega)]
    omega
  unfold bcell
  rw [this]
/-- What Sector(a, b) holds. -/
def sec (a b : Int) : List UInt8 := (List.range 128).map fun i : Nat => byteOf (a * (i : Int) + b)
theorem length_sec (a b : Int) : (sec a b).length = 128 := by simp [sec]
def zeros : List UInt8 := List.replicate 128 0
theorem length_zeros : zeros.length = 128 := by simp [zeros]
/-- The first k bytes are written, the others are noughts. -/
def secPart (a b : Int) (k : Nat) : Array Value := (((List.range 128).map fun i : Nat => if i < k then bcell (byteOf (a * (i : Int) + b)) else bcell 0)).toArray
theorem size_secPart (a b : Int) (k : Nat) : (secPart a b k).size = 128 := by simp [secPart]
theorem secPart_zero (a b : Int) : secPart a b 0 = (zeros.map bcell).toArray := by
  unfold secPart zeros
  rw [List.map_replicate]
  refine congrArg List.toArray (List.eq_replicate_iff.2 ⟨by simp, fun x hx => ?_⟩)
  obtain ⟨i, _, rfl⟩ := List.mem_map.1 hx
  rfl
theorem secPart_all (a b : Int) : secPart a b 128 = ((sec a b).map bcell).toArray := by
  simp only [secPart, sec, List.map_map]
  refine congrArg List.toArray (List.map_congr_left fun i hi => ?_)
  simp at hi
  simp [hi]
theorem secPart_succ (a b : Int) (k : Nat) (h : k < 128) : (secPart a b k).setIfInBounds k (bcell (byteOf (a * k + b))) = secPart a b (k + 1) := by
  apply Array.ext
  · simp [secPart]
  · intro i h1 h2
    simp [secPart] at h1 h2
    simp only [secPart, List.setIfInBounds_toArray, List.getElem_toArray, List.getElem_set]
    by_cases e : k = i
    · subst e; simp
    · rw [if_neg e]
      simp
      by_cases g : i < k
      · simp [g, show i < k + 1 from by omega]
      · simp [g, show ¬ i < k + 1 from by omega]
theorem secPart_at (a b : Int) (k : Nat) (h : k < 128) : (secPart a b k)[k]? = some (bcell 0) := by
  rw [Array.getElem?_eq_getElem (by rw [size_secPart]; exact h)]
  simp [secPart]
theorem sec_put (a b : Int) (k : Nat) (h : k < 128) : (secPart a b k).setIfInBounds k (.int .u8 (wrap64 (wrap64 (a * (k : Int)) + b) % 256)) = secPart a b (k + 1) := by
  rw [← secPart_succ a b k h, bcell_byteOf]
  congr 2
  simp only [wrap64]
  omega

end Go.Proofs.Ytifoafiidplpiaa
