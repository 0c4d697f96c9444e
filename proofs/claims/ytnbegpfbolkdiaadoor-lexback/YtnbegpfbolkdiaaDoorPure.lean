/- Words of a statement as lists alone. -/
import Derived.Test.YtnbegpfbolkdiaaDoorProg
import Derived.WalkKit
import Derived.Lib.Hide
import Derived.Lib.Case
import Derived.Lib.AtoiAll
import Derived.Lib.AtoiAllCases
import Derived.Lib.Replace
import Derived.Lib.ReplaceLaws
namespace Go.Proofs.YtnbegpfbolkdiaaDoor
open Go.RowKit
set_option linter.unusedVariables false
set_option linter.unusedSimpArgs false

theorem hide {p : Prop} (h : p) : Hid p := h

/-! ### Kinds of bytes -/
def isL (c : UInt8) : Bool := (97 ≤ c.toNat && c.toNat ≤ 122) || (65 ≤ c.toNat && c.toNat ≤ 90) || c.toNat == 95
def isD (c : UInt8) : Bool := 48 ≤ c.toNat && c.toNat ≤ 57
def isM (c : UInt8) : Bool := c.toNat == 40 || c.toNat == 41 || c.toNat == 44 || c.toNat == 46 || c.toNat == 42 || c.toNat == 43 || c.toNat == 47 || c.toNat == 37 || c.toNat == 61 || c.toNat == 60 || c.toNat == 62 || c.toNat == 124 || c.toNat == 59
/-- 0 nothing, 1 the end, 2 blank, 3 line feed, 4 letter, 5 digit, 6 quote, 7 dash, 8 mark. -/
def kdB (c : UInt8) : Nat :=
  if c.toNat = 32 ∨ c.toNat = 9 ∨ c.toNat = 13 then 2 else if c.toNat = 10 then 3 else if c.toNat = 39 then 6 else if c.toNat = 45 then 7
  else if isM c = true then 8 else if isD c = true then 5 else if isL c = true then 4 else 0
def kdO : Option UInt8 → Nat
  | none => 1
  | some c => kdB c
def kdAt (l : List UInt8) (i : Nat) : Nat := kdO l[i]?
theorem kdB_ne1 (c : UInt8) : kdB c ≠ 1 := by unfold kdB; (repeat' split) <;> omega
theorem kdAt_over {l : List UInt8} {i : Nat} (h : l.length ≤ i) : kdAt l i = 1 := by simp [kdAt, List.getElem?_eq_none h, kdO]
theorem kdAt_in {l : List UInt8} {i : Nat} (h : i < l.length) : kdAt l i = kdB l[i] := by simp [kdAt, List.getElem?_eq_getElem h, kdO]
theorem kdAt_drop (l : List UInt8) (i j : Nat) : kdAt (l.drop i) j = kdAt l (i + j) := by simp [kdAt, List.getElem?_drop]
theorem kdAt_cons (c : UInt8) (r : List UInt8) : kdAt (c :: r) 0 = kdB c := rfl
theorem kdAt_nil (i : Nat) : kdAt [] i = 1 := rfl
theorem lt_of_kd {l : List UInt8} {i : Nat} (h : kdAt l i ≠ 1) : i < l.length := by
  rcases Nat.lt_or_ge i l.length with h1 | h1
  · exact h1
  · exact absurd (kdAt_over h1) h
theorem drop_of_lt {l : List UInt8} {i : Nat} (h : i < l.length) : l.drop i = l[i] :: l.drop (i + 1) := List.drop_eq_getElem_cons h

/-! ### White and remarks -/
/-- How many bytes say nothing (true: within a remark). -/
def skipS : Bool → List UInt8 → Nat
  | _, [] => 0
  | false, c :: r => if kdB c = 2 ∨ kdB c = 3 then skipS false r + 1 else if kdB c = 7 ∧ kdAt r 0 = 7 then skipS true r + 1 else 0
  | true, c :: r => if kdB c = 3 then skipS false r + 1 else skipS true r + 1
theorem skip_le : ∀ (l : List UInt8) (b : Bool), skipS b l ≤ l.length
  | [], b => by cases b <;> simp [skipS]
  | c :: r, false => by
    have h1 := skip_le r false
    have h2 := skip_le r true
    simp only [skipS, List.length_cons]
    (repeat' split) <;> omega
  | c :: r, true => by
    have h1 := skip_le r false
    have h2 := skip_le r true
    simp only [skipS, List.length_cons]
    (repeat' split) <;> omega
/-- From a place on: where the next token begins. -/
def skipTo (l : List UInt8) (b : Bool) (i : Nat) : Nat := i + skipS b (l.drop i)
theorem skip_white {l : List UInt8} {i : Nat} (h : kdAt l i = 2 ∨ kdAt l i = 3) : skipTo l false i = skipTo l false (i + 1) := by
  have hi : i < l.length := lt_of_kd (by omega)
  rw [kdAt_in hi] at h
  unfold skipTo
  rw [drop_of_lt hi]
  simp only [skipS]
  rw [if_pos h]
  omega
theorem skip_dash {l : List UInt8} {i : Nat} (h : kdAt l i = 7) (h' : kdAt l (i + 1) = 7) : skipTo l false i = skipTo l true i := by
  have hi : i < l.length := lt_of_kd (by omega)
  rw [kdAt_in hi] at h
  have e : kdAt (l.drop (i + 1)) 0 = 7 := by rw [kdAt_drop]; exact h'
  unfold skipTo
  rw [drop_of_lt hi]
  simp only [skipS]
  rw [if_neg (by omega), if_pos ⟨h, e⟩]
  rw [if_neg (by omega)]
theorem skip_stop {l : List UInt8} {i : Nat} (h2 : kdAt l i ≠ 2) (h3 : kdAt l i ≠ 3) (h7 : ¬ (kdAt l i = 7 ∧ kdAt l (i + 1) = 7)) : skipTo l false i = i := by
  rcases Nat.lt_or_ge i l.length with hi | hi
  · have e : kdAt (l.drop (i + 1)) 0 = kdAt l (i + 1) := by rw [kdAt_drop, Nat.add_zero]
    rw [kdAt_in hi] at h2 h3 h7
    rw [← e] at h7
    have h23 : ¬ (kdB l[i] = 2 ∨ kdB l[i] = 3) := by omega
    unfold skipTo
    rw [drop_of_lt hi]
    simp only [skipS]
    rw [if_neg h23, if_neg h7]
    rfl
  · unfold skipTo
    rw [List.drop_of_length_le hi]
    rfl
theorem skip_out {l : List UInt8} {i : Nat} (h : kdAt l i = 3 ∨ kdAt l i = 1) : skipTo l true i = skipTo l false i := by
  rcases Nat.lt_or_ge i l.length with hi | hi
  · rw [kdAt_in hi] at h
    have h1 := kdB_ne1 l[i]
    have h3 : kdB l[i] = 3 := by omega
    unfold skipTo
    rw [drop_of_lt hi]
    simp only [skipS]
    rw [if_pos h3, if_pos (.inr h3)]
  · unfold skipTo
    rw [List.drop_of_length_le hi]
    rfl
theorem skip_in {l : List UInt8} {i : Nat} (h3 : kdAt l i ≠ 3) (h1 : kdAt l i ≠ 1) : skipTo l true i = skipTo l true (i + 1) := by
  have hi : i < l.length := lt_of_kd h1
  rw [kdAt_in hi] at h3
  unfold skipTo
  rw [drop_of_lt hi]
  simp only [skipS]
  rw [if_neg h3]
  omega
theorem skipTo_le {l : List UInt8} {b : Bool} {i : Nat} (h : i ≤ l.length) : skipTo l b i ≤ l.length := by
  have := skip_le (l.drop i) b
  rw [List.length_drop] at this
  unfold skipTo
  omega
theorem skipTo_ge (l : List UInt8) (b : Bool) (i : Nat) : i ≤ skipTo l b i := Nat.le_add_right _ _

/-! ### Runs -/
def wd (k : Nat) : Bool := k == 4 || k == 5
def dg (k : Nat) : Bool := k == 5
/-- How many bytes in a row have such kinds. -/
def runN (p : Nat → Bool) : List UInt8 → Nat
  | [] => 0
  | c :: r => if p (kdB c) = true then runN p r + 1 else 0
theorem run_le (p : Nat → Bool) : ∀ l : List UInt8, runN p l ≤ l.length
  | [] => Nat.le_refl _
  | c :: r => by
    have := run_le p r
    simp only [runN, List.length_cons]
    split <;> omega
def runTo (p : Nat → Bool) (l : List UInt8) (i : Nat) : Nat := i + runN p (l.drop i)
theorem runTo_in {p : Nat → Bool} {l : List UInt8} {i : Nat} (h : p (kdAt l i) = true) (h1 : kdAt l i ≠ 1) : runTo p l i = runTo p l (i + 1) := by
  have hi := lt_of_kd h1
  rw [kdAt_in hi] at h
  unfold runTo
  rw [drop_of_lt hi, runN, if_pos h]
  omega
theorem runTo_out {p : Nat → Bool} {l : List UInt8} {i : Nat} (h : p (kdAt l i) = false) : runTo p l i = i := by
  rcases Nat.lt_or_ge i l.length with hi | hi
  · rw [kdAt_in hi] at h
    unfold runTo
    rw [drop_of_lt hi, runN, if_neg (by rw [h]; simp)]
    rfl
  · unfold runTo
    rw [List.drop_of_length_le hi]
    rfl
theorem runTo_le {p : Nat → Bool} {l : List UInt8} {i : Nat} (h : i ≤ l.length) : runTo p l i ≤ l.length := by
  have := run_le p (l.drop i)
  rw [List.length_drop] at this
  unfold runTo
  omega
theorem runTo_ge (p : Nat → Bool) (l : List UInt8) (i : Nat) : i ≤ runTo p l i := Nat.le_add_right _ _

/-! ### Texts -/
/-- Behind a text's first quote (true: behind a quote within): what it says, and of how many bytes it is. -/
def txtS : Bool → List UInt8 → Option (List UInt8 × Nat)
  | false, [] => none
  | true, [] => some ([], 0)
  | false, c :: r => if kdB c = 6 then (txtS true r).map (fun p => (p.1, p.2 + 1)) else (txtS false r).map (fun p => (c :: p.1, p.2 + 1))
  | true, c :: r => if kdB c = 6 then (txtS false r).map (fun p => (c :: p.1, p.2 + 1)) else some ([], 0)
theorem txt_le : ∀ (l : List UInt8) (b : Bool) (p : List UInt8 × Nat), txtS b l = some p → p.2 ≤ l.length
  | [], false, p, h => by cases h
  | [], true, p, h => by cases h; exact Nat.le_refl _
  | c :: r, false, p, h => by
    simp only [txtS] at h
    split at h
    · obtain ⟨q, hq, rfl⟩ := Option.map_eq_some_iff.1 h
      have := txt_le r true q hq
      simp only [List.length_cons]; omega
    · obtain ⟨q, hq, rfl⟩ := Option.map_eq_some_iff.1 h
      have := txt_le r false q hq
      simp only [List.length_cons]; omega
  | c :: r, true, p, h => by
    simp only [txtS] at h
    split at h
    · obtain ⟨q, hq, rfl⟩ := Option.map_eq_some_iff.1 h
      have := txt_le r false q hq
      simp only [List.length_cons]; omega
    · cases h; simp
/-- Where a text ends that goes on at a place: 0, if nowhere. -/
def txtTo (l : List UInt8) (b : Bool) (i : Nat) : Nat :=
  match txtS b (l.drop i) with
  | none => 0
  | some p => i + p.2

/-! ### Signs -/
/-- Of how many bytes the longest sign is: 0, if none stands there. -/
def sgnB (c : UInt8) (d : Option UInt8) : Nat :=
  if c.toNat = 60 ∧ (d = some 62 ∨ d = some 61) ∨ c.toNat = 62 ∧ d = some 61 ∨ c.toNat = 124 ∧ d = some 124 then 2 else if c.toNat = 124 then 0 else 1
def sgnN : List UInt8 → Nat
  | [] => 0
  | c :: r => sgnB c r.head?

/-! ### Numbers -/
def decV (l : List UInt8) : Nat := l.foldl (fun n c => 10 * n + (c.toNat - 48)) 0

end Go.Proofs.YtnbegpfbolkdiaaDoor
