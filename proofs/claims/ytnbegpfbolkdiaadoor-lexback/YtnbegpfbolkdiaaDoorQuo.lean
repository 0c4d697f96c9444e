/- The library's answers at tokens: digits as a number, two quotes for one. -/
import Derived.Test.YtnbegpfbolkdiaaDoorTok
namespace Go.Proofs.YtnbegpfbolkdiaaDoor
open Go.RowKit
set_option linter.unusedVariables false
set_option linter.unusedSimpArgs false

/-! ### Digits -/
theorem parse_digits : ∀ (l : List UInt8) (acc m : Nat), l.length ≤ m → m ≤ 19 → acc < 10 ^ (19 - m) → (∀ c ∈ l, isD c = true) → Lib.parseUint10 acc l = .ok (l.foldl (fun n c => 10 * n + (c.toNat - 48)) acc)
  | [], acc, m, _, _, _, _ => rfl
  | c :: r, acc, m, hm, h19, ha, hd => by
    have hc := hd c (by simp)
    simp only [isD, Bool.and_eq_true, decide_eq_true_eq] at hc
    simp only [List.length_cons] at hm
    obtain ⟨k, rfl⟩ : ∃ k, m = k + 1 := ⟨m - 1, by omega⟩
    have hb : acc < 1000000000000000000 := Nat.lt_of_lt_of_le ha (by
      have : 10 ^ (19 - (k + 1)) ≤ 10 ^ 18 := Nat.pow_le_pow_right (by omega) (by omega)
      simpa using this)
    have he : (19 - k) = (19 - (k + 1)) + 1 := by omega
    simp only [Lib.parseUint10]
    rw [if_pos hc, if_neg (by omega), if_neg (by omega)]
    rw [parse_digits r _ k (by omega) (by omega) (by rw [he, Nat.pow_succ]; omega) (fun c h => hd c (by simp [h]))]
    rw [List.foldl_cons, Nat.mul_comm]
theorem atoi_digits (l : List UInt8) (h0 : l ≠ []) (hl : l.length ≤ 19) (hd : ∀ c ∈ l, isD c = true) :
    Lib.atoiAll l = if 9223372036854775808 ≤ decV l then .range else .ok (decV l : Int) := by
  cases l with
  | nil => exact absurd rfl h0
  | cons c r =>
    have hc := hd c (by simp)
    simp only [isD, Bool.and_eq_true, decide_eq_true_eq] at hc
    rw [Lib.atoiAll_plain c r (by omega) (by omega)]
    have e : Lib.parseMag (c :: r) = .ok (decV (c :: r)) := by
      unfold Lib.parseMag decV
      rw [if_neg (by simp), parse_digits (c :: r) 0 19 hl (by omega) (by simp) hd]
    rw [e]
    rfl
/-! ### Quotes -/
def rep (l : List UInt8) : List UInt8 := Lib.replaceK [39, 39] [39] (Lib.count l [39, 39]) l
theorem rep_all (l : List UInt8) : Lib.replaceAll l [39, 39] [39] = rep l := by
  unfold Lib.replaceAll Lib.replace rep
  rw [if_neg (by decide)]
  simp [Lib.replaceNum]
theorem rep_miss {l : List UInt8} (h : Lib.index l [39, 39] = -1) : rep l = l := by
  unfold rep
  rw [Lib.count_miss h]
  rfl
theorem rep_hit {l : List UInt8} {i : Nat} (h : Lib.index l [39, 39] = i) : rep l = l.take i ++ 39 :: rep (l.drop (i + 2)) := by
  unfold rep
  rw [Lib.count_hit (by simp) h]
  rw [Nat.add_comm 1 _, Lib.replaceK_hit _ _ _ _ i h]
  simp
theorem rep_nil : rep [] = [] := rep_miss (by simp [Lib.index])
theorem rep_one (c : UInt8) : rep [c] = [c] := rep_miss (by simp [Lib.index, List.isPrefixOf])
theorem rep_pair (r : List UInt8) : rep (39 :: 39 :: r) = 39 :: rep r := by
  rw [rep_hit (i := 0) (by simp [Lib.index, List.isPrefixOf])]
  simp
theorem rep_skip {c d : UInt8} (h : ¬ (c = 39 ∧ d = 39)) (r : List UInt8) : rep (c :: d :: r) = c :: rep (d :: r) := by
  have hp : ([39, 39] : List UInt8).isPrefixOf (c :: d :: r) = false := by
    simp only [List.isPrefixOf, Bool.and_true, Bool.and_eq_false_iff, beq_eq_false_iff_ne]
    by_cases h1 : c = 39
    · exact .inr (fun e => h ⟨h1, e.symm⟩)
    · exact .inl (fun e => h1 e.symm)
  have hix : Lib.index (c :: d :: r) [39, 39] = if Lib.index (d :: r) [39, 39] == -1 then -1 else Lib.index (d :: r) [39, 39] + 1 := by rw [Lib.index, hp]; simp
  by_cases hm : Lib.index (d :: r) [39, 39] = -1
  · rw [rep_miss hm, rep_miss (by rw [hix, if_pos (beq_iff_eq.2 hm)])]
  · have hge := Lib.index_ge (d :: r) [39, 39]
    obtain ⟨j, hj⟩ : ∃ j : Nat, Lib.index (d :: r) [39, 39] = j := ⟨(Lib.index (d :: r) [39, 39]).toNat, by omega⟩
    have hix' : Lib.index (c :: d :: r) [39, 39] = ((j + 1 : Nat) : Int) := by rw [hix, if_neg (fun e => hm (beq_iff_eq.1 e)), hj]; omega
    rw [rep_hit hix', rep_hit hj]
    rw [show j + 1 + 2 = (j + 2) + 1 by omega]
    simp
theorem rep_unq (l : List UInt8) : rep l = unq l := by
  match l with
  | [] => exact rep_nil
  | [c] => exact rep_one c
  | c :: d :: r =>
    by_cases h : c = 39 ∧ d = 39
    · obtain ⟨rfl, rfl⟩ := h
      rw [rep_pair, unq_pair, rep_unq r]
    · rw [rep_skip h, unq_skip h, rep_unq (d :: r)]
termination_by l.length
theorem unq_le (l : List UInt8) : (unq l).length ≤ l.length := by
  match l with
  | [] => exact Nat.le_refl _
  | [c] => exact Nat.le_refl _
  | c :: d :: r =>
    by_cases h : c = 39 ∧ d = 39
    · obtain ⟨rfl, rfl⟩ := h
      have := unq_le r
      rw [unq_pair]; simp only [List.length_cons]; omega
    · have := unq_le (d :: r)
      rw [unq_skip h]; simp only [List.length_cons] at this ⊢; omega
termination_by l.length
end Go.Proofs.YtnbegpfbolkdiaaDoor
