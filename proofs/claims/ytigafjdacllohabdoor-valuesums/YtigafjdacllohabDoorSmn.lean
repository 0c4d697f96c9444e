/- The numbers of ValueSums: the sum does not hang on the order; hi and lo are its two parts. -/
import Derived.Test.YtigafjdacllohabDoorSma
namespace Go.Proofs.YtigafjdacllohabDoor
set_option linter.unusedVariables false
set_option linter.unusedSimpArgs false

def hiS (l : List Int) : Int := (l.map (· / 4294967296)).sum
def loS (l : List Int) : Int := (l.map (· % 4294967296)).sum
theorem sum_split : ∀ l : List Int, l.sum = hiS l * 4294967296 + loS l
  | [] => rfl
  | n :: r => by
    have h := sum_split r
    simp only [hiS, loS, List.sum_cons, List.map_cons] at h ⊢
    omega
theorem hiS_bound : ∀ l : List Int, (∀ n ∈ l, small n) → -(l.length * 2147483648 : Int) ≤ hiS l ∧ hiS l ≤ l.length * 2147483648
  | [], _ => by simp [hiS]
  | n :: r, h => by
    have h1 := hiS_bound r (fun m hm => h m (by simp [hm]))
    have h2 := h n (by simp)
    unfold small at h2
    simp only [hiS, List.sum_cons, List.map_cons, List.length_cons] at h1 ⊢
    omega
theorem loS_bound : ∀ l : List Int, 0 ≤ loS l ∧ loS l ≤ l.length * 4294967296
  | [] => by simp [loS]
  | n :: r => by
    have h1 := loS_bound r
    simp only [loS, List.sum_cons, List.map_cons, List.length_cons] at h1 ⊢
    omega
theorem sum_snoc (l : List Int) (i : Nat) (h : i < l.length) : hiS (l.take (i + 1)) = hiS (l.take i) + l[i] / 4294967296 ∧ loS (l.take (i + 1)) = loS (l.take i) + l[i] % 4294967296 := by
  unfold hiS loS
  rw [List.take_succ_eq_append_getElem h]
  refine ⟨?_, ?_⟩ <;> rw [List.map_append, List.sum_append] <;> simp only [List.map_cons, List.map_nil, List.sum_cons, List.sum_nil, Int.add_zero]
theorem fits_parts (l : List Int) : fitsI l.sum = decide (-2147483648 ≤ hiS l + loS l / 4294967296 ∧ hiS l + loS l / 4294967296 < 2147483648) := by
  unfold fitsI
  rw [sum_split]
  congr 1
  apply propext
  omega
theorem parts_sum (l : List Int) : l.sum = (hiS l + loS l / 4294967296) * 4294967296 + loS l % 4294967296 := by
  rw [sum_split]; omega
def intsL (l : List Int) : List Vl := l.map nV
theorem intsL_len (l : List Int) : (intsL l).length = l.length := by simp [intsL]
theorem intsL_ty (l : List Int) : ∀ V ∈ intsL l, V.ty = 1 := by
  intro V hV
  obtain ⟨n, _, rfl⟩ := List.mem_map.1 hV
  rfl
theorem intsL_small (l : List Int) (h : ∀ n ∈ l, small n) : ∀ V ∈ intsL l, small V.n := by
  intro V hV
  obtain ⟨n, hn, rfl⟩ := List.mem_map.1 hV
  exact h n hn
theorem sumL_ints : ∀ l : List Int, sumL (intsL l) = l.sum
  | [] => rfl
  | n :: r => by
    have h := sumL_ints r
    have e : sumL (intsL (n :: r)) = n + sumL (intsL r) := by simp [sumL, intsL, nV]
    rw [e, h, List.sum_cons]
def swapL (b : List Vl) (i k : Nat) : List Vl := (b.set i (b.getD k Vl.zero)).set k (b.getD i Vl.zero)
theorem swapL_perm (b : List Vl) (i k : Nat) (hi : i < b.length) (hk : k < b.length) : (swapL b i k).Perm b := by
  unfold swapL
  have e1 : b.getD k Vl.zero = b[k] := by simp [hk]
  have e2 : b.getD i Vl.zero = b[i] := by simp [hi]
  rw [e1, e2]
  exact List.set_set_perm hi hk
theorem sumL_perm {a b : List Vl} (h : a.Perm b) : sumL a = sumL b := by
  unfold sumL
  induction h with
  | nil => rfl
  | cons x h ih => simp [ih]
  | swap x y l => simp only [List.map_cons, List.sum_cons]; omega
  | trans h1 h2 ih1 ih2 => exact ih1.trans ih2
theorem firstL_one {a : List Vl} (h : ∀ V ∈ a, V.ty = 1) (hne : a ≠ []) (r : List Vl) : (firstL (a ++ r)).ty = 1 := by
  match a, h, hne with
  | V :: s, h, _ =>
    have h1 := h V (by simp)
    show (if V.ty = 0 then firstL (s ++ r) else V).ty = 1
    rw [if_neg (by omega)]
    exact h1
theorem sumL_snoc (b : List Vl) : sumL (b ++ [Vl.zero]) = sumL b := by
  simp [sumL, Vl.zero]
/-- What the sum of the swapped and lengthened slice is. -/
theorem sum_same {l : List Int} {b : List Vl} (h : b.Perm (intsL l)) : sumV (b ++ [Vl.zero]) = sumV (intsL l) ∧ sumE (b ++ [Vl.zero]) = sumE (intsL l) := by
  have hs : sumL (b ++ [Vl.zero]) = sumL (intsL l) := by rw [sumL_snoc, sumL_perm h]
  have ht : ∀ V ∈ b, V.ty = 1 := fun V hV => intsL_ty l V (h.mem_iff.1 hV)
  by_cases hl : l = []
  · subst hl
    have hb : b = [] := List.Perm.eq_nil h
    subst hb
    exact ⟨rfl, rfl⟩
  · have hb : b ≠ [] := by
      rintro rfl
      have := h.length_eq
      rw [intsL_len] at this
      exact hl (List.eq_nil_of_length_eq_zero this.symm)
    have hi : intsL l ≠ [] := by
      intro e
      have := intsL_len l
      rw [e] at this
      exact hl (List.eq_nil_of_length_eq_zero this.symm)
    have e1 : (firstL (b ++ [Vl.zero])).ty = 1 := firstL_one ht hb _
    have e2 : (firstL (intsL l)).ty = 1 := by have := firstL_one (intsL_ty l) hi []; rwa [List.append_nil] at this
    unfold sumV sumE
    rw [e1, e2, hs]
    exact ⟨rfl, rfl⟩
theorem sum_none : sumV (intsL []) = Vl.zero ∧ sumE (intsL []) = 0 := ⟨rfl, rfl⟩
theorem sum_fits {l : List Int} (hl : l ≠ []) (h : fitsI l.sum = true) : sumV (intsL l) = nV l.sum ∧ sumE (intsL l) = 0 := by
  have hi : intsL l ≠ [] := by
    intro e
    have := intsL_len l
    rw [e] at this
    exact hl (List.eq_nil_of_length_eq_zero this.symm)
  have e2 : (firstL (intsL l)).ty = 1 := by have := firstL_one (intsL_ty l) hi []; rwa [List.append_nil] at this
  unfold sumV sumE
  rw [e2, if_neg (by omega), if_neg (by omega), sumL_ints]
  unfold numV numE
  rw [if_pos h, if_pos h]
  exact ⟨rfl, rfl⟩
theorem sum_over {l : List Int} (hl : l ≠ []) (h : fitsI l.sum = false) : sumV (intsL l) = Vl.zero ∧ sumE (intsL l) = 161 := by
  have hi : intsL l ≠ [] := by
    intro e
    have := intsL_len l
    rw [e] at this
    exact hl (List.eq_nil_of_length_eq_zero this.symm)
  have e2 : (firstL (intsL l)).ty = 1 := by have := firstL_one (intsL_ty l) hi []; rwa [List.append_nil] at this
  unfold sumV sumE
  rw [e2, if_neg (by omega), if_neg (by omega), sumL_ints]
  unfold numV numE
  rw [if_neg (by simp [h]), if_neg (by simp [h])]
  exact ⟨rfl, rfl⟩
end Go.Proofs.YtigafjdacllohabDoor
