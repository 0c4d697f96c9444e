/- Tokens written out are read as the same ones: lists alone. -/
import Derived.Test.YtnbegpfbolkdiaaDoorRsg
namespace Go.Proofs.YtnbegpfbolkdiaaDoor
open Go.RowKit
set_option linter.unusedVariables false
set_option linter.unusedSimpArgs false

/-! ### Numbers and texts written out -/
def decL (n : Nat) : List UInt8 := if h : n < 10 then [UInt8.ofNat (48 + n)] else decL (n / 10) ++ [UInt8.ofNat (48 + n % 10)]
termination_by n
theorem dig_nat (d : Nat) (h : d < 10) : (UInt8.ofNat (48 + d)).toNat = 48 + d := by simp; omega
theorem decL_digits (n : Nat) : ∀ c ∈ decL n, isD c = true := by
  induction n using Nat.strongRecOn with
  | _ n ih =>
    intro c hc
    unfold decL at hc
    split at hc
    · rename_i h
      simp only [List.mem_singleton] at hc
      subst hc
      simp only [isD, dig_nat n h, Bool.and_eq_true, decide_eq_true_eq]
      omega
    · rename_i h
      rcases List.mem_append.1 hc with hc | hc
      · exact ih (n / 10) (by omega) c hc
      · simp only [List.mem_singleton] at hc
        subst hc
        simp only [isD, dig_nat (n % 10) (by omega), Bool.and_eq_true, decide_eq_true_eq]
        omega
theorem decL_val (n : Nat) : decV (decL n) = n := by
  induction n using Nat.strongRecOn with
  | _ n ih =>
    unfold decL
    split
    · rename_i h
      simp only [decV, List.foldl_cons, List.foldl_nil, dig_nat n h]
      omega
    · rename_i h
      rw [decV_snoc, ih (n / 10) (by omega), dig_nat (n % 10) (by omega)]
      omega
theorem decL_len : ∀ (k n : Nat), n < 10 ^ (k + 1) → (decL n).length ≤ k + 1
  | 0, n, h => by
    unfold decL
    rw [dif_pos (by simpa using h)]
    simp
  | k + 1, n, h => by
    unfold decL
    split
    · simp
    · rw [List.length_append]
      have h1 : n / 10 < 10 ^ (k + 1) := by
        rw [Nat.div_lt_iff_lt_mul (by omega)]
        rw [Nat.pow_succ] at h
        exact h
      have := decL_len k (n / 10) h1
      simp only [List.length_singleton]
      omega
theorem decL_ne (n : Nat) : decL n ≠ [] := by
  unfold decL
  split <;> simp
def qu : List UInt8 → List UInt8
  | [] => []
  | c :: r => if c = 39 then 39 :: 39 :: qu r else c :: qu r
theorem qu_len : ∀ l, (qu l).length ≤ 2 * l.length
  | [] => Nat.le_refl _
  | c :: r => by
    have := qu_len r
    unfold qu
    split <;> simp only [List.length_cons] <;> omega
theorem txt_qu (r : List UInt8) (hr : kdAt r 0 ≠ 6) : ∀ t, txtS false (qu t ++ 39 :: r) = some (t, (qu t).length + 1)
  | [] => by
    have h6 : kdB 39 = 6 := by decide
    simp only [qu, List.nil_append, txtS, h6, if_true]
    cases r with
    | nil => rfl
    | cons d r =>
      have : kdB d ≠ 6 := hr
      simp only [txtS, if_neg this]
      rfl
  | c :: t => by
    have ih := txt_qu r hr t
    have h6 : kdB 39 = 6 := by decide
    by_cases hc : c = 39
    · subst hc
      simp only [qu, if_true, List.cons_append, txtS, h6, ih]
      simp
    · have h : kdB c ≠ 6 := fun e => hc (kd_quote.1 e)
      simp only [qu, if_neg hc, List.cons_append, txtS, if_neg h, ih]
      simp
def told (t : Tk) : List UInt8 := if t.k = 2 then decL t.n else if t.k = 3 then 39 :: qu t.t ++ [39] else t.t

/-! ### Tokens that were read -/
structure Good (t : Tk) : Prop where
  len : t.t.length ≤ 4096
  kind : (t.k = 1 ∧ t.n = 0 ∧ (∃ c w, t.t = c :: w ∧ kdB c = 4) ∧ (∀ c ∈ t.t, wd (kdB c) = true ∧ Lib.lowerB c = c) ∧ t.t.length ≤ 32) ∨
    (t.k = 2 ∧ t.t = [] ∧ t.n < 9223372036854775808) ∨ (t.k = 3 ∧ t.n = 0) ∨
    (t.k = 4 ∧ t.n = 0 ∧ ((∃ c, t.t = [c] ∧ (kdB c = 7 ∨ kdB c = 8) ∧ c ≠ 124) ∨ (∃ c d, t.t = [c, d] ∧ sgnB c (some d) = 2)))
theorem lower_all : ∀ c : UInt8, (kdB c = 4 → kdB (Lib.lowerB c) = 4) ∧ (wd (kdB c) = true → wd (kdB (Lib.lowerB c)) = true ∧ Lib.lowerB (Lib.lowerB c) = Lib.lowerB c) := by
  have h : ∀ i : Fin 256, (kdB (UInt8.ofNat i.val) = 4 → kdB (Lib.lowerB (UInt8.ofNat i.val)) = 4) ∧ (wd (kdB (UInt8.ofNat i.val)) = true → wd (kdB (Lib.lowerB (UInt8.ofNat i.val))) = true ∧ Lib.lowerB (Lib.lowerB (UInt8.ofNat i.val)) = Lib.lowerB (UInt8.ofNat i.val)) := by decide +kernel
  intro c
  have := h ⟨c.toNat, c.toNat_lt⟩
  simpa using this
theorem good_of {l : List UInt8} {i : Nat} {t : Tk} {e : Nat} (hi : i ≤ l.length) (hl : l.length ≤ 4096) (h : tokAt l i = some (t, e)) (h5 : t.k ≠ 5) : Good t := by
  obtain ⟨⟨k, e'⟩, hs⟩ : ∃ x, strF l i = x := ⟨_, rfl⟩
  have ht := h
  unfold tokAt at ht
  rw [hs] at ht
  simp only at ht
  by_cases hk0 : k = 0
  · subst hk0; simp at ht
  obtain ⟨s1, s2, s3, s4, s5⟩ := strF_in hi hs hk0
  split at ht
  · rename_i hk; subst hk
    split at ht
    · rename_i h32
      simp only [Option.some.injEq, Prod.mk.injEq] at ht
      obtain ⟨rfl, rfl⟩ := ht
      have s4 := s4 (by omega)
      have h4 : kdAt l i = 4 ∧ e' = runTo wd l (i + 1) := by
        have hcase := hs
        unfold strF at hcase
        split at hcase
        · injection hcase with a b; exact ⟨by assumption, b.symm⟩
        · (repeat' split at hcase) <;> (injection hcase with a b; omega)
      have hw := seg_run (p := wd) (l := l) (i := i) (by omega) (by simp [h4.1, wd])
      rw [← h4.2] at hw
      have hlen : (Lib.toLowerA (seg l i e')).length = e' - i := by rw [Lib.toLowerA, List.length_map, seg_length s2]
      refine ⟨by show (Lib.toLowerA (seg l i e')).length ≤ 4096; omega, .inl ⟨rfl, rfl, ?_, ?_, by show (Lib.toLowerA (seg l i e')).length ≤ 32; omega⟩⟩
      · have hd : seg l i e' = l[i]'(by omega) :: (l.drop (i + 1)).take (e' - i - 1) := by
          unfold seg
          rw [drop_of_lt (by omega), show e' - i = (e' - i - 1) + 1 by omega, List.take_succ_cons]
          rfl
        refine ⟨Lib.lowerB (l[i]'(by omega)), _, by rw [hd]; rfl, (lower_all _).1 ?_⟩
        have := h4.1
        rw [kdAt_in (by omega)] at this
        exact this
      · intro c hc
        obtain ⟨d, hd, rfl⟩ := List.mem_map.1 hc
        exact (lower_all d).2 (hw d hd)
    · cases ht
  · split at ht
    · rename_i hk; subst hk
      split at ht
      · rename_i hv
        simp only [Option.some.injEq, Prod.mk.injEq] at ht
        obtain ⟨rfl, rfl⟩ := ht
        exact ⟨by simp, .inr (.inl ⟨rfl, rfl, hv.2⟩)⟩
      · cases ht
    · split at ht
      · rename_i hk; subst hk
        simp only [Option.some.injEq, Prod.mk.injEq] at ht
        obtain ⟨rfl, rfl⟩ := ht
        refine ⟨?_, .inr (.inr (.inl ⟨rfl, rfl⟩))⟩
        have h1 := unq_le (seg l (i + 1) (e' - 1))
        rw [seg_length (by omega)] at h1
        show (unq (seg l (i + 1) (e' - 1))).length ≤ 4096
        omega
      · split at ht
        · rename_i hk; subst hk
          simp only [Option.some.injEq, Prod.mk.injEq] at ht
          obtain ⟨rfl, rfl⟩ := ht
          have s4 := s4 (by omega)
          have hi' : i < l.length := by omega
          have hsg : sgnN (l.drop i) = sgnB l[i] l[i + 1]? := by
            rw [drop_of_lt hi']
            simp only [sgnN]
            congr 1
            rw [List.head?_drop]
          have hcase : (kdAt l i = 7 ∨ kdAt l i = 8) ∧ e' = i + sgnN (l.drop i) ∧ sgnN (l.drop i) ≠ 0 := by
            have hcase := hs
            unfold strF at hcase
            (repeat' split at hcase) <;> first | (injection hcase with a b; omega) | (injection hcase with a b; exact ⟨by assumption, b.symm, by assumption⟩)
          rw [kdAt_in hi', hsg] at hcase
          obtain ⟨hk78, he, hn0⟩ := hcase
          have hlen : (seg l i e').length = e' - i := seg_length s2
          by_cases h2 : sgnB l[i] l[i + 1]? = 2
          · have hi1 : i + 1 < l.length := by omega
            have hd : seg l i e' = [l[i], l[i + 1]] := by
              unfold seg
              rw [he, h2, drop_of_lt hi', drop_of_lt hi1, show i + 2 - i = 2 by omega]
              rfl
            refine ⟨by show (seg l i e').length ≤ 4096; omega, .inr (.inr (.inr ⟨rfl, rfl, .inr ⟨l[i], l[i + 1], hd, ?_⟩⟩))⟩
            rw [List.getElem?_eq_getElem hi1] at h2
            exact h2
          · have h1 := sgnB_cases _ _ h2
            have hc : l[i] ≠ 124 := fun e => hn0 (by rw [h1, if_pos e])
            rw [if_neg hc] at h1
            have hd : seg l i e' = [l[i]] := by
              unfold seg
              rw [he, h1, drop_of_lt hi', show i + 1 - i = 1 by omega]
              rfl
            exact ⟨by show (seg l i e').length ≤ 4096; omega, .inr (.inr (.inr ⟨rfl, rfl, .inl ⟨l[i], hd, hk78, hc⟩⟩))⟩
        · split at ht
          · simp only [Option.some.injEq, Prod.mk.injEq] at ht
            obtain ⟨rfl, rfl⟩ := ht
            exact absurd rfl h5
          · cases ht
end Go.Proofs.YtnbegpfbolkdiaaDoor
