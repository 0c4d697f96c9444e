/- Tokens as lists alone: where one ends, what it says, and the tokens of a whole text. -/
import Derived.Test.YtnbegpfbolkdiaaDoorPure
namespace Go.Proofs.YtnbegpfbolkdiaaDoor
open Go.RowKit
set_option linter.unusedVariables false
set_option linter.unusedSimpArgs false

/-! ### Where a token ends -/
/-- A sum of how many bytes and a place, 0 where there are none. -/
def strF (l : List UInt8) (i : Nat) : Nat × Nat :=
  if kdAt l i = 4 then (1, runTo wd l (i + 1))
  else if kdAt l i = 5 then (if kdAt l (runTo dg l (i + 1)) = 4 then (0, 0) else (2, runTo dg l (i + 1)))
  else if kdAt l i = 6 then (if txtTo l false (i + 1) = 0 then (0, 0) else (3, txtTo l false (i + 1)))
  else if kdAt l i = 7 ∨ kdAt l i = 8 then (if sgnN (l.drop i) = 0 then (0, 0) else (4, i + sgnN (l.drop i)))
  else if kdAt l i = 1 then (5, i) else (0, 0)

/-! ### Two quotes for one -/
def unq : List UInt8 → List UInt8
  | [] => []
  | [c] => [c]
  | c :: d :: r => if c = 39 ∧ d = 39 then 39 :: unq r else c :: unq (d :: r)
theorem unq_pair (r : List UInt8) : unq (39 :: 39 :: r) = 39 :: unq r := by simp [unq]
theorem unq_other {c : UInt8} (h : c ≠ 39) (r : List UInt8) : unq (c :: r) = c :: unq r := by
  cases r with
  | nil => rfl
  | cons d r => simp [unq, h]
theorem unq_skip {c d : UInt8} (h : ¬ (c = 39 ∧ d = 39)) (r : List UInt8) : unq (c :: d :: r) = c :: unq (d :: r) := by simp [unq, h]
theorem kd_quote {c : UInt8} : kdB c = 6 ↔ c = 39 := by
  have h : ∀ i : Fin 256, kdB (UInt8.ofNat i.val) = 6 ↔ UInt8.ofNat i.val = 39 := by decide +kernel
  have := h ⟨c.toNat, c.toNat_lt⟩
  simpa using this
/-- What a text says lies between its quotes. -/
theorem txt_says : ∀ (l : List UInt8) (b : Bool) (p : List UInt8 × Nat), txtS b l = some p →
    (b = false → ∃ m, p.2 = m + 1 ∧ m < l.length ∧ unq (l.take m) = p.1) ∧ (b = true → (p.2 = 0 ∧ p.1 = []) ∨ ∃ m, p.2 = m + 1 ∧ m < l.length ∧ unq (39 :: l.take m) = p.1)
  | [], false, p, h => by cases h
  | [], true, p, h => by cases h; exact ⟨fun h => (nomatch h), fun _ => .inl ⟨rfl, rfl⟩⟩
  | c :: r, false, p, h => by
    refine ⟨fun _ => ?_, fun h => (nomatch h)⟩
    simp only [txtS] at h
    split at h
    · rename_i hc
      have hc := kd_quote.1 hc
      subst hc
      obtain ⟨q, hq, rfl⟩ := Option.map_eq_some_iff.1 h
      rcases (txt_says r true q hq).2 rfl with ⟨h0, h1⟩ | ⟨m, h0, h1, h2⟩
      · exact ⟨0, by simp [h0], by simp, by simp [h1, unq]⟩
      · exact ⟨m + 1, by simp [h0], by simp only [List.length_cons]; omega, by simpa using h2⟩
    · rename_i hc
      have hc : c ≠ 39 := fun e => hc (kd_quote.2 e)
      obtain ⟨q, hq, rfl⟩ := Option.map_eq_some_iff.1 h
      obtain ⟨m, h0, h1, h2⟩ := (txt_says r false q hq).1 rfl
      exact ⟨m + 1, by simp [h0], by simp only [List.length_cons]; omega, by rw [List.take_succ_cons, unq_other hc, h2]⟩
  | c :: r, true, p, h => by
    refine ⟨fun h => (nomatch h), fun _ => ?_⟩
    simp only [txtS] at h
    split at h
    · rename_i hc
      have hc := kd_quote.1 hc
      subst hc
      obtain ⟨q, hq, rfl⟩ := Option.map_eq_some_iff.1 h
      obtain ⟨m, h0, h1, h2⟩ := (txt_says r false q hq).1 rfl
      exact .inr ⟨m + 1, by simp [h0], by simp only [List.length_cons]; omega, by rw [List.take_succ_cons, unq_pair, h2]⟩
    · cases h; exact .inl ⟨rfl, rfl⟩
theorem txt_pos (l : List UInt8) (p : List UInt8 × Nat) (h : txtS false l = some p) : 1 ≤ p.2 := by
  obtain ⟨m, h0, _⟩ := (txt_says l false p h).1 rfl
  omega
/-! ### Steps of a text's walk -/
theorem txt_end {l : List UInt8} {i : Nat} (h : kdAt l i = 1) : txtTo l false i = 0 ∧ txtTo l true i = i := by
  have hi : l.length ≤ i := by
    rcases Nat.lt_or_ge i l.length with h1 | h1
    · rw [kdAt_in h1] at h; exact absurd h (kdB_ne1 _)
    · exact h1
  unfold txtTo
  rw [List.drop_of_length_le hi]
  exact ⟨rfl, rfl⟩
theorem txt_quote {l : List UInt8} {i : Nat} (h : kdAt l i = 6) : txtTo l false i = txtTo l true (i + 1) ∧ txtTo l true i = txtTo l false (i + 1) := by
  have hi : i < l.length := lt_of_kd (by omega)
  rw [kdAt_in hi] at h
  unfold txtTo
  rw [drop_of_lt hi]
  simp only [txtS]
  rw [if_pos h, if_pos h]
  constructor
  · cases txtS true (l.drop (i + 1)) with
    | none => rfl
    | some p => simp; omega
  · cases txtS false (l.drop (i + 1)) with
    | none => rfl
    | some p => simp; omega
theorem txt_in {l : List UInt8} {i : Nat} (h : kdAt l i ≠ 6) (h1 : kdAt l i ≠ 1) : txtTo l false i = txtTo l false (i + 1) := by
  have hi : i < l.length := lt_of_kd h1
  rw [kdAt_in hi] at h
  unfold txtTo
  rw [drop_of_lt hi]
  simp only [txtS]
  rw [if_neg h]
  cases txtS false (l.drop (i + 1)) with
  | none => rfl
  | some p => simp; omega
theorem txt_out {l : List UInt8} {i : Nat} (h : kdAt l i ≠ 6) : txtTo l true i = i := by
  unfold txtTo
  rcases Nat.lt_or_ge i l.length with hi | hi
  · rw [kdAt_in hi] at h
    rw [drop_of_lt hi]
    simp only [txtS]
    rw [if_neg h]
    rfl
  · rw [List.drop_of_length_le hi]
    rfl
theorem txtTo_le {l : List UInt8} {b : Bool} {i : Nat} (h : i ≤ l.length) : txtTo l b i ≤ l.length := by
  unfold txtTo
  split
  · omega
  · rename_i p hp
    have := txt_le _ _ _ hp
    rw [List.length_drop] at this
    omega
theorem sgn_le (l : List UInt8) : sgnN l ≤ l.length := by
  match l with
  | [] => exact Nat.le_refl _
  | [c] =>
    have h1 : sgnB c none ≤ 1 := by
      unfold sgnB
      split
      · rename_i h; simp at h
      · split <;> omega
    exact h1
  | c :: d :: r =>
    simp only [sgnN, sgnB, List.length_cons]
    split
    · omega
    · split <;> omega
/-- Where a token ends lies behind its place and within. -/
theorem strF_in {l : List UInt8} {i k e : Nat} (hi : i ≤ l.length) (h : strF l i = (k, e)) (hk : k ≠ 0) : k ≤ 5 ∧ e ≤ l.length ∧ i ≤ e ∧ (k ≠ 5 → i < e) ∧ (k = 5 → e = i ∧ i = l.length) := by
  unfold strF at h
  split at h
  · rename_i h4
    have := lt_of_kd (l := l) (i := i) (by omega)
    have h1 := runTo_le (p := wd) (l := l) (i := i + 1) (by omega)
    have h2 := runTo_ge wd l (i + 1)
    injection h with ha hb; subst ha hb
    refine ⟨?_, ?_, ?_, ?_, ?_⟩ <;> omega
  · split at h
    · have := lt_of_kd (l := l) (i := i) (by omega)
      have h1 := runTo_le (p := dg) (l := l) (i := i + 1) (by omega)
      have h2 := runTo_ge dg l (i + 1)
      split at h <;> (injection h with ha hb; subst ha hb)
      · exact absurd rfl hk
      · refine ⟨?_, ?_, ?_, ?_, ?_⟩ <;> omega
    · split at h
      · have hlt := lt_of_kd (l := l) (i := i) (by omega)
        have h1 := txtTo_le (l := l) (b := false) (i := i + 1) (by omega)
        split at h <;> (injection h with ha hb; subst ha hb)
        · exact absurd rfl hk
        · rename_i h0
          have h2 : i + 1 ≤ txtTo l false (i + 1) := by
            unfold txtTo at h0 ⊢
            split
            · rename_i hn; rw [hn] at h0; exact absurd rfl h0
            · omega
          refine ⟨?_, ?_, ?_, ?_, ?_⟩ <;> omega
      · split at h
        · have hlt := lt_of_kd (l := l) (i := i) (by omega)
          have h1 := sgn_le (l.drop i)
          rw [List.length_drop] at h1
          split at h <;> (injection h with ha hb; subst ha hb)
          · exact absurd rfl hk
          · refine ⟨?_, ?_, ?_, ?_, ?_⟩ <;> omega
        · split at h <;> (injection h with ha hb; subst ha hb)
          · rename_i h1
            have : l.length ≤ i := by
              rcases Nat.lt_or_ge i l.length with h2 | h2
              · rw [kdAt_in h2] at h1; exact absurd h1 (kdB_ne1 _)
              · exact h2
            refine ⟨?_, ?_, ?_, ?_, ?_⟩ <;> omega
          · exact absurd rfl hk
/-! ### What is between two places -/
def seg (l : List UInt8) (i e : Nat) : List UInt8 := (l.drop i).take (e - i)
theorem seg_length {l : List UInt8} {i e : Nat} (h : e ≤ l.length) : (seg l i e).length = e - i := by
  unfold seg; rw [List.length_take, List.length_drop]; omega

/-! ### Tokens -/
structure Tk where
  k : Nat
  t : List UInt8
  n : Nat
  p : Nat
  deriving DecidableEq
/-- The token at a place, and where it ends. -/
def tokAt (l : List UInt8) (i : Nat) : Option (Tk × Nat) :=
  let k := (strF l i).1
  let e := (strF l i).2
  if k = 1 then (if e - i ≤ 32 then some (⟨1, Lib.toLowerA (seg l i e), 0, i⟩, e) else none)
  else if k = 2 then (if e - i ≤ 19 ∧ decV (seg l i e) < 9223372036854775808 then some (⟨2, [], decV (seg l i e), i⟩, e) else none)
  else if k = 3 then some (⟨3, unq (seg l (i + 1) (e - 1)), 0, i⟩, e)
  else if k = 4 then some (⟨4, seg l i e, 0, i⟩, e)
  else if k = 5 then some (⟨5, [], 0, i⟩, e)
  else none
theorem tokAt_in {l : List UInt8} {i : Nat} {t : Tk} {e : Nat} (hi : i ≤ l.length) (h : tokAt l i = some (t, e)) : e ≤ l.length ∧ i ≤ e ∧ t.p = i ∧ (t.k ≠ 5 → i < e) ∧ (t.k = 5 → e = l.length ∧ i = l.length) ∧ 1 ≤ t.k ∧ t.k ≤ 5 := by
  obtain ⟨⟨k, e'⟩, hs⟩ : ∃ x, strF l i = x := ⟨_, rfl⟩
  unfold tokAt at h
  rw [hs] at h
  simp only at h
  by_cases hk : k = 0
  · subst hk; simp at h
  obtain ⟨h1, h2, h3, h4, h5⟩ := strF_in hi hs hk
  split at h
  · split at h
    · simp only [Option.some.injEq, Prod.mk.injEq] at h
      obtain ⟨rfl, rfl⟩ := h
      exact ⟨h2, h3, rfl, fun _ => h4 (by omega), fun h => by simp at h, by simp, by simp⟩
    · cases h
  · split at h
    · split at h
      · simp only [Option.some.injEq, Prod.mk.injEq] at h
        obtain ⟨rfl, rfl⟩ := h
        exact ⟨h2, h3, rfl, fun _ => h4 (by omega), fun h => by simp at h, by simp, by simp⟩
      · cases h
    · split at h
      · simp only [Option.some.injEq, Prod.mk.injEq] at h
        obtain ⟨rfl, rfl⟩ := h
        exact ⟨h2, h3, rfl, fun _ => h4 (by omega), fun h => by simp at h, by simp, by simp⟩
      · split at h
        · simp only [Option.some.injEq, Prod.mk.injEq] at h
          obtain ⟨rfl, rfl⟩ := h
          exact ⟨h2, h3, rfl, fun _ => h4 (by omega), fun h => by simp at h, by simp, by simp⟩
        · split at h
          · rename_i hk5
            simp only [Option.some.injEq, Prod.mk.injEq] at h
            obtain ⟨rfl, rfl⟩ := h
            obtain ⟨q1, q2⟩ := h5 hk5
            exact ⟨h2, h3, rfl, fun h => absurd rfl h, fun _ => ⟨by omega, by omega⟩, by simp, by simp⟩
          · cases h
/-- The tokens from a place on behind what was told; .inr: where it is wrong. -/
def toks (l : List UInt8) : Nat → Nat → List Tk → (List Tk) ⊕ Nat
  | 0, i, acc => .inr i
  | f + 1, i, acc =>
    match tokAt l (skipTo l false i) with
    | none => .inr (skipTo l false i)
    | some (t, e) => if t.k = 5 then .inl (acc ++ [t]) else toks l f e (acc ++ [t])
/-- What Words tells of bytes: the tokens, the error, its place. -/
def wordsF (l : List UInt8) : List Tk × Nat × Nat :=
  if 4096 < l.length then ([], 2, 0) else
    match toks l (l.length + 1) 0 [] with
    | .inl ts => (ts, 0, 0)
    | .inr p => ([], 180, p)
end Go.Proofs.YtnbegpfbolkdiaaDoor
