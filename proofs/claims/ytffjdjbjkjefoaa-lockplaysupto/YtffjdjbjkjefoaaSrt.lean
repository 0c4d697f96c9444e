/- A row of ints that is sorted and made single; names that are cloned. -/
import Derived.Test.YtffjdjbjkjefoaaTab
import Derived.Test.YtffjdjbjkjefoaaLib
import Derived.Sort.OwnSortedInts
import Derived.Lib.SlicesCompact
namespace Go.Proofs.Ytffjdjbjkjefoaa
open Go.RowKit Go.WideAt
set_option linter.unusedVariables false
set_option linter.unusedSimpArgs false

/-! ### Lists alone -/
theorem keeps_iff (zs : List Int) (j : Nat) (hj : j < zs.length) : Lib.keeps zs.toArray j = true ↔ (j = 0 ∨ zs[j]! ≠ zs[j - 1]!) := by
  unfold Lib.keeps
  simp
theorem cUp_spec (zs : List Int) (hs : zs.Pairwise (· ≤ ·)) : ∀ n, n ≤ zs.length → (Lib.compactUpTo zs.toArray n).Pairwise (· < ·) ∧ (∀ x, x ∈ Lib.compactUpTo zs.toArray n ↔ x ∈ zs.take n) ∧ ∀ x ∈ Lib.compactUpTo zs.toArray n, ∀ h : 0 < n, ∃ h' : n - 1 < zs.length, x ≤ zs[n - 1] := by
  intro n
  induction n with
  | zero => intro _; refine ⟨?_, ?_, ?_⟩ <;> simp [Lib.compactUpTo]
  | succ n ih =>
    intro hn
    obtain ⟨h1, h2, h3⟩ := ih (by omega)
    have hlt : n < zs.length := by omega
    have htk : zs.take (n + 1) = zs.take n ++ [zs[n]] := List.take_succ_eq_append_getElem hlt
    have hd : zs.toArray[n]! = zs[n] := by simp [hlt]
    rw [Lib.compactUpTo_succ]
    have hle : ∀ x ∈ zs.take n, x ≤ zs[n] := by
      intro x hx
      obtain ⟨i, hi, rfl⟩ := List.mem_iff_getElem.1 hx
      have hi' : i < n := by rw [List.length_take] at hi; omega
      rw [List.getElem_take]
      exact List.pairwise_iff_getElem.1 hs i n (by omega) hlt hi'
    by_cases hk : Lib.keeps zs.toArray n = true
    · rw [if_pos hk, hd]
      have hk' := (keeps_iff zs n hlt).1 hk
      have hnew : ∀ x ∈ Lib.compactUpTo zs.toArray n, x < zs[n] := by
        intro x hx
        have hx1 := hle x ((h2 x).1 hx)
        rcases Nat.eq_zero_or_pos n with e | e
        · subst e
          have := (h2 x).1 hx
          simp at this
        · obtain ⟨h', h4⟩ := h3 x hx e
          have h5 : zs[n - 1] ≤ zs[n] := List.pairwise_iff_getElem.1 hs (n - 1) n (by omega) hlt (by omega)
          rcases hk' with e0 | e0
          · omega
          · rw [getElem!_pos zs n hlt, getElem!_pos zs (n - 1) h'] at e0
            omega
      refine ⟨?_, ?_, ?_⟩
      · rw [List.pairwise_append]
        exact ⟨h1, by simp, fun x hx y hy => by simp at hy; subst hy; exact hnew x hx⟩
      · intro x
        rw [htk, List.mem_append, List.mem_append, h2]
      · intro x hx _
        refine ⟨hlt, ?_⟩
        show x ≤ zs[n]
        rcases List.mem_append.1 hx with hx | hx
        · exact Int.le_of_lt (hnew x hx)
        · simp at hx; omega
    · rw [if_neg hk]
      have hk' : ¬ (n = 0 ∨ zs[n]! ≠ zs[n - 1]!) := fun h => hk ((keeps_iff zs n hlt).2 h)
      have hn0 : n ≠ 0 := fun e => hk' (.inl e)
      have heq : zs[n] = zs[n - 1] := by
        have := Classical.not_not.1 (fun h => hk' (.inr h))
        rwa [getElem!_pos zs n hlt, getElem!_pos zs (n - 1) (by omega)] at this
      refine ⟨by simpa using h1, ?_, ?_⟩
      · intro x
        rw [List.append_nil, htk, List.mem_append, h2]
        constructor
        · exact .inl
        · rintro (h | h)
          · exact h
          · simp at h
            rw [h, heq]
            refine List.mem_iff_getElem.2 ⟨n - 1, by rw [List.length_take]; omega, ?_⟩
            rw [List.getElem_take]
      · intro x hx _
        rw [List.append_nil] at hx
        exact ⟨hlt, hle x ((h2 x).1 hx)⟩
theorem compact_spec (zs : List Int) (hs : zs.Pairwise (· ≤ ·)) : (Lib.compact zs).Pairwise (· < ·) ∧ ∀ x, x ∈ Lib.compact zs ↔ x ∈ zs := by
  obtain ⟨h1, h2, _⟩ := cUp_spec zs hs zs.length (Nat.le_refl _)
  refine ⟨h1, fun x => ?_⟩
  have := h2 x
  rwa [List.take_length] at this
theorem own_of {w : World} {base : Nat} {e : TypeId} {size : Nat} {v : Value} {n : Nat} {xs : List Value} (h : w.ownsRow base e size v n xs) : (v = .slice none 0 0 ∧ n = 0 ∧ xs = []) ∨ ∃ g cap cur, v = .slice (some ⟨g, 0, none⟩) n cap ∧ base ≤ g ∧ w.heap[g]? = some (.cells cur e (0, 0)) ∧ n ≤ cap ∧ cap ≤ maxLen ∧ cur.size = cap * size ∧ cur.toList.take (n * size) = xs := by
  rcases h.2 with ⟨rfl, rfl⟩ | ⟨g, cap, cur, rfl, h1, h2, h3, h4, h5, h6⟩
  · exact .inl ⟨rfl, rfl, List.eq_nil_of_length_eq_zero (by simpa using h.1)⟩
  · exact .inr ⟨g, cap, cur, rfl, h1, h2, h3, h4, h5, h6⟩
/-- slices.Sort at ints of an owned row. -/
theorem sortI_any {w : World} {base : Nat} {v : Value} {A : List Int} (h : w.ownsRow base 3 1 v A.length (A.map icell)) (hA : A.length ≤ 140737488355328) :
    Calls Try.prog 41 #[v] w fun e w' => e = .returned (.tuple #[]) ∧ w'.ownsRow base 3 1 v (A.mergeSort fun x y => decide (x ≤ y)).length ((A.mergeSort fun x y => decide (x ≤ y)).map icell) ∧ w.grownBy w' v.ownBlock := by
  rw [List.length_mergeSort]
  rcases own_of h with ⟨rfl, h1, h2⟩ | ⟨g, cap, cur, rfl, h1, h2, h3, h4, h5, h6⟩
  · have hA0 : A = [] := List.eq_nil_of_length_eq_zero h1
    subst hA0
    refine (Try.slices_Sort_int_none none 0 w).mono ?_
    rintro e w' ⟨rfl, rfl⟩
    refine ⟨rfl, by simpa using h, ⟨rfl, rfl, rfl, Nat.le_refl _, fun _ _ _ => rfl⟩⟩
  · rw [Nat.mul_one] at h6
    have ht : cur.toList.take A.length = A.map (Value.int .i64) := h6
    refine (Try.slices_Sort_int g 0 cap A w (holds_of_blockI h2 ht) (lt_of_heap h2) (by omega)).mono ?_
    rintro e w' ⟨rfl, n, os, rfl⟩
    refine ⟨rfl, ?_, ?_⟩
    · have := ownsRow_sortedI (w := w) (base := base) (g := g) (cap := cap) (n := n) (os := os) (ss := A) (ts := A.mergeSort fun x y => decide (x ≤ y)) (by simp) h1 h2 h3 h4 h5
      exact this
    · exact grownBy_sortedI _
/-- slices.Compact at ints of an owned row. -/
theorem compI_any {w : World} {base : Nat} {v : Value} {A : List Int} (h : w.ownsRow base 3 1 v A.length (A.map icell)) (hA : A.length ≤ 140737488355328) :
    Calls Try.prog 42 #[v] w fun e w' => ∃ v', e = .returned v' ∧ w'.ownsRow base 3 1 v' (Lib.compact A).length ((Lib.compact A).map icell) ∧ w.grownBy w' v.ownBlock := by
  rcases own_of h with ⟨rfl, h1, h2⟩ | ⟨g, cap, cur, rfl, h1, h2, h3, h4, h5, h6⟩
  · have hA0 : A = [] := List.eq_nil_of_length_eq_zero h1
    subst hA0
    refine (Try.slices_Compact_int_empty none 0 w).mono ?_
    rintro e w' ⟨rfl, rfl⟩
    exact ⟨_, rfl, h, ⟨rfl, rfl, rfl, Nat.le_refl _, fun _ _ _ => rfl⟩⟩
  · rw [Nat.mul_one] at h6
    have ht : cur.toList.take A.length = A.map (Value.int .i64) := h6
    refine (Try.slices_Compact_int g 0 cap A w (holds_of_blockI h2 ht) (by omega) h3).mono ?_
    rintro e w' ⟨rfl, q, rfl⟩
    have hl : (Lib.compact A).length ≤ A.length := Lib.compact_length_le A
    have e1 : (Lib.compact A ++ List.replicate (A.length - (Lib.compact A).length) 0).length = A.length := by simp; omega
    have h0 := ownsRow_sortedI (w := w) (base := base) (g := g) (cap := cap) (n := q) (os := #[]) (ss := A) (ts := Lib.compact A ++ List.replicate (A.length - (Lib.compact A).length) 0) e1 h1 h2 h3 h4 h5
    have h0' := grownBy_sortedI (w := w) (g := g) (n := q) (os := #[]) (Lib.compact A ++ List.replicate (A.length - (Lib.compact A).length) 0).toArray
    have hg0 : ∀ x : World, Sort.grow x #[] = x := fun x => by simp [Sort.grow]
    rw [hg0] at h0 h0'
    refine ⟨_, rfl, ?_, h0'⟩
    rcases own_of h0 with ⟨a1, _⟩ | ⟨g', cap', cur', a1, a2, a3, a4, a5, a6, a7⟩
    · cases a1
    · injection a1 with a1 b1 c1
      injection a1 with a1
      injection a1 with a1
      subst a1 c1
      refine ⟨by simp, .inr ⟨g, cap, cur', rfl, a2, a3, by omega, a5, a6, ?_⟩⟩
      have := congrArg (List.take (Lib.compact A).length) a7
      rw [List.take_take] at this
      rw [Nat.mul_one]
      rw [show min (Lib.compact A).length (A.length * 1) = (Lib.compact A).length by omega] at this
      rw [this]
      simp [icell]
/-- Both, one behind the other: the list rises. -/
def uniq (A : List Int) : List Int := Lib.compact (A.mergeSort fun x y => decide (x ≤ y))
theorem uniq_spec (A : List Int) : (uniq A).Pairwise (· < ·) ∧ ∀ x, x ∈ uniq A ↔ x ∈ A := by
  have hp := List.pairwise_mergeSort (le := fun x y : Int => decide (x ≤ y)) (by intro a b c; simp; omega) (by intro a b; simp; omega) A
  have := compact_spec (A.mergeSort fun x y => decide (x ≤ y)) (hp.imp (by simp))
  exact ⟨this.1, fun x => (this.2 x).trans (List.mem_mergeSort)⟩
theorem rising_ext : ∀ {a b : List Int}, a.Pairwise (· < ·) → b.Pairwise (· < ·) → (∀ x, x ∈ a ↔ x ∈ b) → a = b
  | [], [], _, _, _ => rfl
  | [], y :: b, _, _, h => by have := (h y).2 (by simp); simp at this
  | x :: a, [], _, _, h => by have := (h x).1 (by simp); simp at this
  | x :: a, y :: b, ha, hb, h => by
    rw [List.pairwise_cons] at ha hb
    have hxy : x = y := by
      have h1 := (h x).1 (by simp)
      have h2 := (h y).2 (by simp)
      rcases List.mem_cons.1 h1 with e | e
      · exact e
      · rcases List.mem_cons.1 h2 with e2 | e2
        · exact e2.symm
        · have := hb.1 x e
          have := ha.1 y e2
          omega
    subst hxy
    rw [rising_ext ha.2 hb.2 (fun z => ?_)]
    constructor
    · intro hz
      have h1 := (h z).1 (List.mem_cons_of_mem _ hz)
      rcases List.mem_cons.1 h1 with e | e
      · have := ha.1 z hz; omega
      · exact e
    · intro hz
      have h1 := (h z).2 (List.mem_cons_of_mem _ hz)
      rcases List.mem_cons.1 h1 with e | e
      · have := hb.1 z hz; omega
      · exact e
end Go.Proofs.Ytffjdjbjkjefoaa
