/- A row of wants that is sorted by names. -/
import Derived.Test.YtffjdjbjkjefoaaCmp
import Derived.Test.YtffjdjbjkjefoaaSrt
import Derived.Test.YtffjdjbjkjefoaaLic
namespace Go.Proofs.Ytffjdjbjkjefoaa
open Go.RowKit Go.WideAt
set_option linter.unusedVariables false
set_option linter.unusedSimpArgs false

theorem flat_get {α : Type} (m : Nat) : ∀ (X : List (List α)) (_ : ∀ x ∈ X, x.length = m) (i : Nat) (hi : i < X.length) (j : Nat) (_ : j < m), X.flatten[i * m + j]? = X[i][j]?
  | [], _, i, hi, _, _ => by simp at hi
  | x :: r, h, 0, _, j, hj => by
    rw [List.flatten_cons, Nat.zero_mul, Nat.zero_add, List.getElem?_append_left (by rw [h x (by simp)]; exact hj)]
    rfl
  | x :: r, h, i + 1, hi, j, hj => by
    have hx : x.length = m := h x (by simp)
    rw [List.flatten_cons, List.getElem?_append_right (by rw [hx, Nat.add_mul]; omega), hx, show (i + 1) * m + j - m = i * m + j by rw [Nat.add_mul]; omega,
      flat_get m r (fun y hy => h y (by simp [hy])) i (by simpa using hi) j hj]
    rfl
def flatW (l : List (List UInt8 × Int)) : List Value := l.flatMap encW
theorem flatW_len (l : List (List UInt8 × Int)) : (flatW l).length = l.length * 2 := by
  induction l with
  | nil => rfl
  | cons x l ih =>
    show (encW x ++ flatW l).length = _
    rw [List.length_append, ih]
    simp
    omega
theorem flatW_get (l : List (List UInt8 × Int)) (j : Nat) (hj : j < l.length * 2) : (flatW l)[j]? = some ((Go.Sort.flatK encW 2 l.toArray)[j]!) := by
  rw [Go.Sort.get_flatK _ _ _ _ (by simpa using hj)]
  have := flat_get 2 (l.map encW) (fun x hx => by obtain ⟨y, _, rfl⟩ := List.mem_map.1 hx; rfl) (j / 2) (by rw [List.length_map]; omega) (j % 2) (by omega)
  rw [show j / 2 * 2 + j % 2 = j by omega] at this
  unfold flatW
  rw [List.flatMap_def, this, List.getElem_map, getElem!_pos l.toArray (j / 2) (by simp; omega), List.getElem_toArray]
  have h2 : j % 2 = 0 ∨ j % 2 = 1 := by omega
  rcases h2 with h2 | h2 <;> rw [h2] <;> rfl
theorem flatK_list (l : List (List UInt8 × Int)) : (Go.Sort.flatK encW 2 l.toArray).toList = flatW l := by
  apply List.ext_getElem?
  intro j
  by_cases hj : j < l.length * 2
  · rw [flatW_get l j hj, Array.getElem?_toList, getElem!_pos _ j (by simpa using hj), Array.getElem?_eq_getElem (by simpa using hj)]
  · rw [List.getElem?_eq_none (by simpa using hj), List.getElem?_eq_none (by rw [flatW_len]; omega)]
theorem holdsW {w : World} {g : Nat} {cur : Array Value} {e : TypeId} {l : List (List UInt8 × Int)} (hg : w.heap[g]? = some (.cells cur e (0, 0))) (ht : cur.toList.take (l.length * 2) = flatW l) : Go.Sort.HoldsK encW 2 w g 0 l.toArray := by
  intro j hj
  rw [Go.Sort.size_flatK] at hj
  have hj' : j < l.length * 2 := by simpa using hj
  have e := flatW_get l j hj'
  refine ⟨?_, frozen_row hg⟩
  rw [Nat.zero_add, cell_row hg]
  rw [← ht, List.getElem?_take, if_pos hj'] at e
  simpa using e
theorem ltW (x y : List UInt8 × Int) : ltOf (fun x y : List UInt8 × Int => cmpS x.1 y.1) x y = blt x.1 y.1 := by
  show decide (cmpS x.1 y.1 < 0) = blt x.1 y.1
  unfold cmpS
  by_cases h1 : blt x.1 y.1 = true
  · rw [if_pos h1, h1]; rfl
  · rw [if_neg h1]
    have h1' : blt x.1 y.1 = false := by simpa using h1
    rw [h1']
    by_cases h2 : blt y.1 x.1 = true
    · rw [if_pos h2]; rfl
    · rw [if_neg h2]; rfl
theorem swoW : Go.Sort.SWO (ltOf fun x y : List UInt8 × Int => cmpS x.1 y.1) := by
  refine ⟨fun x => by rw [ltW]; exact blt_irrefl _, fun x y z h1 h2 => ?_, fun x y z h1 h2 => ?_⟩
  · rw [ltW] at h1 h2 ⊢; exact blt_trans h1 h2
  · rw [ltW] at h1 h2 ⊢
    cases h : blt x.1 z.1 with
    | false => rfl
    | true =>
      by_cases e : x.1 = y.1
      · rw [e] at h; rw [h] at h2; cases h2
      · cases h3 : blt y.1 x.1 with
        | true => have := blt_trans h3 h; rw [this] at h2; cases h2
        | false => exact absurd (blt_total h1 h3) e
/-- slices.SortFunc of an owned row of wants. -/
theorem sortW_any {w : World} {base : Nat} {v : Value} {L : List (List UInt8 × Int)} (h : w.ownsRow base 31 2 v L.length (flatW L)) (hL : L.length ≤ 140737488355328) (hne : L ≠ []) :
    Calls Try.prog 31 #[v, .func (.func 32) #[] #[]] w fun e w' => e = .returned (.tuple #[]) ∧ ∃ L' : List (List UInt8 × Int), L'.Perm L ∧ L'.Pairwise (fun x y => blt y.1 x.1 = false) ∧ w'.ownsRow base 31 2 v L'.length (flatW L') ∧ w.grownBy w' v.ownBlock := by
  rcases own_of h with ⟨rfl, h1, h2⟩ | ⟨g, cap, cur, rfl, h1, h2, h3, h4, h5, h6⟩
  · exact absurd (List.eq_nil_of_length_eq_zero h1) hne
  · have eg : ∀ args w, (callFunc 32 args).run Try.prog w = .ok (.enter 32 args) w := Try.enters32
    have hcmp : CmpLays Try.prog 32 #[] encW 2 (fun x y => cmpS x.1 y.1) g 0 L.toArray.size w := fun _ _ _ _ x y => lessW_any x y _
    have hcon := AnyQ.slices_SortFunc Try.sortW 2 Try.isAgg31 Try.sizeOf31 encW (fun _ => rfl) (fun x v hv => by simp [encW] at hv; rcases hv with rfl | rfl <;> rfl) (fun x y => cmpS x.1 y.1) swoW 32 #[] g 0 cap L.toArray w eg hcmp (holdsW h2 h6) (lt_of_heap h2) (by simp; omega)
    change Calls Try.prog 31 #[.slice (some ⟨g, 0, none⟩) L.length cap, _] _ _ at hcon
    refine hcon.mono ?_
    rintro e w' ⟨rfl, d', n, os, hp, hs, rfl⟩
    obtain ⟨hp1, hp2, hp3⟩ := hp
    have hsz : d'.size = L.length := by simpa using hp1
    refine ⟨rfl, d'.toList, ?_, ?_, ?_, ?_⟩
    · have e1 : d'.extract 0 L.toArray.size = d' := by rw [← hp1]; simp
      have e2 : L.toArray.extract 0 L.toArray.size = L.toArray := by simp
      rw [e1, e2] at hp3
      simpa using hp3
    · rw [List.pairwise_iff_getElem]
      intro i j hi hj hij
      have := hs i j (Nat.zero_le _) hij (by rw [← hp1]; simpa using hj)
      rw [ltW, getElem!_pos d' j (by simpa using hj), getElem!_pos d' i (by simpa using hi)] at this
      simpa using this
    · have hgl : g < w.heap.size := lt_of_heap h2
      have hb : (sortWorldK encW 2 w g 0 n d' os).heap[g]? = some (.cells (Go.Sort.putCells id 0 (Go.Sort.flatK encW 2 d') cur) 31 (0, 0)) := by
        unfold sortWorldK
        rw [Go.Sort.heap_grow_old _ _ (by simpa [Go.Sort.putRowK, Go.Sort.putRow, Go.Sort.mapBlock, Go.Sort.ahead] using hgl)]
        simp [Go.Sort.putRowK, Go.Sort.putRow, Go.Sort.mapBlock, Go.Sort.ahead, Array.getElem?_modify, h2, Go.Sort.onCells]
      have hlen : (Go.Sort.flatK encW 2 d').size = L.length * 2 := by rw [Go.Sort.size_flatK, hsz]
      rw [show d'.toList.length = L.length by simpa using hsz]
      refine ⟨by rw [flatW_len]; simp [hsz], .inr ⟨g, cap, _, rfl, h1, hb, h3, h4, by simp [Go.Sort.putCells, h5], ?_⟩⟩
      have e1 : flatW d'.toList = (Go.Sort.flatK encW 2 d').toList := by rw [← flatK_list]
      rw [e1]
      apply List.ext_getElem?
      intro j
      have hcap : L.length * 2 ≤ cur.size := by rw [h5]; omega
      by_cases hj : j < L.length * 2
      · rw [List.getElem?_take_of_lt hj, Array.getElem?_toList, Array.getElem?_toList]
        simp [Go.Sort.putCells, hlen, hj, show j < cur.size by omega, show j < (Go.Sort.flatK encW 2 d').size by omega]
      · rw [List.getElem?_take_eq_none (by omega), List.getElem?_eq_none (by rw [Array.length_toList, hlen]; omega)]
    · refine ⟨rfl, rfl, rfl, by simp [sortWorldK, Go.Sort.grow, Go.Sort.putRowK, Go.Sort.putRow, Go.Sort.mapBlock, Go.Sort.ahead], fun k hk hn => ?_⟩
      have hne' : ¬ g = k := fun e => hn (by rw [e]; rfl)
      simp [sortWorldK, Go.Sort.grow, Go.Sort.putRowK, Go.Sort.putRow, Go.Sort.mapBlock, Go.Sort.ahead, Array.getElem?_append, hk, Array.getElem_modify, hne']
end Go.Proofs.Ytffjdjbjkjefoaa
