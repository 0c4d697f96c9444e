/- A mode stored into a row of the document's table. -/
import Derived.Test.YtffjdjbjkjefoaaTbt
namespace Go.Proofs.Ytffjdjbjkjefoaa
open Go.RowKit Go.WideAt
set_option linter.unusedVariables false
set_option linter.unusedSimpArgs false

theorem flatH_app (a b : List Ht) : flatH (a ++ b) = flatH a ++ flatH b := by unfold flatH; rw [List.flatMap_append]
theorem flatH_cons (x : Ht) (L : List Ht) : flatH (x :: L) = .int .i64 x.1 :: scell x.2.1 :: .int .i64 x.2.2 :: flatH L := rfl
theorem flatH_set : ∀ (hs : List Ht) (k : Nat) (x : Ht) (md : Int), hs[k]? = some x → (flatH hs).set (k * 3 + 2) (.int .i64 md) = flatH (hs.set k (x.1, x.2.1, md))
  | [], k, x, md, h => by simp at h
  | y :: L, 0, x, md, h => by
    have : y = x := by simpa using h
    subst this
    rw [List.set_cons_zero, flatH_cons, flatH_cons]
    rfl
  | y :: L, k + 1, x, md, h => by
    rw [List.set_cons_succ, flatH_cons, flatH_cons, show (k + 1) * 3 + 2 = k * 3 + 2 + 1 + 1 + 1 by omega, List.set_cons_succ, List.set_cons_succ, List.set_cons_succ, flatH_set L k x md (by simpa using h)]
theorem own_mode {w : World} {base g c n : Nat} {hs : List Ht} (h : w.ownsRow base 81 3 (.slice (some ⟨g, 0, none⟩) n c) n (flatH hs)) {k : Nat} {x : Ht} (hx : hs[k]? = some x) (hk : k < n) (md : Int) :
    w.frozen? ⟨g, k * 3 + 2, none⟩ = false ∧ (w.setCell ⟨g, k * 3 + 2, none⟩ (.int .i64 md)).ownsRow base 81 3 (.slice (some ⟨g, 0, none⟩) n c) n (flatH (hs.set k (x.1, x.2.1, md))) ∧ w.grownBy (w.setCell ⟨g, k * 3 + 2, none⟩ (.int .i64 md)) (some g) := by
  rcases own_of h with ⟨e, _, _⟩ | ⟨g', cap, cur, e, h1, h2, h3, h4, h5, h6⟩
  · cases e
  · injection e with e1 e2 e3
    injection e1 with e1
    injection e1 with e1
    subst e1 e3
    refine ⟨frozen_row h2, ⟨?_, .inr ⟨g, c, _, rfl, h1, heap_set_same _ h2, h3, h4, by rw [Array.size_setIfInBounds]; exact h5, ?_⟩⟩, ⟨rfl, rfl, rfl, by simp [World.setCell], fun j hj hne => Below.heap_setCell _ _ _ _ (fun e => hne (by rw [e]))⟩⟩
    · rw [flatH_len, List.length_set, ← flatH_len]
      exact h.1
    · rw [← flatH_set hs k x md hx, Array.toList_setIfInBounds, List.take_set, h6]
end Go.Proofs.Ytffjdjbjkjefoaa
