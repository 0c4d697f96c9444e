/- losers: Len, Less. -/
import Derived.Test.YtpjppolbkdnkaaaHeap
import Derived.Deep.QuietTactic
import Derived.BigQuiet
namespace Go.Proofs.Ytpjppolbkdnkaaa
open Go.RowKit
set_option linter.unusedVariables false
set_option linter.unusedSimpArgs false

structure Los where
  id : Int
  next : Int
def losCells (x : Los) : List Value := [.int .i64 x.id, .int .i64 x.next]
def losRow (l : List Los) : List Value := l.flatMap losCells
def Los.less (x y : Los) : Bool := if x.next = y.next then decide (x.id < y.id) else decide (x.next > y.next)
theorem losRow_get (l : List Los) (i : Nat) (x : Los) (h : l[i]? = some x) : (losRow l)[i * 2]? = some (.int .i64 x.id) ∧ (losRow l)[i * 2 + 1]? = some (.int .i64 x.next) := by
  obtain ⟨hi, rfl⟩ := List.getElem?_eq_some_iff.1 h
  have hl : ∀ y ∈ l.map losCells, y.length = 2 := fun y hy => by obtain ⟨z, _, rfl⟩ := List.mem_map.1 hy; rfl
  have h0 := flat_get 2 (l.map losCells) hl i (by rw [List.length_map]; exact hi) 0 (by omega)
  have h1 := flat_get 2 (l.map losCells) hl i (by rw [List.length_map]; exact hi) 1 (by omega)
  unfold losRow
  rw [List.flatMap_def]
  rw [Nat.add_zero] at h0
  rw [h0, h1, List.getElem_map]
  exact ⟨rfl, rfl⟩
/-- The row of a heap's slice. -/
theorem los_cells {w : World} {base : Nat} {g c : Nat} {l : List Los} (h : w.ownsRow base 110 2 (.slice (some ⟨g, 0, none⟩) l.length c) l.length (losRow l)) (i : Nat) (x : Los) (hx : l[i]? = some x) :
    w.cell? ⟨g, i * 2, none⟩ = some (.int .i64 x.id) ∧ w.cell? ⟨g, i * 2 + 1, none⟩ = some (.int .i64 x.next) := by
  have hi := (List.getElem?_eq_some_iff.1 hx).1
  obtain ⟨g', c', cur, e, _, hg, _, _, _, ht⟩ := own_some h (by omega)
  injection e with e1 e2 e3
  injection e1 with e1
  injection e1 with e1 _
  subst e1
  obtain ⟨a1, a2⟩ := losRow_get l i x hx
  rw [← ht, List.getElem?_take, if_pos (by omega)] at a1
  rw [← ht, List.getElem?_take, if_pos (by omega)] at a2
  exact ⟨by rw [cell_of_row _ _ _ _ _ _ hg]; simpa using a1, by rw [cell_of_row _ _ _ _ _ _ hg]; simpa using a2⟩
theorem len_los (a : Option Addr) (n c : Nat) (w : World) : Calls Try.prog 114 #[.slice a n c] w fun e w' => e = .returned (.int .i64 n) ∧ w' = w := by
  go_enter Try.func114, Try.ntmps114
  go_wp2
  go_ret
  exact ⟨rfl, rfl⟩
set_option maxHeartbeats 2000000 in
set_option maxRecDepth 100000 in
theorem less_los {w : World} {base : Nat} {g c : Nat} {l : List Los} (h : w.ownsRow base 110 2 (.slice (some ⟨g, 0, none⟩) l.length c) l.length (losRow l)) (i j : Nat) (x y : Los) (hx : l[i]? = some x) (hy : l[j]? = some y) :
    Calls Try.prog 115 #[.slice (some ⟨g, 0, none⟩) l.length c, .int .i64 i, .int .i64 j] w fun e w' => e = .returned (.bool (x.less y)) ∧ Below w.heap.size w w' := by
  obtain ⟨a0, a1⟩ := los_cells h i x hx
  obtain ⟨b0, b1⟩ := los_cells h j y hy
  have hi := (List.getElem?_eq_some_iff.1 hx).1
  have hj := (List.getElem?_eq_some_iff.1 hy).1
  obtain ⟨n, hn⟩ : ∃ n, l.length = n := ⟨_, rfl⟩
  rw [hn] at hi hj ⊢
  clear h hx hy hn
  by_cases hxy : x.next = y.next
  · have hl : x.less y = decide (x.id < y.id) := by unfold Los.less; rw [if_pos hxy]
    rw [hl]
    have hq : (x.next != y.next) = false := by simp [hxy]
    go_enter Try.func115, Try.ntmps115
    go_wp2
    go_quiet (fail)
    go_wp2
    go_quiet (fail)
    go_wp2
    go_ret
    exact ⟨rfl, (below_drewN _ _ _).trans (below_drewN _ _ _)⟩
  · have hl : x.less y = decide (x.next > y.next) := by unfold Los.less; rw [if_neg hxy]
    rw [hl]
    have hq : (x.next != y.next) = true := by simp [hxy]
    go_enter Try.func115, Try.ntmps115
    go_wp2
    go_quiet (fail)
    go_wp2
    go_quiet (fail)
    go_wp2
    go_ret
    exact ⟨rfl, (below_drewN _ _ _).trans (below_drewN _ _ _)⟩
end Go.Proofs.Ytpjppolbkdnkaaa
