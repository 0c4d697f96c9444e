/- losers.Swap where both are the first. -/
import Derived.Test.YtpjppolbkdnkaaaDown
namespace Go.Proofs.Ytpjppolbkdnkaaa
open Go.RowKit
set_option linter.unusedVariables false
set_option linter.unusedSimpArgs false

theorem set_same (cs : Array Value) (i : Nat) (v : Value) (h : cs[i]? = some v) : cs.setIfInBounds i v = cs := by
  apply Array.ext_getElem?
  intro j
  rw [Array.getElem?_setIfInBounds]
  split
  · rename_i e
    subst e
    have := (Array.getElem?_eq_some_iff.1 h).1
    rw [if_pos this, h]
  · rfl
/-- A store of what a cell holds already. -/
theorem setCell_same_below {w : World} {g i : Nat} {cur : Array Value} {t : TypeId} {v : Value} (hg : w.heap[g]? = some (.cells cur t (0, 0))) (hc : cur[i]? = some v) : Below w.heap.size w (w.setCell ⟨g, i, none⟩ v) ∧ (w.setCell ⟨g, i, none⟩ v).heap[g]? = some (.cells cur t (0, 0)) := by
  have h1 : (w.setCell ⟨g, i, none⟩ v).heap[g]? = some (.cells cur t (0, 0)) := by
    rw [heap_setCell_same w g i cur t v hg, set_same cur i v hc]
  have hO : Off [g] w (w.setCell ⟨g, i, none⟩ v) := (Off.refl [g] w).setCell _ _ (.inl (by simp))
  refine ⟨⟨hO.os, hO.tape, hO.output, hO.size, fun k hk => ?_⟩, h1⟩
  by_cases e : k = g
  · rw [e, h1, hg]
  · exact hO.block k hk (by simpa using e)
set_option maxHeartbeats 2000000 in
set_option maxRecDepth 100000 in
theorem swap_first (g n c : Nat) (x : Los) (w : World) (hn : 0 < n) (cur : Array Value) (hg : w.heap[g]? = some (.cells cur 110 (0, 0))) (h0 : cur[0]? = some (.int .i64 x.id)) (h1 : cur[1]? = some (.int .i64 x.next)) :
    Calls Try.prog 116 #[.slice (some ⟨g, 0, none⟩) n c, .int .i64 0, .int .i64 0] w fun e w' => e = .returned (.tuple #[]) ∧ Below w.heap.size w w' := by
  have c0 : w.cell? ⟨g, 0, none⟩ = some (.int .i64 x.id) := by rw [cell_of_row _ _ _ _ _ _ hg]; exact h0
  have c1 : w.cell? ⟨g, 1, none⟩ = some (.int .i64 x.next) := by rw [cell_of_row _ _ _ _ _ _ hg]; exact h1
  have f0 : w.frozen? ⟨g, 0, none⟩ = false := frozen_of_row _ _ _ _ _ hg
  have f1 : w.frozen? ⟨g, 1, none⟩ = false := frozen_of_row _ _ _ _ _ hg
  have HG := hide (And.intro hg (And.intro h0 h1))
  clear hg h0 h1
  have hni : (0 : Int) < (n : Int) := by omega
  go_enter Try.func116, Try.ntmps116
  go_wp2
  go_region
  refine bodyPost_end (results_none rfl _ _ _) rfl ?_
  obtain ⟨hg, h0, h1⟩ := HG.out
  obtain ⟨b1, g1⟩ := setCell_same_below hg h0
  obtain ⟨b2, g2⟩ := setCell_same_below g1 h1
  obtain ⟨b3, g3⟩ := setCell_same_below g2 h0
  obtain ⟨b4, g4⟩ := setCell_same_below g3 h1
  refine ⟨rfl, ?_⟩
  exact (((b1.trans (b2.mono b1.size)).trans (b3.mono (b1.trans (b2.mono b1.size)).size)).trans (b4.mono ((b1.trans (b2.mono b1.size)).trans (b3.mono (b1.trans (b2.mono b1.size)).size)).size)).trans (below_drewN _ _ 1)
end Go.Proofs.Ytpjppolbkdnkaaa
