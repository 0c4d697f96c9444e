/- What Read does: a dead device, no such sector, or the sector's newest bytes in new memory. -/
import Derived.Test.YtifoafiidplpiaaNewest
namespace Go.Proofs.Ytifoafiidplpiaa
open Go.RowKit
set_option linter.unusedVariables false
set_option linter.unusedSimpArgs false

set_option maxHeartbeats 400000 in
theorem read_dead (p : Nat) (i : Int) (w : World) (fp : List Nat) (D : Dv) (h : DevAt w p fp D) (hd : D.dead = true) :
    Calls Try.prog 45 #[.pointer (some ⟨p, 0, none⟩), .int .i64 i] w fun e w' => e = .returned (.tuple #[.slice none 0 0, .int .i64 50]) ∧ w' = w := by
  obtain ⟨lb, lcap, cv, h⟩ := h
  have k3 := h.c3
  rw [hd] at k3
  go_enter Try.func45, Try.ntmps45
  go_wp2
  go_ret2
  exact ⟨rfl, rfl⟩

set_option maxHeartbeats 400000 in
theorem read_arg (p : Nat) (i : Int) (w : World) (fp : List Nat) (D : Dv) (h : DevAt w p fp D) (hd : D.dead = false) (hi : i < 0 ∨ (D.L.length : Int) ≤ i) :
    Calls Try.prog 45 #[.pointer (some ⟨p, 0, none⟩), .int .i64 i] w fun e w' => e = .returned (.tuple #[.slice none 0 0, .int .i64 1]) ∧ w' = w := by
  obtain ⟨lb, lcap, cv, h⟩ := h
  have k3 := h.c3
  rw [hd] at k3
  have hn := has_no p i w _ _ _ h.c0 hi
  have HN := hide hn
  clear hn hi
  go_enter Try.func45, Try.ntmps45
  go_wp2_with (go_at_call 53; refine HN.out.mono ?_; rintro e w' ⟨rfl, rfl⟩)
  go_ret2
  exact ⟨rfl, rfl⟩

set_option maxHeartbeats 400000 in
set_option maxRecDepth 100000 in
theorem read_ok (p : Nat) (i : Nat) (w : World) (fp : List Nat) (D : Dv) (h : DevAt w p fp D) (hd : D.dead = false) (hi : i < D.L.length) (hm : D.W.length < 1000000) :
    Calls Try.prog 45 #[.pointer (some ⟨p, 0, none⟩), .int .i64 (i : Int)] w fun e w' => ∃ g, e = .returned (.tuple #[.slice (some ⟨g, 0, none⟩) 128 128, .int .i64 0]) ∧ w.heap.size ≤ g ∧
      w'.heap[g]? = some (.cells (secCells (D.newest i)).toArray 5 (0, 0)) ∧ DevAt w' p fp { D with calls := wrap64 (D.calls + 1) } ∧ Off fp w w' := by
  obtain ⟨lb, lcap, cv, h⟩ := h
  have k3 := h.c3
  rw [hd] at k3
  clear hd
  have k4 := h.c4
  have f4 := h.fz 4
  have HN := hide (has_yes p i w _ _ _ h.c0 (by omega) (by omega))
  have hwf1 : Dv.wf { D with calls := wrap64 (D.calls + 1) } := ⟨h.wf.pos, h.wf.max, h.wf.sec, h.wf.ent, h.wf.lo, h.wf.hi⟩
  have h1 := h.heads 4 (.int .i64 (wrap64 (D.calls + 1))) { D with calls := wrap64 (D.calls + 1) } rfl rfl hwf1 rfl
  have HC := hide (newest_any p i _ fp _ lb lcap cv h1 hi hm)
  have HL : Hid ((secCells (D.newest i)).length = 128) := by
    show _ = _
    rw [length_secCells]; exact length_newest D h.wf i hi
  go_enter Try.func45, Try.ntmps45
  go_wp2_with (first | (go_at_call 53; refine HN.out.mono ?_; rintro e w' ⟨rfl, hw⟩; have hw := hw.symm; subst hw) | fail)
  refine HC.out.mono ?_
  rintro e w2 ⟨rfl, hb⟩
  have hO : Off fp w w2 := ((Off.refl fp w).setCell _ _ (.inl h.inP)).trans (Off.of_below hb []) (by simp)
  have h2 := h1.below hb
  have hs2 : w.heap.size ≤ w2.heap.size := hO.size
  clear HC HN k3 k4 f4 h1 h hb
  have z101 := Try.zero101
  have hmk := make128
  have hX : ((w2.alloc (.cells zeroSec 101)).setRow w2.heap.size (secCells (D.newest i)).toArray).heap[w2.heap.size]? = some (.cells (secCells (D.newest i)).toArray 101 (0, 0)) := setRow_heap _ _ _ _ _ _ (heap_alloc_new _ _)
  have hsz : ((w2.alloc (.cells zeroSec 101)).setRow w2.heap.size (secCells (D.newest i)).toArray).heap.size = w2.heap.size + 1 := by simp
  have FX := hide ((Below.heap_alloc ((w2.alloc (.cells zeroSec 101)).setRow w2.heap.size (secCells (D.newest i)).toArray) (.cells (secPart 0 0 0) 5) w2.heap.size (by omega)).trans hX)
  have FG : Hid ((((w2.alloc (.cells zeroSec 101)).setRow w2.heap.size (secCells (D.newest i)).toArray).alloc (.cells (secPart 0 0 0) 5)).heap[w2.heap.size + 1]? = some (.cells (secPart 0 0 0) 5 (0, 0))) := by
    show _ = _
    rw [← hsz]; exact heap_alloc_new _ _
  clear hX hsz
  go_wp2_with (first
     | (refine wpList_store_row rfl 101 _ _ rfl w2.heap.size (secCells (D.newest i)).toArray rfl rfl 101 zeroSec (heap_alloc_new _ _) (Try.size101' HL.out) HL.out.symm (all_oneCell_toArray (one_secCells _)) ?_)
     | (refine wpList_copy_own rfl _ _ 37 37 rfl 5 Try.underlying37 (by kernel_rfl) (w2.heap.size + 1) 0 128 128 ⟨w2.heap.size, 0, none⟩ 128 128 rfl rfl (secPart 0 0 0) 5 FG.out (secCells (D.newest i)) HL.out (src_of_block FX.out) (by rw [HL.out, size_secPart]; omega) (one_secCells _) ?_))
  have hdrop : List.drop (secCells (D.newest i)).length (secPart 0 0 0).toList = [] := by
    rw [HL.out]
    apply List.drop_of_length_le
    rw [Array.length_toList, size_secPart]
    omega
  rw [hdrop, List.append_nil]
  have hb : Below w2.heap.size w2 ((((w2.alloc (.cells zeroSec 101)).setRow w2.heap.size (secCells (D.newest i)).toArray).alloc (.cells (secPart 0 0 0) 5)).setRow (w2.heap.size + 1) (secCells (D.newest i)).toArray) :=
    below_setRow ((below_setRow ((Below.refl _ _).alloc (Nat.le_refl _) _) (Nat.le_refl _) _).alloc (by simp) _) (by omega) _
  go_ret2
  exact ⟨w2.heap.size + 1, rfl, by omega, setRow_heap _ _ _ _ _ _ FG.out, ⟨lb, lcap, cv, h2.below hb⟩, hO.trans (Off.of_below hb []) (by simp)⟩
end Go.Proofs.Ytifoafiidplpiaa
