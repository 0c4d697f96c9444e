/- What 'newest' tells: the newest write of the cache to a sector, or the lasting sector. -/
import Derived.Test.YtifoafiidplpiaaRep
import Derived.Deep.RegionHeld
namespace Go.Proofs.Ytifoafiidplpiaa
open Go.RowKit
set_option linter.unusedVariables false
set_option linter.unusedSimpArgs false

def Dv.newest (D : Dv) (i : Nat) : List UInt8 :=
  match D.W.reverse.find? (fun x => x.1 == i) with
  | some x => x.2
  | none => D.L.getD i []

def zeroSec : Array Value := (secCells zeros).toArray
def zeroEnt : Array Value := (entOf (0, zeros)).toArray
theorem Try.zero101 (w : World) : (zeroValue 101).run Try.prog w = .ok (.agg zeroSec) w := by kernel_rfl
theorem Try.zero116 (w : World) : (zeroValue 116).run Try.prog w = .ok (.agg zeroEnt) w := by kernel_rfl

/-- The newest write from place k on. -/
theorem newest_hit (D : Dv) (i k : Nat) (hk : k < D.W.length) (h : D.W[k].1 = i) (hn : ∀ j (hj : j < D.W.length), k < j → D.W[j].1 ≠ i) : D.newest i = D.W[k].2 := by
  unfold Dv.newest
  have : D.W.reverse.find? (fun x => x.1 == i) = some D.W[k] := by
    rw [List.find?_eq_some_iff_getElem]
    refine ⟨by simp [h], D.W.length - 1 - k, by simp; omega, ?_, ?_⟩
    · rw [List.getElem_reverse]
      congr 1
      omega
    · intro j hj
      rw [List.getElem_reverse]
      have := hn (D.W.length - 1 - j) (by omega) (by omega)
      simpa using this
  rw [this]
theorem newest_miss (D : Dv) (i : Nat) (hi : i < D.L.length) (hn : ∀ j (hj : j < D.W.length), D.W[j].1 ≠ i) : D.newest i = D.L[i] := by
  unfold Dv.newest
  have : D.W.reverse.find? (fun x => x.1 == i) = none := by
    rw [List.find?_eq_none]
    intro x hx
    obtain ⟨j, hj, rfl⟩ := List.getElem_of_mem (List.mem_reverse.1 hx)
    simpa using hn j hj
  rw [this]
  simp [hi]

set_option maxHeartbeats 400000 in
set_option maxRecDepth 100000 in
theorem newest_some (p : Nat) (i : Nat) (w : World) (fp : List Nat) (D : Dv) (lb lcap cb c : Nat) (h : DevIs w p fp D lb lcap (.slice (some ⟨cb, 0, none⟩) D.W.length c)) (hi : i < D.L.length) (hm : D.W.length < 1000000) :
    Calls Try.prog 54 #[.pointer (some ⟨p, 0, none⟩), .int .i64 (i : Int)] w fun e w' => e = .returned (.agg (secCells (D.newest i)).toArray) ∧ Below w.heap.size w w' := by
  have k1 := h.c1
  have z101 := Try.zero101
  have hp := h.lt
  go_enter Try.func54, Try.ntmps54
  go_wp2
  obtain ⟨w1, hw1⟩ : ∃ w1, w1 = w.alloc (.cells zeroSec 101) := ⟨_, rfl⟩
  rw [← hw1]
  have hb : Below w.heap.size w w1 := by rw [hw1]; exact (Below.refl _ _).alloc (Nat.le_refl _) _
  have hg : w1.heap[w.heap.size]? = some (.cells zeroSec 101 (0, 0)) := by rw [hw1]; exact heap_alloc_new w _
  have h1 := h.below hb
  clear hw1 h k1 hp z101
  have k1 := h1.c1
  have k0 := h1.c0
  go_loop [5] (fun t => ∃ k : Int, -1 ≤ k ∧ k < D.W.length ∧ t = .int .i64 k ∧ ∀ j (hj : j < D.W.length), k < j → D.W[j].1 ≠ i) (fun t => (intOf t + 1).toNat)
  case atStart => exact ⟨D.W.length - 1, by omega, by omega, rfl, fun j hj h => by omega⟩
  case round =>
    obtain ⟨k, hk0, hk, rfl, hn⟩ := hrel
    by_cases hlt : 0 ≤ k
    · obtain ⟨m, rfl⟩ := Int.eq_ofNat_of_zero_le hlt
      have hm2 : m < D.W.length := by omega
      have e0 := h1.entAt0 m hm2
      have H1 := hide (h1.entAt1 m hm2)
      have HN := hide hn
      clear hn
      by_cases hat : D.W[m].1 = i
      · have HA := hide hat
        have hat' : (((D.W[m].1 : Nat) : Int) == (i : Int)) = true := by simp [hat]
        clear hat
        have HL : Hid ((secCells D.W[m].2).length = 128) := by
          show _ = _
          rw [length_secCells]; exact (h1.wf.ent _ (List.getElem_mem hm2)).2
        go_wp2_with (first
          | (refine wpList_load_mid rfl 101 _ rfl cb (m * 129 + 1) rfl (secCells D.W[m].2) _ H1.out Try.underlying101 rfl (Try.size101 HL.out) ?_)
          | (refine wpList_store_row rfl 101 _ _ rfl w.heap.size (secCells D.W[m].2).toArray rfl rfl 101 zeroSec hg (Try.size101' HL.out) HL.out.symm (all_oneCell_toArray (one_secCells _)) ?_))
        have hg2 := setRow_heap w1 w.heap.size zeroSec (secCells D.W[m].2).toArray 101 (0, 0) hg
        refine bodyPost_ret (v := .agg (secCells D.W[m].2).toArray) (results_cell_row Try.results54 _ _ w.heap.size 101 _ (0, 0) _ rfl hg2 Try.underlying101 rfl (Try.size101' HL.out)) rfl ⟨?_, below_setRow hb (Nat.le_refl _) _⟩
        rw [newest_hit D i m hm2 HA.out (fun j hj hlt => HN.out j hj (by omega))]
      · have hat' : (((D.W[m].1 : Nat) : Int) == (i : Int)) = false := beq_eq_false_iff_ne.2 (by omega)
        have HA := hide hat
        clear hat
        go_wp2
        go_round
        case rel => exact ⟨(m : Int) - 1, by omega, by omega, by go_num, fun j hj hjm => by
          by_cases e : j = m
          · subst e; exact HA.out
          · exact HN.out j hj (by omega)⟩
        case measure => simp [intOf]
    · have HN := hide hn
      clear hn
      have H1 := hide (h1.secAt i hi)
      have HL : Hid ((secCells D.L[i]).length = 128) := by
        show _ = _
        rw [length_secCells]; exact h1.wf.sec _ (List.getElem_mem hi)
      go_wp2_with (first
          | (refine wpList_load_mid rfl 101 _ rfl lb (i * 128) rfl (secCells D.L[i]) _ H1.out Try.underlying101 rfl (Try.size101 HL.out) ?_)
          | (refine wpList_store_row rfl 101 _ _ rfl w.heap.size (secCells D.L[i]).toArray rfl rfl 101 zeroSec hg (Try.size101' HL.out) HL.out.symm (all_oneCell_toArray (one_secCells _)) ?_))
      have hg2 := setRow_heap w1 w.heap.size zeroSec (secCells D.L[i]).toArray 101 (0, 0) hg
      refine bodyPost_ret (v := .agg (secCells D.L[i]).toArray) (results_cell_row Try.results54 _ _ w.heap.size 101 _ (0, 0) _ rfl hg2 Try.underlying101 rfl (Try.size101' HL.out)) rfl ⟨?_, below_setRow hb (Nat.le_refl _) _⟩
      rw [newest_miss D i hi (fun j hj => HN.out j hj (by omega))]

set_option maxHeartbeats 400000 in
set_option maxRecDepth 100000 in
theorem newest_nil (p : Nat) (i : Nat) (w : World) (fp : List Nat) (D : Dv) (lb lcap : Nat) (h : DevIs w p fp D lb lcap (.slice none 0 0)) (hW : D.W = []) (hi : i < D.L.length) :
    Calls Try.prog 54 #[.pointer (some ⟨p, 0, none⟩), .int .i64 (i : Int)] w fun e w' => e = .returned (.agg (secCells (D.newest i)).toArray) ∧ Below w.heap.size w w' := by
  have HF := hide (newest_miss D i hi (fun j hj => by rw [hW] at hj; simp at hj))
  clear hW
  have k1 := h.c1
  have z101 := Try.zero101
  have hp := h.lt
  go_enter Try.func54, Try.ntmps54
  go_wp2
  obtain ⟨w1, hw1⟩ : ∃ w1, w1 = w.alloc (.cells zeroSec 101) := ⟨_, rfl⟩
  rw [← hw1]
  have hb : Below w.heap.size w w1 := by rw [hw1]; exact (Below.refl _ _).alloc (Nat.le_refl _) _
  have hg : w1.heap[w.heap.size]? = some (.cells zeroSec 101 (0, 0)) := by rw [hw1]; exact heap_alloc_new w _
  have h1 := h.below hb
  clear hw1 h k1 hp z101
  have k1 := h1.c1
  have k0 := h1.c0
  go_loop [5] (fun t => t = .int .i64 (-1)) (fun t => (intOf t + 1).toNat)
  case atStart => rfl
  case round =>
    subst hrel
    have H1 := hide (h1.secAt i hi)
    have HL : Hid ((secCells D.L[i]).length = 128) := by
      show _ = _
      rw [length_secCells]; exact h1.wf.sec _ (List.getElem_mem hi)
    go_wp2_with (first
        | (refine wpList_load_mid rfl 101 _ rfl lb (i * 128) rfl (secCells D.L[i]) _ H1.out Try.underlying101 rfl (Try.size101 HL.out) ?_)
        | (refine wpList_store_row rfl 101 _ _ rfl w.heap.size (secCells D.L[i]).toArray rfl rfl 101 zeroSec hg (Try.size101' HL.out) HL.out.symm (all_oneCell_toArray (one_secCells _)) ?_))
    have hg2 := setRow_heap w1 w.heap.size zeroSec (secCells D.L[i]).toArray 101 (0, 0) hg
    refine bodyPost_ret (v := .agg (secCells D.L[i]).toArray) (results_cell_row Try.results54 _ _ w.heap.size 101 _ (0, 0) _ rfl hg2 Try.underlying101 rfl (Try.size101' HL.out)) rfl ⟨?_, below_setRow hb (Nat.le_refl _) _⟩
    rw [HF.out]

theorem newest_any (p : Nat) (i : Nat) (w : World) (fp : List Nat) (D : Dv) (lb lcap : Nat) (cv : Value) (h : DevIs w p fp D lb lcap cv) (hi : i < D.L.length) (hm : D.W.length < 1000000) :
    Calls Try.prog 54 #[.pointer (some ⟨p, 0, none⟩), .int .i64 (i : Int)] w fun e w' => e = .returned (.agg (secCells (D.newest i)).toArray) ∧ Below w.heap.size w w' := by
  rcases h.form with ⟨rfl, hW⟩ | ⟨cb, c, rfl⟩
  · exact newest_nil p i w fp D lb lcap h hW hi
  · exact newest_some p i w fp D lb lcap cb c h hi hm
theorem length_newest (D : Dv) (h : D.wf) (i : Nat) (hi : i < D.L.length) : (D.newest i).length = 128 := by
  unfold Dv.newest
  split
  · rename_i x hx
    exact (h.ent x (List.mem_reverse.1 (List.mem_of_find?_eq_some hx))).2
  · simp only [List.getD_eq_getElem?_getD, List.getElem?_eq_getElem hi, Option.getD_some]
    exact h.sec _ (List.getElem_mem hi)
end Go.Proofs.Ytifoafiidplpiaa
