/- end: a record is written. -/
import Derived.Test.YtpjppolbkdnkaaaLosers
namespace Go.Proofs.Ytpjppolbkdnkaaa
open Go.RowKit
set_option linter.unusedVariables false
set_option linter.unusedSimpArgs false

def recRow (l : List Ln) : List Value := l.flatMap recCells
theorem Try.info32 : (Try.prog.info? 32).map (fun i => (i.zero, i.size, i.bytes)) = some (some (.agg (recCells Ln.zero).toArray), 11, 152) := by kernel_rfl
theorem owns_of_blockB {w w' : World} {base : Nat} {e : TypeId} {size : Nat} {v : Value} {n : Nat} {xs : List Value} (h : w.ownsRow base e size v n xs) (hb : ∀ k, v.ownBlock = some k → w'.heap[k]? = w.heap[k]?) : w'.ownsRow base e size v n xs := by
  refine ⟨h.1, ?_⟩
  rcases h.2 with hn | ⟨g, cap, cur, rfl, hb', hgg, rest⟩
  · exact .inl hn
  · exact .inr ⟨g, cap, cur, rfl, hb', by rw [hb g rfl]; exact hgg, rest⟩
theorem owns_base {w : World} {base : Nat} {e : TypeId} {size : Nat} {v : Value} {n : Nat} {xs : List Value} (h : w.ownsRow 0 e size v n xs) (hb : ∀ k, v.ownBlock = some k → base ≤ k) : w.ownsRow base e size v n xs := by
  refine ⟨h.1, ?_⟩
  rcases h.2 with hn | ⟨g, cap, cur, rfl, hb', rest⟩
  · exact .inl hn
  · exact .inr ⟨g, cap, cur, rfl, hb g rfl, rest⟩
/-- A restart that undoes: los: the heap's slice, wr: what is written. -/
structure UndoIs (w0 w : World) (R : Nat) (lg : Sv) (los wr : Value) (H : List Los) (O : List Ln) (K : List (Nat × Obj)) : Prop where
  head : w.heap[R]? = some (.cells #[.slice lg.a lg.n lg.c, .map none, .map none, .int .i64 0, .nilFunc, .map none, .slice none 0 0, los, wr] 72 (0, 0))
  heap : w.ownsRow w0.heap.size 110 2 los H.length (losRow H)
  rows : w.ownsRow w0.heap.size 32 11 wr O.length (recRow O)
  below : Below w0.heap.size w0 w
  r0 : w0.heap.size ≤ R
  n1 : los.ownBlock ≠ some R
  n2 : wr.ownBlock ≠ some R
  n3 : ∀ k, los.ownBlock = some k → wr.ownBlock ≠ some k
  keep : ∀ p ∈ K, w.heap[p.1]? = some p.2 ∧ p.1 ≠ R ∧ los.ownBlock ≠ some p.1 ∧ wr.ownBlock ≠ some p.1
section
variable {w0 w w' : World} {R : Nat} {lg : Sv} {los wr : Value} {H : List Los} {O : List Ln} {K : List (Nat × Obj)}
theorem UndoIs.lt (x : UndoIs w0 w R lg los wr H O K) : R < w.heap.size := (Array.getElem?_eq_some_iff.1 x.head).1
theorem UndoIs.c0 (x : UndoIs w0 w R lg los wr H O K) : w.cell? ⟨R, 0, none⟩ = some (.slice lg.a lg.n lg.c) := by rw [cell_of_row w R 0 _ _ _ x.head]; rfl
theorem UndoIs.c7 (x : UndoIs w0 w R lg los wr H O K) : w.cell? ⟨R, 7, none⟩ = some los := by rw [cell_of_row w R 7 _ _ _ x.head]; rfl
theorem UndoIs.c8 (x : UndoIs w0 w R lg los wr H O K) : w.cell? ⟨R, 8, none⟩ = some wr := by rw [cell_of_row w R 8 _ _ _ x.head]; rfl
theorem UndoIs.f8 (x : UndoIs w0 w R lg los wr H O K) : w.frozen? ⟨R, 8, none⟩ = false := frozen_of_row _ _ _ _ _ x.head
def endLn (id : Int) : Ln := { Ln.zero with kind := 6, txn := id }
/-- One more record is written. -/
theorem UndoIs.wrote (x : UndoIs w0 w R lg los wr H O K) (r : Ln) {v4 : Value} {w1 w4 : World} (hw1 : Off [] w w1) (r1 : w4.ownsRow w0.heap.size 32 11 v4 (O.length + 1) (recRow O ++ recCells r)) (r2 : w1.grownBy w4 wr.ownBlock)
    (r3 : ∀ k, v4.ownBlock = some k → wr.ownBlock = some k ∨ w1.heap.size ≤ k) :
    UndoIs w0 (w4.setCell ⟨R, 8, none⟩ v4) R lg los v4 H (O ++ [r]) K ∧ w4.cell? ⟨R, 8, none⟩ = some wr ∧ w4.frozen? ⟨R, 8, none⟩ = false := by
  have hsz := hw1.size
  have h1 : ∀ b, b < w.heap.size → wr.ownBlock ≠ some b → w4.heap[b]? = w.heap[b]? := fun b hb hn => (r2.block b (by omega) (fun e => hn e.symm)).trans (hw1.block b hb (by simp))
  have hhead := (h1 R x.lt x.n2).trans x.head
  have hR4 : v4.ownBlock ≠ some R := fun e => by
    rcases r3 R e with h | h
    · exact x.n2 h
    · have := x.lt; omega
  refine ⟨{ head := heap_setCell_same w4 R 8 _ 72 v4 hhead, heap := ?_, rows := ?_, below := ?_, r0 := x.r0, n1 := x.n1, n2 := hR4, n3 := ?_, keep := ?_ }, ?_, frozen_of_row _ _ _ _ _ hhead⟩
  · refine owns_of_blockB x.heap (fun k hk => ?_)
    exact (heap_setCell_other w4 _ k _ (fun e => x.n1 (by have e : k = R := e; rw [hk, e]))).trans (h1 k (x.heap.lt k hk).2 (x.n3 k hk))
  · have e1 : (O ++ [r]).length = O.length + 1 := by simp
    have e2 : recRow (O ++ [r]) = recRow O ++ recCells r := by simp [recRow]
    rw [e1, e2]
    exact owns_of_blockB r1 (fun k hk => heap_setCell_other w4 _ k _ (fun e => hR4 (by have e : k = R := e; rw [hk, e])))
  · have hO : Off (R :: wr.ownBlock.toList) w (w4.setCell ⟨R, 8, none⟩ v4) := ((((Off.refl _ w).trans hw1 (by simp)).grown r2 (fun k hk => .inl (by simp [hk])))).setCell _ _ (.inl (by simp))
    refine x.below.trans (hO.below x.below.size (fun k hk => ?_))
    rcases List.mem_cons.1 hk with h1 | h1
    · rw [h1]; exact x.r0
    · exact (x.rows.lt k (by simpa using h1)).1
  · intro k hk e
    rcases r3 k e with h | h
    · exact x.n3 k hk h
    · have := (x.heap.lt k hk).2; omega
  · intro p hp
    obtain ⟨k1, k2, k3, k4⟩ := x.keep p hp
    have hlt := (Array.getElem?_eq_some_iff.1 k1).1
    refine ⟨((heap_setCell_other w4 _ p.1 _ (by exact k2)).trans (h1 p.1 hlt k4)).trans k1, k2, k3, fun e => ?_⟩
    rcases r3 p.1 e with h | h
    · exact k4 h
    · omega
  · rw [cell_of_row w4 R 8 _ _ _ hhead]; rfl
theorem Try.buildRec6 (id : Int) (w : World) : (Instr.buildSlice 58 1 #[(0, .agg (recCells (endLn id)).toArray)]).run Try.prog w = .ok (.slice (some ⟨w.heap.size, 0, none⟩) 1 1) (w.alloc (.cells (recCells (endLn id)).toArray 32)) := by kernel_rfl
set_option maxHeartbeats 2000000 in
set_option maxRecDepth 100000 in
theorem end_any (x : UndoIs w0 w R lg los wr H O K) (id : Int) (hO : O.length ≤ 100000) :
    Calls Try.prog 50 #[.pointer (some ⟨R, 0, none⟩), .int .i64 id] w fun e w' => e = .returned (.tuple #[]) ∧ ∃ wr', UndoIs w0 w' R lg los wr' H (O ++ [endLn id]) K := by
  obtain ⟨ao, mo, co, hwr⟩ := own_form (owns_zero x.rows)
  subst hwr
  have HX := hide x
  have c8 := x.c8
  have hrow := x.rows
  have hsz := x.below.size
  clear x
  go_enter Try.func50, Try.ntmps50
  go_wp2_with (refine wpList_append_owned (by rfl) _ _ 58 (by rfl) 32 (.agg (recCells Ln.zero).toArray) 11 152 Try.underlying58 Try.info32 rfl (by omega) _ _ _ (by rfl) (owns_zero (hrow.alloc _)) ⟨w.heap.size, 0, none⟩ 1 1 (recCells (endLn id)) (by rfl) (by rfl) (src_of_block (heap_alloc_new _ _)) (by simp [recCells, Value.oneCell']) (by simp only [maxLen]; omega) (by omega) (fun v4 w4 r1 r2 r3 => ?_)
               obtain ⟨hI, hc8, hf8⟩ := HX.out.wrote (endLn id) ((Off.refl [] w).alloc _) (owns_base r1 (fun k hk => by
                 rcases r3 k hk with h | h
                 · exact (hrow.lt k h).1
                 · simp at h; omega)) r2 r3
               obtain ⟨a4, m4, k4, rfl⟩ := own_form r1
               have HI := hide hI
               clear hI
               go_frame)
  go_end0
  exact ⟨rfl, _, HI.out⟩
end
end Go.Proofs.Ytpjppolbkdnkaaa
