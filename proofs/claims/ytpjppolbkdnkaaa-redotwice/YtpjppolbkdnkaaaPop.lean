/- losers.Pop and heap.Pop where there is one element. -/
import Derived.Test.YtpjppolbkdnkaaaSwap
namespace Go.Proofs.Ytpjppolbkdnkaaa
open Go.RowKit
set_option linter.unusedVariables false
set_option linter.unusedSimpArgs false

section
variable {w0 w w' : World} {R : Nat} {lg : Sv} {los wr : Value} {H : List Los} {O : List Ln} {K : List (Nat × Obj)}
theorem UndoIs.f7 (x : UndoIs w0 w R lg los wr H O K) : w.frozen? ⟨R, 7, none⟩ = false := frozen_of_row _ _ _ _ _ x.head
theorem UndoIs.stayD (x : UndoIs w0 w R lg los wr H O K) (hb : Below w.heap.size w w') : UndoIs w0 w' R lg los wr H O K :=
  { x with head := (hb.block R x.lt).trans x.head, heap := owns_of_blockB x.heap (fun k hk => hb.block k (x.heap.lt k hk).2), rows := owns_of_blockB x.rows (fun k hk => hb.block k (x.rows.lt k hk).2), below := x.below.trans (hb.mono x.below.size), keep := fun p hp => ⟨(hb.block p.1 (Array.getElem?_eq_some_iff.1 (x.keep p hp).1).1).trans (x.keep p hp).1, (x.keep p hp).2⟩ }
/-- The heap's slice is another of the same row. -/
theorem UndoIs.setLos (x : UndoIs w0 w R lg los wr H O K) (los' : Value) (H' : List Los) (hh : w.ownsRow w0.heap.size 110 2 los' H'.length (losRow H')) (hb : los'.ownBlock = los.ownBlock) : UndoIs w0 (w.setCell ⟨R, 7, none⟩ los') R lg los' wr H' O K where
  head := heap_setCell_same w R 7 _ 72 los' x.head
  heap := owns_of_blockB hh (fun k hk => heap_setCell_other w _ k _ (fun e => x.n1 (by have e : k = R := e; rw [← hb, hk, e])))
  rows := owns_of_blockB x.rows (fun k hk => heap_setCell_other w _ k _ (fun e => x.n2 (by have e : k = R := e; rw [hk, e])))
  below := x.below.setCell (p := ⟨R, 7, none⟩) x.r0 _
  r0 := x.r0
  n1 := by rw [hb]; exact x.n1
  n2 := x.n2
  n3 := fun k hk => x.n3 k (by rw [← hb]; exact hk)
  keep := fun p hp => ⟨(heap_setCell_other w _ p.1 _ (by exact (x.keep p hp).2.1)).trans (x.keep p hp).1, (x.keep p hp).2.1, by rw [hb]; exact (x.keep p hp).2.2.1, (x.keep p hp).2.2.2⟩
set_option maxHeartbeats 2000000 in
set_option maxRecDepth 100000 in
theorem pop_one {g c : Nat} {y : Los} (x : UndoIs w0 w R lg (.slice (some ⟨g, 0, none⟩) 1 c) wr [y] O K) (hc : 1 ≤ c) :
    Calls Try.prog 117 #[.pointer (some ⟨R, 7, none⟩)] w fun e w' => (∃ v, e = .returned v) ∧ UndoIs w0 w' R lg (.slice (some ⟨g, 0, none⟩) 0 c) wr [] O K := by
  obtain ⟨d0, d1⟩ := los_cells x.heap 0 y rfl
  have d0 : w.cell? ⟨g, 0, none⟩ = some (.int .i64 y.id) := by simpa using d0
  have d1 : w.cell? ⟨g, 1, none⟩ = some (.int .i64 y.next) := by simpa using d1
  obtain ⟨w1, hw1⟩ : ∃ w1, w.alloc (.cells #[.int .i64 y.id, .int .i64 y.next] 110) = w1 := ⟨_, rfl⟩
  have hB1 : Below w.heap.size w w1 := by rw [← hw1]; exact (Below.refl _ _).alloc (Nat.le_refl _) _
  have HX1 := hide (x.stayD hB1)
  have hG1 : w1.heap[w.heap.size]? = some (.cells #[.int .i64 y.id, .int .i64 y.next] 110 (0, 0)) := by rw [← hw1]; exact heap_alloc_new _ _
  have e0 : w1.cell? ⟨w.heap.size, 0, none⟩ = some (.int .i64 y.id) := by rw [cell_of_row _ _ _ _ _ _ hG1]; rfl
  have e1 : w1.cell? ⟨w.heap.size, 1, none⟩ = some (.int .i64 y.next) := by rw [cell_of_row _ _ _ _ _ _ hG1]; rfl
  have c7 := x.c7
  have c7' := HX1.out.c7
  have f7' := HX1.out.f7
  have hRne : w.heap.size ≠ R := by have := x.lt; omega
  have HX2 := hide (HX1.out.setLos (.slice (some ⟨g, 0, none⟩) 0 c) [] (by
    obtain ⟨g', c', cur, e, h1, h2, h3, h4, h5, h6⟩ := own_some HX1.out.heap (by simp)
    injection e with q1 q2 q3
    injection q1 with q1
    injection q1 with q1 _
    subst q1; subst q3
    exact ⟨by simp [losRow], .inr ⟨g, c, cur, rfl, h1, h2, by simp, h4, h5, by simp [losRow]⟩⟩) rfl)
  clear x hB1 hG1
  go_enter Try.func117, Try.ntmps117
  go_wp2
  go_ret
  exact ⟨⟨_, rfl⟩, HX2.out⟩
set_option maxHeartbeats 2000000 in
set_option maxRecDepth 100000 in
theorem heapPop_one {g c : Nat} {y : Los} (x : UndoIs w0 w R lg (.slice (some ⟨g, 0, none⟩) 1 c) wr [y] O K) (hc : 1 ≤ c) :
    Calls Try.prog 60 #[.iface 108 (.pointer (some ⟨R, 7, none⟩))] w fun e w' => (∃ v, e = .returned v) ∧ UndoIs w0 w' R lg (.slice (some ⟨g, 0, none⟩) 0 c) wr [] O K := by
  have HX := hide x
  have c7 := x.c7
  have hml := mLen R w _ x.c7
  have HMS := hide (mSwap R w _ x.c7)
  have HMP := hide (mPop ⟨R, 7, none⟩)
  obtain ⟨g', c', cur, e, h1, h2, h3, h4, h5, h6⟩ := own_some x.heap (by simp)
  injection e with q1 q2 q3
  injection q1 with q1
  injection q1 with q1 q4
  subst q1; subst q3
  clear q2 q4
  have h6' : cur.toList.take 2 = [.int .i64 y.id, .int .i64 y.next] := h6
  have k0 : cur[0]? = some (.int .i64 y.id) := by
    have : (cur.toList.take 2)[0]? = some (.int .i64 y.id) := by rw [h6']; rfl
    rw [List.getElem?_take_of_lt (by omega)] at this
    rw [← Array.getElem?_toList]; exact this
  have k1 : cur[1]? = some (.int .i64 y.next) := by
    have : (cur.toList.take 2)[1]? = some (.int .i64 y.next) := by rw [h6']; rfl
    rw [List.getElem?_take_of_lt (by omega)] at this
    rw [← Array.getElem?_toList]; exact this
  have HSW := hide (swap_first g 1 c y w (by omega) cur h2 k0 k1)
  have HDN := hide (fun W => down_one (.iface 108 (.pointer (some ⟨R, 7, none⟩))) 0 (by omega) W)
  clear x h1 h2 h3 h4 h5 h6 h6' k0 k1
  go_enter Try.func60, Try.ntmps60
  go_wp2_with (first
    | (go_at_call 114; refine (len_los (some ⟨g, 0, none⟩) 1 c w).mono ?_; rintro e w' ⟨rfl, hw⟩; have hw := hw.symm; subst hw; clear hml; have hms := HMS.out)
    | (go_at_call 116; refine HSW.out.mono ?_; rintro e w2 ⟨rfl, hb2⟩; have HB2 := hide hb2; clear hb2 hms; have hmp := HMP.out)
    | (go_at_call 79; refine (HDN.out _).mono ?_; rintro e w3 ⟨rfl, hb3⟩; have HX3 := hide (HX.out.stayD (HB2.out.trans (hb3.mono HB2.out.size))); clear hb3)
    | (go_at_call 117; refine (pop_one HX3.out hc).mono ?_; rintro e w4 ⟨⟨v, rfl⟩, hX4⟩; have HX4 := hide hX4; clear hX4))
  go_ret
  exact ⟨⟨_, rfl⟩, HX4.out⟩
end
end Go.Proofs.Ytpjppolbkdnkaaa
