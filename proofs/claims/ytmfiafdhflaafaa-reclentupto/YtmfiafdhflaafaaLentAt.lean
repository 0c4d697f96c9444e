/- Where RecLent is between its loops: what it has been told, and what it writes over. -/
import Derived.Test.YtmfiafdhflaafaaUni
namespace Go.Proofs.Ytmfiafdhflaafaa
open Go.RowKit
set_option linter.unusedVariables false
set_option linter.unusedSimpArgs false

/-- A row of bytes that is owned, one byte written over. -/
theorem owns_put5 {w : World} {base g n c i : Nat} {Z : List UInt8} (h : w.ownsRow base 5 1 (.slice (some ⟨g, 0, none⟩) n c) n (secCells Z)) (hi : i < n) (b : UInt8) : (w.setCell ⟨g, i, none⟩ (bcell b)).ownsRow base 5 1 (.slice (some ⟨g, 0, none⟩) n c) n (secCells (Z.set i b)) := by
  refine ⟨by simpa [secCells] using h.1, .inr ?_⟩
  rcases h.2 with ⟨e, _⟩ | ⟨g', cap, cur, e, h0, hg, h1, h2, h3, h4⟩
  · cases e
  · injection e with e1 e2 e3
    injection e1 with e1
    injection e1 with e1
    subst e1 e3
    refine ⟨g, c, cur.setIfInBounds i (bcell b), rfl, h0, heap_set_same _ hg, h1, h2, by simpa using h3, ?_⟩
    rw [Array.toList_setIfInBounds, List.take_set, h4]
    simp [secCells, List.map_set]
theorem dtCells_set (l : List (Int × Int)) (i : Nat) (h : i < l.length) (p : Int) : (dtCells l).set (i * 2) (icell p) = dtCells (l.set i (p, (l.getD i (0, 0)).2)) := by
  induction l generalizing i with
  | nil => simp at h
  | cons x r ih =>
    have e : ∀ y : Int × Int, dtCells (y :: r) = icell y.1 :: icell y.2 :: dtCells r := fun y => by simp [dtCells]
    cases i with
    | zero => simp [e]
    | succ i =>
      rw [show (i + 1) * 2 = i * 2 + 2 by omega, e x, List.set_cons_succ, List.set_cons_succ, ih i (by simpa using h), List.set_cons_succ]
      simp [dtCells]
theorem owns_put45 {w : World} {base g n c i : Nat} {l : List (Int × Int)} (h : w.ownsRow base 45 2 (.slice (some ⟨g, 0, none⟩) n c) n (dtCells l)) (hl : l.length = n) (hi : i < n) (p : Int) : (w.setCell ⟨g, i * 2, none⟩ (.int .i64 p)).ownsRow base 45 2 (.slice (some ⟨g, 0, none⟩) n c) n (dtCells (l.set i (p, (l.getD i (0, 0)).2))) := by
  refine ⟨by rw [length_dtCells, List.length_set, hl], .inr ?_⟩
  rcases h.2 with ⟨e, _⟩ | ⟨g', cap, cur, e, h0, hg, h1, h2, h3, h4⟩
  · cases e
  · injection e with e1 e2 e3
    injection e1 with e1
    injection e1 with e1
    subst e1 e3
    refine ⟨g, c, cur.setIfInBounds (i * 2) (.int .i64 p), rfl, h0, heap_set_same _ hg, h1, h2, by simpa using h3, ?_⟩
    rw [Array.toList_setIfInBounds, List.take_set, h4]
    exact dtCells_set l i (by omega) p
structure LentAt (w3 wk : World) (base5 base7 X Y g c5 N nb nd : Nat) (XA YA : Array Value) (vb vd : Value) (D : Rc) : Prop where
  b3 : Below w3.heap.size w3 wk
  cx : wk.heap[X]? = some (.cells XA 28 (0, 0))
  cy : wk.heap[Y]? = some (.cells YA 28 (0, 0))
  xb : ∃ Z : List UInt8, Z.length = nb ∧ wk.ownsRow base5 5 1 vb nb (secCells Z)
  xd : ∃ l : List (Int × Int), l.length = nd ∧ wk.ownsRow base5 45 2 vd nd (dtCells l)
  oo : ∃ Z : List UInt8, Z.length = N ∧ wk.ownsRow w3.heap.size 5 1 (.slice (some ⟨g, 0, none⟩) (N + 1) c5) (N + 1) (secCells (Z ++ [77]))
  yv : RecOwn base7 wk (.agg YA) D
  g3 : w3.heap.size ≤ g
  g5 : g < base5
  b57 : base5 ≤ base7
  sb : ∀ k, vb.ownBlock = some k → k < base7
  sd : ∀ k, vd.ownBlock = some k → k < base7
/-- A block below the second record's rows is written over: all but that block stays. -/
theorem LentAt.stays {w3 a : World} {base5 base7 X Y g c5 N nb nd : Nat} {XA YA : Array Value} {vb vd : Value} {D : Rc} (h : LentAt w3 a base5 base7 X Y g c5 N nb nd XA YA vb vd D) {k i : Nat} {v : Value} {C : Array Value} {T : TypeId} (hk : a.heap[k]? = some (.cells C T (0, 0))) (hT : T ≠ 28) (h3 : w3.heap.size ≤ k) (h7 : k < base7)
    (hb : ∃ Z : List UInt8, Z.length = nb ∧ (a.setCell ⟨k, i, none⟩ v).ownsRow base5 5 1 vb nb (secCells Z)) (hd : ∃ l : List (Int × Int), l.length = nd ∧ (a.setCell ⟨k, i, none⟩ v).ownsRow base5 45 2 vd nd (dtCells l)) (ho : ∃ Z : List UInt8, Z.length = N ∧ (a.setCell ⟨k, i, none⟩ v).ownsRow w3.heap.size 5 1 (.slice (some ⟨g, 0, none⟩) (N + 1) c5) (N + 1) (secCells (Z ++ [77]))) :
    LentAt w3 (a.setCell ⟨k, i, none⟩ v) base5 base7 X Y g c5 N nb nd XA YA vb vd D := by
  refine ⟨h.b3.setCell h3 _, (heap_set_other (fun e => heap_ne hk h.cx hT e.symm)).trans h.cx, (heap_set_other (fun e => heap_ne hk h.cy hT e.symm)).trans h.cy, hb, hd, ho, ?_, h.g3, h.g5, h.b57, h.sb, h.sd⟩
  obtain ⟨yb, ya, yt, yd, e, o1, o2, o3, o4⟩ := h.yv
  have st : ∀ {E : TypeId} {size n : Nat} {u : Value} {xs : List Value}, a.ownsRow base7 E size u n xs → (a.setCell ⟨k, i, none⟩ v).ownsRow base7 E size u n xs := fun hv => owns_stay hv (fun j hj => heap_set_other (fun e => by have := (hv.lt j hj).1; have e : j = k := e; omega))
  exact ⟨yb, ya, yt, yd, e, st o1, st o2, st o3, st o4⟩
theorem own_heap {w : World} {base : Nat} {E : TypeId} {size n : Nat} {v : Value} {xs : List Value} (h : w.ownsRow base E size v n xs) (h0 : 0 < n) : ∃ g c C, v = .slice (some ⟨g, 0, none⟩) n c ∧ base ≤ g ∧ w.heap[g]? = some (.cells C E (0, 0)) := by
  rcases h.2 with ⟨_, e⟩ | ⟨g, cap, cur, e, h0, hg, _⟩
  · omega
  · exact ⟨g, cap, cur, e, h0, hg⟩
theorem keep_set {w : World} {base : Nat} {E : TypeId} {size n k i : Nat} {v u : Value} {xs : List Value} (h : w.ownsRow base E size v n xs) (hn : v.ownBlock ≠ some k) : (w.setCell ⟨k, i, none⟩ u).ownsRow base E size v n xs :=
  owns_stay h (fun j hj => heap_set_other (fun e => hn (by rw [hj]; exact congrArg some e)))
/-- The three ways of writing. -/
theorem LentAt.putB {w3 a : World} {base5 base7 X Y g c5 N nb nd gb cb i : Nat} {XA YA : Array Value} {vd : Value} {D : Rc} (h : LentAt w3 a base5 base7 X Y g c5 N nb nd XA YA (.slice (some ⟨gb, 0, none⟩) nb cb) vd D) (hi : i < nb) (b : UInt8) :
    LentAt w3 (a.setCell ⟨gb, i, none⟩ (bcell b)) base5 base7 X Y g c5 N nb nd XA YA (.slice (some ⟨gb, 0, none⟩) nb cb) vd D := by
  obtain ⟨Z, hZ, oZ⟩ := h.xb
  obtain ⟨l, hl, ol⟩ := h.xd
  obtain ⟨Z2, hZ2, oZ2⟩ := h.oo
  obtain ⟨g', c', C, e, hge, hC⟩ := own_heap oZ (by omega)
  injection e with e1 e2 e3
  injection e1 with e1
  injection e1 with e1
  subst e1
  refine h.stays hC (by decide) (by have := h.g3; have := h.g5; omega) (h.sb gb rfl) ⟨_, by rw [List.length_set]; exact hZ, owns_put5 oZ hi b⟩ ⟨l, hl, keep_set ol (owns_ne ol hC (by decide))⟩ ⟨Z2, hZ2, keep_set oZ2 ?_⟩
  intro e
  have e : g = gb := by simpa [Value.ownBlock] using e
  have := h.g5
  omega
theorem LentAt.putD {w3 a : World} {base5 base7 X Y g c5 N nb nd gd cd i : Nat} {XA YA : Array Value} {vb : Value} {D : Rc} (h : LentAt w3 a base5 base7 X Y g c5 N nb nd XA YA vb (.slice (some ⟨gd, 0, none⟩) nd cd) D) (hi : i < nd) (p : Int) :
    LentAt w3 (a.setCell ⟨gd, i * 2, none⟩ (.int .i64 p)) base5 base7 X Y g c5 N nb nd XA YA vb (.slice (some ⟨gd, 0, none⟩) nd cd) D := by
  obtain ⟨Z, hZ, oZ⟩ := h.xb
  obtain ⟨l, hl, ol⟩ := h.xd
  obtain ⟨Z2, hZ2, oZ2⟩ := h.oo
  obtain ⟨g', c', C, e, hge, hC⟩ := own_heap ol (by omega)
  injection e with e1 e2 e3
  injection e1 with e1
  injection e1 with e1
  subst e1
  exact h.stays hC (by decide) (by have := h.g3; have := h.g5; omega) (h.sd gd rfl) ⟨Z, hZ, keep_set oZ (owns_ne oZ hC (by decide))⟩ ⟨_, by rw [List.length_set]; exact hl, owns_put45 ol hl hi p⟩ ⟨Z2, hZ2, keep_set oZ2 (owns_ne oZ2 hC (by decide))⟩
theorem LentAt.putO {w3 a : World} {base5 base7 X Y g c5 N nb nd i : Nat} {XA YA : Array Value} {vb vd : Value} {D : Rc} (h : LentAt w3 a base5 base7 X Y g c5 N nb nd XA YA vb vd D) (hi : i < N) (b : UInt8) :
    LentAt w3 (a.setCell ⟨g, i, none⟩ (bcell b)) base5 base7 X Y g c5 N nb nd XA YA vb vd D := by
  obtain ⟨Z, hZ, oZ⟩ := h.xb
  obtain ⟨l, hl, ol⟩ := h.xd
  obtain ⟨Z2, hZ2, oZ2⟩ := h.oo
  obtain ⟨g', c', C, e, hge, hC⟩ := own_heap oZ2 (by omega)
  injection e with e1 e2 e3
  injection e1 with e1
  injection e1 with e1
  subst e1
  refine h.stays hC (by decide) h.g3 (by have := h.g5; have := h.b57; omega) ⟨Z, hZ, keep_set oZ (fun e => by have := (oZ.lt g e).1; have := h.g5; omega)⟩ ⟨l, hl, keep_set ol (owns_ne ol hC (by decide))⟩ ⟨Z2.set i b, by rw [List.length_set]; exact hZ2, ?_⟩
  have := owns_put5 oZ2 (i := i) (by omega) b
  rwa [List.set_append_left _ _ (by omega)] at this
end Go.Proofs.Ytmfiafdhflaafaa
