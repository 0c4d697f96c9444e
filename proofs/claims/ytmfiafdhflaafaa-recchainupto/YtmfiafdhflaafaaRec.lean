/- A record as a value; its size. -/
import Derived.Test.YtmfiafdhflaafaaLists
import Derived.ScopeJumps
namespace Go.Proofs.Ytmfiafdhflaafaa
open Go.RowKit
set_option linter.unusedVariables false
set_option linter.unusedSimpArgs false

def recCells (R : Rc) (vb va vt vd : Value) : Array Value :=
  #[.int .i64 R.kind, .int .i64 R.txn, .int .i64 R.prev, .int .i64 R.next, .int .i64 R.page, .int .i64 R.off, vb, va, vt, vd, .int .i64 R.count]
def zeroCells11 : Array Value := #[.int .i64 0, .int .i64 0, .int .i64 0, .int .i64 0, .int .i64 0, .int .i64 0, .slice none 0 0, .slice none 0 0, .slice none 0 0, .slice none 0 0, .int .i64 0]
theorem recCells_zero : recCells Rc.zero (.slice none 0 0) (.slice none 0 0) (.slice none 0 0) (.slice none 0 0) = zeroCells11 := rfl
/-- v is a record that may be read. -/
def RecVal (w : World) (V : Value) (R : Rc) : Prop :=
  ∃ vb va vt vd, V = .agg (recCells R vb va vt vd) ∧ Sl w vb R.before ∧ Sl w va R.after ∧ Row w vt R.txns.length (txCells R.txns) ∧ Row w vd R.dirty.length (dtCells R.dirty)
/-- .. whose lists are of memory from base on. -/
def RecOwn (base : Nat) (w : World) (V : Value) (R : Rc) : Prop :=
  ∃ vb va vt vd, V = .agg (recCells R vb va vt vd) ∧ w.ownsRow base 5 1 vb R.before.length (secCells R.before) ∧ w.ownsRow base 5 1 va R.after.length (secCells R.after) ∧ w.ownsRow base 43 3 vt R.txns.length (txCells R.txns) ∧ w.ownsRow base 45 2 vd R.dirty.length (dtCells R.dirty)
theorem RecOwn.val {base : Nat} {w : World} {V : Value} {R : Rc} (h : RecOwn base w V R) : RecVal w V R := by
  obtain ⟨vb, va, vt, vd, e, h1, h2, h3, h4⟩ := h
  exact ⟨vb, va, vt, vd, e, Row.of_owns h1, Row.of_owns h2, Row.of_owns h3, Row.of_owns h4⟩
theorem RecVal.below {B : Nat} {w w' : World} {V : Value} {R : Rc} (h : RecVal w V R) (hb : Below B w w') (hB : w.heap.size ≤ B) : RecVal w' V R := by
  obtain ⟨vb, va, vt, vd, e, h1, h2, h3, h4⟩ := h
  exact ⟨vb, va, vt, vd, e, Row.below h1 hb hB, Row.below h2 hb hB, h3.below hb hB, h4.below hb hB⟩
theorem RecOwn.below {B base : Nat} {w w' : World} {V : Value} {R : Rc} (h : RecOwn base w V R) (hb : Below B w w') (hB : w.heap.size ≤ B) : RecOwn base w' V R := by
  obtain ⟨vb, va, vt, vd, e, h1, h2, h3, h4⟩ := h
  exact ⟨vb, va, vt, vd, e, owns_below h1 hb hB, owns_below h2 hb hB, owns_below h3 hb hB, owns_below h4 hb hB⟩
theorem RecOwn.zero (base : Nat) (w : World) : RecOwn base w (.agg zeroCells11) Rc.zero :=
  ⟨_, _, _, _, by rw [recCells_zero], World.ownsRow_nil _ _ _ _, World.ownsRow_nil _ _ _ _, World.ownsRow_nil _ _ _ _, World.ownsRow_nil _ _ _ _⟩
theorem Row.len {w : World} {v : Value} {n : Nat} {xs : List Value} (h : Row w v n xs) : ∃ ao c, v = .slice ao n c ∧ n ≤ c ∧ c ≤ maxLen := let ⟨ao, c, e, h1, h2, _⟩ := h; ⟨ao, c, e, h1, h2⟩

theorem size_casts (b a t d : Nat) (hs : 96 + b + a + 24 * t + 16 * d ≤ 1000000000000) : Value.int .i64 (wrap64 (wrap64 (wrap64 (wrap64 (96 + (b : Int)) + (a : Int)) + wrap64 (24 * (t : Int))) + wrap64 (16 * (d : Int)))) = .int .i64 ((96 + b + a + 24 * t + 16 * d : Nat) : Int) := by
  congr 1
  simp only [wrap64]
  omega

set_option maxHeartbeats 400000 in
theorem size_any {w : World} {V : Value} {R : Rc} (h : RecVal w V R) (hs : R.size ≤ 1000000000000) :
    Calls Try.prog 15 #[V] w fun e w' => e = .returned (.int .i64 (R.size : Nat)) ∧ w' = w.alloc (.cells V.cells 28) := by
  obtain ⟨vb, va, vt, vd, rfl, h1, h2, h3, h4⟩ := h
  obtain ⟨ab, cb, rfl, b1, b2⟩ := h1.len
  obtain ⟨aa, ca, rfl, a1, a2⟩ := h2.len
  obtain ⟨at', ct, rfl, t1, t2⟩ := h3.len
  obtain ⟨ad, cd, rfl, d1, d2⟩ := h4.len
  clear h1 h2 h3 h4
  have hs' : 96 + R.before.length + R.after.length + 24 * R.txns.length + 16 * R.dirty.length ≤ 1000000000000 := hs
  have HS := hide hs'
  have l1 : (R.before.length : Int) ≤ 1000000000000 := by omega
  have l2 : (R.after.length : Int) ≤ 1000000000000 := by omega
  have l3 : (R.txns.length : Int) ≤ 1000000000000 := by omega
  have l4 : (R.dirty.length : Int) ≤ 1000000000000 := by omega
  have HR : Hid (R.size = 96 + R.before.length + R.after.length + 24 * R.txns.length + 16 * R.dirty.length) := by show _ = _; rfl
  clear hs hs' b1 a1 t1 d1 b2 a2 t2 d2
  unfold recCells
  generalize R.before.length = nb at *
  generalize R.after.length = na at *
  generalize R.txns.length = nt at *
  generalize R.dirty.length = nd at *
  go_enter Try.func15, Try.ntmps15
  go_wp2
  go_ret
  rw [HR.out]
  exact ⟨by congr 2, rfl⟩
end Go.Proofs.Ytmfiafdhflaafaa
