/- The document's answer: Decode. -/
import Derived.Test.YtmfiafdhflaafaaRefRd
namespace Go.Proofs.Ytmfiafdhflaafaa
open Go.RowKit
set_option linter.unusedVariables false
set_option linter.unusedSimpArgs false

/-! ### What is still to be told, from a state of the reader on -/
def contH (l : List Int) : Option (List UInt8) → Option Rc
  | none => none
  | some rest => match getNums (6 - l.length) rest with
    | none => none
    | some (l', r') => atBefore (Rc.ofHead (l ++ l')) r'
def cont (f : Rc → List UInt8 → Option Rc) (R : Rc) : Option (List UInt8) → Option Rc
  | none => none
  | some rest => f R rest
theorem contH_step (l : List Int) (st : Option (List UInt8)) (hl : l.length < 6) : contH l st = contH (l ++ [(nx st).1]) (nx st).2 := by
  cases st with
  | none => rfl
  | some rest =>
    have e : 6 - l.length = (6 - (l ++ [(nx (some rest)).1]).length) + 1 := by rw [List.length_append]; simp; omega
    simp only [contH]
    rw [e]
    cases hn : getNum rest with
    | none => simp [getNums, nx, hn, contH]
    | some x =>
      obtain ⟨n, r1⟩ := x
      simp only [getNums, hn, nx, contH]
      cases hm : getNums (6 - (l ++ [n]).length) r1 with
      | none => rfl
      | some y => obtain ⟨l', r'⟩ := y; simp
theorem contH_end (l : List Int) (st : Option (List UInt8)) (hl : l.length = 6) : contH l st = cont atBefore (Rc.ofHead l) st := by
  cases st with
  | none => rfl
  | some rest => simp [contH, hl, getNums, cont]
theorem cont_before (R : Rc) (st : Option (List UInt8)) : cont atBefore R st = cont atAfter { R with before := (pc st).1 } (pc st).2 := by
  cases st with
  | none => rfl
  | some rest =>
    simp only [cont, atBefore, pc]
    cases getPiece rest with
    | none => rfl
    | some x => obtain ⟨p, r'⟩ := x; rfl
theorem cont_after (R : Rc) (st : Option (List UInt8)) : cont atAfter R st = cont atTxns { R with after := (pc st).1 } (pc st).2 := by
  cases st with
  | none => rfl
  | some rest =>
    simp only [cont, atAfter, pc]
    cases getPiece rest with
    | none => rfl
    | some x => obtain ⟨p, r'⟩ := x; rfl
def contTL (R : Rc) (m : Nat) (d : List (Int × Int × Int)) : Option (List UInt8) → Option Rc
  | none => none
  | some rest => match goOn d (getMany getTx m rest) with
    | none => none
    | some (l, r') => atDirty { R with txns := l } r'
def contDL (R : Rc) (m : Nat) (d : List (Int × Int)) : Option (List UInt8) → Option Rc
  | none => none
  | some rest => match goOn d (getMany getDt m rest) with
    | none => none
    | some (l, r') => atCount { R with dirty := l } r'
theorem cont_txns (R : Rc) (st : Option (List UInt8)) : cont atTxns R st = contTL R (nx st).1.toNat [] (nx st).2 := by
  cases st with
  | none => rfl
  | some rest =>
    simp only [cont, atTxns, getList, nx]
    cases getNum rest with
    | none => rfl
    | some x =>
      obtain ⟨n, r'⟩ := x
      simp only [contTL, goOn_nil]
      cases getMany getTx n.toNat r' with
      | none => rfl
      | some y => obtain ⟨l, r2⟩ := y; rfl
theorem cont_dirty (R : Rc) (st : Option (List UInt8)) : cont atDirty R st = contDL R (nx st).1.toNat [] (nx st).2 := by
  cases st with
  | none => rfl
  | some rest =>
    simp only [cont, atDirty, getList, nx]
    cases getNum rest with
    | none => rfl
    | some x =>
      obtain ⟨n, r'⟩ := x
      simp only [contDL, goOn_nil]
      cases getMany getDt n.toNat r' with
      | none => rfl
      | some y => obtain ⟨l, r2⟩ := y; rfl
theorem contTL_end (R : Rc) (d : List (Int × Int × Int)) (st : Option (List UInt8)) : contTL R 0 d st = cont atDirty { R with txns := d } st := by
  cases st with
  | none => rfl
  | some rest => simp [contTL, goOn_end, cont]
theorem contDL_end (R : Rc) (d : List (Int × Int)) (st : Option (List UInt8)) : contDL R 0 d st = cont atCount { R with dirty := d } st := by
  cases st with
  | none => rfl
  | some rest => simp [contDL, goOn_end, cont]
theorem contTL_none (R : Rc) (m : Nat) (d : List (Int × Int × Int)) : contTL R m d none = cont atDirty { R with txns := d } none := rfl
theorem contDL_none (R : Rc) (m : Nat) (d : List (Int × Int)) : contDL R m d none = cont atCount { R with dirty := d } none := rfl
theorem contTL_step (R : Rc) (m : Nat) (d : List (Int × Int × Int)) (st : Option (List UInt8)) :
    contTL R (m + 1) d st = contTL R m (d ++ [((nx st).1, (nx (nx st).2).1, (nx (nx (nx st).2).2).1)]) (nx (nx (nx st).2).2).2 := by
  cases st with
  | none => rfl
  | some rest =>
    cases h1 : getNum rest with
    | none =>
      have : getTx rest = none := by simp [getTx, getNums, h1]
      simp only [contTL, goOn_none d this, nx, h1]
    | some x =>
      obtain ⟨a, r1⟩ := x
      cases h2 : getNum r1 with
      | none =>
        have : getTx rest = none := by simp [getTx, getNums, h1, h2]
        simp only [contTL, goOn_none d this, nx, h1, h2]
      | some y =>
        obtain ⟨b, r2⟩ := y
        cases h3 : getNum r2 with
        | none =>
          have : getTx rest = none := by simp [getTx, getNums, h1, h2, h3]
          simp only [contTL, goOn_none d this, nx, h1, h2, h3]
        | some z =>
          obtain ⟨c, r3⟩ := z
          have : getTx rest = some ((a, b, c), r3) := by simp [getTx, getNums, h1, h2, h3]
          simp only [contTL, goOn_step d this, nx, h1, h2, h3]
theorem contDL_step (R : Rc) (m : Nat) (d : List (Int × Int)) (st : Option (List UInt8)) :
    contDL R (m + 1) d st = contDL R m (d ++ [((nx st).1, (nx (nx st).2).1)]) (nx (nx st).2).2 := by
  cases st with
  | none => rfl
  | some rest =>
    cases h1 : getNum rest with
    | none =>
      have : getDt rest = none := by simp [getDt, getNums, h1]
      simp only [contDL, goOn_none d this, nx, h1]
    | some x =>
      obtain ⟨a, r1⟩ := x
      cases h2 : getNum r1 with
      | none =>
        have : getDt rest = none := by simp [getDt, getNums, h1, h2]
        simp only [contDL, goOn_none d this, nx, h1, h2]
      | some y =>
        obtain ⟨b, r2⟩ := y
        have : getDt rest = some ((a, b), r2) := by simp [getDt, getNums, h1, h2]
        simp only [contDL, goOn_step d this, nx, h1, h2]
theorem cont_count (R : Rc) (st : Option (List UInt8)) : cont atCount R st = match (nx st).2 with
    | none => none
    | some rest => if rest = [] then some { R with count := (nx st).1 } else none := by
  cases st with
  | none => rfl
  | some rest =>
    simp only [cont, atCount, nx]
    cases getNum rest with
    | none => rfl
    | some x => obtain ⟨n, r'⟩ := x; rfl
/-- How many bytes are left. -/
def leftOf : Option (List UInt8) → Nat
  | none => 0
  | some l => l.length
theorem left_nx (st : Option (List UInt8)) : leftOf (nx st).2 ≤ leftOf st ∧ ((nx st).2 ≠ none → leftOf (nx st).2 + 8 ≤ leftOf st) := by
  cases st with
  | none => simp [nx, leftOf]
  | some rest =>
    simp only [nx]
    cases h : getNum rest with
    | none => simp [leftOf]
    | some x =>
      obtain ⟨n, r'⟩ := x
      have := getNum_len h
      simp only [leftOf]
      omega
theorem left_pc (st : Option (List UInt8)) : leftOf (pc st).2 ≤ leftOf st := by
  cases st with
  | none => simp [pc, leftOf]
  | some rest =>
    simp only [pc]
    cases h : getPiece rest with
    | none => simp [leftOf]
    | some x =>
      obtain ⟨p, r'⟩ := x
      have := getPiece_len h
      simp only [leftOf]
      omega

/-! ### Where it is -/
def zero13 : Array Value := #[.int .i64 0, .int .i64 0, .int .i64 0, .int .i64 0, .int .i64 0, .int .i64 0, .slice none 0 0, .slice none 0 0, .slice none 0 0, .slice none 0 0, .int .i64 0, .int .i64 0, .bool false]
def gotCells (R : Rc) (vb va vt vd : Value) : Array Value :=
  #[.int .i64 R.kind, .int .i64 R.txn, .int .i64 R.prev, .int .i64 R.next, .int .i64 R.page, .int .i64 R.off, vb, va, vt, vd, .int .i64 R.count, .int .i64 (R.size : Nat), .bool true]
structure RAt (w wk : World) (r x : Nat) (st : Option (List UInt8)) (R : Rc) (vb va vt vd : Value) : Prop where
  below : Below w.heap.size w wk
  rd : RdS w wk r st
  cell : wk.heap[x]? = some (.cells (recCells R vb va vt vd) 28 (0, 0))
  got : wk.heap[w.heap.size]? = some (.cells zero13 36 (0, 0))
  ob : wk.ownsRow w.heap.size 5 1 vb R.before.length (secCells R.before)
  oa : wk.ownsRow w.heap.size 5 1 va R.after.length (secCells R.after)
  ot : wk.ownsRow w.heap.size 43 3 vt R.txns.length (txCells R.txns)
  od : wk.ownsRow w.heap.size 45 2 vd R.dirty.length (dtCells R.dirty)
  hr : w.heap.size ≤ r
  hx : w.heap.size ≤ x
theorem heap_ne {w : World} {a b : Nat} {C D : Array Value} {t u : TypeId} {f g : Nat × Nat} (h1 : w.heap[a]? = some (.cells C t f)) (h2 : w.heap[b]? = some (.cells D u g)) (h : t ≠ u) : a ≠ b := by
  intro e
  subst e
  rw [h1] at h2
  simp at h2
  exact h h2.2.1
/-- Nothing but the reader has changed. -/
theorem RAt.reads {w a b : World} {r x : Nat} {st st' : Option (List UInt8)} {R : Rc} {vb va vt vd : Value} (h : RAt w a r x st R vb va vt vd) (ho : Off [r] a b) (hr : RdS w b r st') : RAt w b r x st' R vb va vt vd := by
  obtain ⟨Cr, hCr⟩ := h.rd.lt
  have keep : ∀ {e : TypeId} {size n : Nat} {v : Value} {xs : List Value}, a.ownsRow w.heap.size e size v n xs → (61 : TypeId) ≠ e → b.ownsRow w.heap.size e size v n xs := fun hv he => owns_off hv ho (fun k hk => by simp at hk; subst hk; exact owns_ne hv hCr he)
  exact ⟨h.below.trans (ho.below h.below.size (fun k hk => by simp at hk; rw [hk]; exact h.hr)), hr, (ho.block x (lt_of_heap h.cell) (by simp; exact heap_ne h.cell hCr (by decide))).trans h.cell, (ho.block _ (lt_of_heap h.got) (by simp; exact heap_ne h.got hCr (by decide))).trans h.got, keep h.ob (by decide), keep h.oa (by decide), keep h.ot (by decide), keep h.od (by decide), h.hr, h.hx⟩
theorem RAt.number {w a : World} {r x : Nat} {st : Option (List UInt8)} {R : Rc} {vb va vt vd : Value} (h : RAt w a r x st R vb va vt vd) :
    Calls Try.prog 25 #[.pointer (some ⟨r, 0, none⟩)] a fun e w' => e = .returned (.int .i64 (nx st).1) ∧ RAt w w' r x (nx st).2 R vb va vt vd ∧ Off [r] a w' := by
  refine (refNum_any h.below h.hr h.rd).mono ?_
  rintro e w' ⟨rfl, h1, h2⟩
  exact ⟨rfl, h.reads h2 h1, h2⟩
theorem RAt.bytes {w a : World} {r x : Nat} {st : Option (List UInt8)} {R : Rc} {vb va vt vd : Value} (h : RAt w a r x st R vb va vt vd) (hl : leftOf st ≤ 1000000000000) :
    Calls Try.prog 27 #[.pointer (some ⟨r, 0, none⟩)] a fun e w' => ∃ v, e = .returned v ∧ w'.ownsRow w.heap.size 5 1 v (pc st).1.length (secCells (pc st).1) ∧ RAt w w' r x (pc st).2 R vb va vt vd := by
  refine (refBytes_any h.below h.hr h.rd (fun l e => by subst e; exact hl)).mono ?_
  rintro e w' ⟨v, rfl, ho, h1, h2⟩
  exact ⟨v, rfl, owns_mono ho h.below.size, h.reads h2 h1⟩
/-- A field of the record is stored. -/
theorem RAt.store {w a : World} {r x : Nat} {st : Option (List UInt8)} {R R' : Rc} {vb va vt vd vb' va' vt' vd' : Value} (h : RAt w a r x st R vb va vt vd) (i : Nat) (v : Value) (hc : (recCells R vb va vt vd).setIfInBounds i v = recCells R' vb' va' vt' vd')
    (hb : a.ownsRow w.heap.size 5 1 vb' R'.before.length (secCells R'.before)) (ha : a.ownsRow w.heap.size 5 1 va' R'.after.length (secCells R'.after)) (ht : a.ownsRow w.heap.size 43 3 vt' R'.txns.length (txCells R'.txns)) (hd : a.ownsRow w.heap.size 45 2 vd' R'.dirty.length (dtCells R'.dirty)) :
    RAt w (a.setCell ⟨x, i, none⟩ v) r x st R' vb' va' vt' vd' := by
  obtain ⟨Cr, hCr⟩ := h.rd.lt
  have stay : ∀ {e : TypeId} {size n : Nat} {u : Value} {xs : List Value}, a.ownsRow w.heap.size e size u n xs → (28 : TypeId) ≠ e → (a.setCell ⟨x, i, none⟩ v).ownsRow w.heap.size e size u n xs := fun hv he => owns_stay hv (fun k hk => heap_set_other (fun e => owns_ne hv h.cell he (by rw [hk]; exact congrArg some e)))
  exact ⟨h.below.setCell h.hx _, h.rd.stay (heap_set_other (fun e => heap_ne hCr h.cell (by decide) e)), by rw [heap_set_same _ h.cell, hc], (heap_set_other (fun e => heap_ne h.got h.cell (by decide) e)).trans h.got, stay hb (by decide), stay ha (by decide), stay ht (by decide), stay hd (by decide), h.hr, h.hx⟩
theorem RAt.num {w a : World} {r x : Nat} {st : Option (List UInt8)} {R R' : Rc} {vb va vt vd : Value} (h : RAt w a r x st R vb va vt vd) (i : Nat) (n : Int) (hc : (recCells R vb va vt vd).setIfInBounds i (.int .i64 n) = recCells R' vb va vt vd)
    (e1 : R'.before = R.before) (e2 : R'.after = R.after) (e3 : R'.txns = R.txns) (e4 : R'.dirty = R.dirty) : RAt w (a.setCell ⟨x, i, none⟩ (.int .i64 n)) r x st R' vb va vt vd :=
  h.store i _ hc (by rw [e1]; exact h.ob) (by rw [e2]; exact h.oa) (by rw [e3]; exact h.ot) (by rw [e4]; exact h.od)
theorem RAt.alloc {w a : World} {r x : Nat} {st : Option (List UInt8)} {R : Rc} {vb va vt vd : Value} (h : RAt w a r x st R vb va vt vd) (o : Obj) : RAt w (a.alloc o) r x st R vb va vt vd := by
  obtain ⟨Cr, hCr⟩ := h.rd.lt
  have hb : Below a.heap.size a (a.alloc o) := (Below.refl _ _).alloc (Nat.le_refl _) _
  exact ⟨h.below.alloc h.below.size _, h.rd.stay (Below.heap_alloc _ _ _ (lt_of_heap hCr)), (Below.heap_alloc _ _ _ (lt_of_heap h.cell)).trans h.cell, (Below.heap_alloc _ _ _ (lt_of_heap h.got)).trans h.got, owns_below h.ob hb (Nat.le_refl _), owns_below h.oa hb (Nat.le_refl _), owns_below h.ot hb (Nat.le_refl _), owns_below h.od hb (Nat.le_refl _), h.hr, h.hx⟩
theorem take_pc {w0 w1 : World} {r : Nat} {st : Option (List UInt8)} (h1 : RdS w0 w1 r (nx st).2) :
    Calls Try.prog 26 #[.pointer (some ⟨r, 0, none⟩), .int .i64 (nx st).1] w1 fun e w' => ∃ vp, e = .returned vp ∧ Sl w0 vp (pc st).1 ∧ RdS w0 w' r (pc st).2 ∧ Off [r] w1 w' := by
  cases st with
  | none =>
    refine (take_bad h1).mono ?_
    rintro e w' ⟨rfl, h2, h3⟩
    exact ⟨_, rfl, Row.nil _, h2, h3⟩
  | some rest =>
    cases hn : getNum rest with
    | none =>
      have hp : pc (some rest) = ([], none) := by simp [pc, getPiece, hn]
      rw [hp]
      simp only [nx, hn] at h1 ⊢
      refine (take_bad h1).mono ?_
      rintro e w' ⟨rfl, h2, h3⟩
      exact ⟨_, rfl, Row.nil _, h2, h3⟩
    | some y =>
      obtain ⟨n, r1⟩ := y
      have hnl := getNum_len hn
      obtain ⟨m, rfl⟩ : ∃ m : Nat, n = (m : Int) := ⟨n.toNat, by omega⟩
      simp only [nx, hn] at h1 ⊢
      by_cases hm : m ≤ r1.length
      · have hp : pc (some rest) = (r1.take m, some (r1.drop m)) := by
          simp only [pc, getPiece, hn, Int.toNat_natCast]
          rw [if_neg (by omega)]
        rw [hp]
        exact take_ok h1 hm
      · have hp : pc (some rest) = ([], none) := by
          simp only [pc, getPiece, hn]
          rw [if_pos (by omega)]
        rw [hp]
        refine (take_no h1 (by omega) (by omega)).mono ?_
        rintro e w' ⟨rfl, h2, h3⟩
        exact ⟨_, rfl, Row.nil _, h2, h3⟩
def GotEnd (w : World) (bs : List UInt8) (e : Ending) (w' : World) : Prop :=
  Below w.heap.size w w' ∧ match dec bs with
  | none => e = .returned (.agg zero13)
  | some R => ∃ vb va vt vd, e = .returned (.agg (gotCells R vb va vt vd)) ∧ RecOwn w.heap.size w' (.agg (recCells R vb va vt vd)) R
end Go.Proofs.Ytmfiafdhflaafaa
