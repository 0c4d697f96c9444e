/- Tables that may be read; what a check of a row tells. -/
import Derived.Test.YtplpchaceiogaaaDoorCod
namespace Go.Proofs.YtplpchaceiogaaaDoor
open Go.RowKit
set_option linter.unusedVariables false
set_option linter.unusedSimpArgs false
set_option maxRecDepth 100000

structure Cl where
  nm : List UInt8
  ty : Int
  nn : Bool
  un : Bool
structure Ix where
  nm : List UInt8
  col : Int
  un : Bool
structure Tb where
  nm : List UInt8
  cols : List Cl
  idx : List Ix
  head : Int
  roots : List Int
def Cl.zero : Cl := ⟨[], 0, false, false⟩
def Ix.zero : Ix := ⟨[], 0, false⟩
def Tb.zero : Tb := ⟨[], [], [], 0, []⟩
def clCells (c : Cl) : List Value := [.string (strOf c.nm), .int .i64 c.ty, .bool c.nn, .bool c.un]
def ixCells (x : Ix) : List Value := [.string (strOf x.nm), .int .i64 x.col, .bool x.un]
def clsCells (l : List Cl) : List Value := l.flatMap clCells
def ixsCells (l : List Ix) : List Value := l.flatMap ixCells
theorem flat_length {α : Type} (f : α → List Value) (K : Nat) (hK : ∀ x, (f x).length = K) : ∀ l : List α, (l.flatMap f).length = l.length * K
  | [] => by simp
  | x :: l => by rw [List.flatMap_cons, List.length_append, hK, flat_length f K hK l, List.length_cons, Nat.add_mul]; omega
theorem flat_get {α : Type} (f : α → List Value) (K : Nat) (hK : ∀ x, (f x).length = K) (z : α) : ∀ (l : List α) (i j : Nat), i < l.length → j < K → (l.flatMap f)[i * K + j]? = (f (l.getD i z))[j]?
  | [], i, j, h, _ => by simp at h
  | x :: l, 0, j, h, hj => by
    rw [List.flatMap_cons, Nat.zero_mul, Nat.zero_add, List.getElem?_append_left (by rw [hK]; exact hj)]
    rfl
  | x :: l, i + 1, j, h, hj => by
    rw [List.flatMap_cons, List.getElem?_append_right (by rw [hK, Nat.add_mul]; omega), hK, List.getD_cons_succ]
    rw [← flat_get f K hK z l i j (by simpa using h) hj]
    congr 1
    rw [Nat.add_mul]
    omega
theorem Row.getAt {α : Type} {w : World} {ao : Option Addr} {n c : Nat} {l : List α} (f : α → List Value) (K : Nat) (hK : ∀ x, (f x).length = K) (hK0 : 0 < K) (z : α) (h : Row w (.slice ao n c) l.length (l.flatMap f)) (i : Nat) (hi : i < l.length) :
    ∃ g o, ao = some ⟨g, o, none⟩ ∧ ∀ j v, (f (l.getD i z))[j]? = some v → w.cell? ⟨g, o + i * K + j, none⟩ = some v := by
  obtain ⟨ao', c', e, h1, h2, h3⟩ := h
  injection e with e1 e2 e3
  subst e1
  have hl := flat_length f K hK l
  obtain ⟨g, o, ea, hr⟩ := h3 (fun h0 => by
    rw [h0] at hl
    have := Nat.mul_pos (Nat.lt_of_le_of_lt (Nat.zero_le _) hi) hK0
    simp at hl
    omega)
  refine ⟨g, o, ea, fun j v hv => ?_⟩
  have hj : j < K := by rw [← hK (l.getD i z)]; exact (List.getElem?_eq_some_iff.1 hv).1
  rw [Nat.add_assoc]
  exact hr _ _ ((flat_get f K hK z l i j hi hj).trans hv)
structure ClAt (w : World) (g o : Nat) (C : Cl) : Prop where
  c0 : w.cell? ⟨g, o, none⟩ = some (.string (strOf C.nm))
  c1 : w.cell? ⟨g, o + 1, none⟩ = some (.int .i64 C.ty)
  c2 : w.cell? ⟨g, o + 2, none⟩ = some (.bool C.nn)
  c3 : w.cell? ⟨g, o + 3, none⟩ = some (.bool C.un)
structure IxAt (w : World) (g o : Nat) (X : Ix) : Prop where
  c0 : w.cell? ⟨g, o, none⟩ = some (.string (strOf X.nm))
  c1 : w.cell? ⟨g, o + 1, none⟩ = some (.int .i64 X.col)
  c2 : w.cell? ⟨g, o + 2, none⟩ = some (.bool X.un)
def ClsAt (w : World) (v : Value) (l : List Cl) : Prop := Row w v l.length (clsCells l)
def IxsAt (w : World) (v : Value) (l : List Ix) : Prop := Row w v l.length (ixsCells l)
def IntsAt (w : World) (v : Value) (l : List Int) : Prop := Row w v l.length (intCells l)
theorem ClsAt.get {w : World} {ao : Option Addr} {n c : Nat} {l : List Cl} (h : ClsAt w (.slice ao n c) l) (i : Nat) (hi : i < l.length) : ∃ g o, ao = some ⟨g, o, none⟩ ∧ ClAt w g (o + i * 4) (l.getD i Cl.zero) := by
  obtain ⟨g, o, e, hr⟩ := Row.getAt clCells 4 (fun _ => rfl) (by omega) Cl.zero h i hi
  exact ⟨g, o, e, hr 0 _ rfl, hr 1 _ rfl, hr 2 _ rfl, hr 3 _ rfl⟩
theorem IxsAt.get {w : World} {ao : Option Addr} {n c : Nat} {l : List Ix} (h : IxsAt w (.slice ao n c) l) (i : Nat) (hi : i < l.length) : ∃ g o, ao = some ⟨g, o, none⟩ ∧ IxAt w g (o + i * 3) (l.getD i Ix.zero) := by
  obtain ⟨g, o, e, hr⟩ := Row.getAt ixCells 3 (fun _ => rfl) (by omega) Ix.zero h i hi
  exact ⟨g, o, e, hr 0 _ rfl, hr 1 _ rfl, hr 2 _ rfl⟩
theorem IntsAt.get {w : World} {ao : Option Addr} {n c : Nat} {l : List Int} (h : IntsAt w (.slice ao n c) l) (i : Nat) (hi : i < l.length) : ∃ g o, ao = some ⟨g, o, none⟩ ∧ w.cell? ⟨g, o + i, none⟩ = some (.int .i64 (l.getD i 0)) := by
  obtain ⟨ao', c', e, h1, h2, h3⟩ := h
  injection e with e1 e2 e3
  subst e1
  obtain ⟨g, o, ea, hr⟩ := h3 (fun h0 => by
    have := congrArg List.length h0
    simp [intCells] at this
    subst this
    simp at hi)
  exact ⟨g, o, ea, hr i _ (by simp [intCells, icell, hi])⟩
def clV (C : Cl) : Value := .agg #[.string (strOf C.nm), .int .i64 C.ty, .bool C.nn, .bool C.un]
/-- A table's value: where its lists lie. -/
structure Pl where
  ca : Option Addr
  cc : Nat
  ia : Option Addr
  ic : Nat
  ra : Option Addr
  rc : Nat
def tbCells (T : Tb) (p : Pl) : Array Value := #[.string (strOf T.nm), .slice p.ca T.cols.length p.cc, .slice p.ia T.idx.length p.ic, .int .i64 T.head, .slice p.ra T.roots.length p.rc]
structure TbAt (w : World) (T : Tb) (p : Pl) : Prop where
  cols : ClsAt w (.slice p.ca T.cols.length p.cc) T.cols
  idx : IxsAt w (.slice p.ia T.idx.length p.ic) T.idx
  roots : IntsAt w (.slice p.ra T.roots.length p.rc) T.roots
theorem TbAt.belowW {w w' : World} {T : Tb} {p : Pl} (h : TbAt w T p) (hb : Below w.heap.size w w') : TbAt w' T p := ⟨Row.belowW h.cols hb, Row.belowW h.idx hb, Row.belowW h.roots hb⟩
/-- No more than so many. -/
structure Tb.Few (T : Tb) : Prop where
  cols : T.cols.length ≤ 2000000
  idx : T.idx.length ≤ 2000000
  roots : T.roots.length ≤ 2000000
/-! ### A check -/
def hasAt (T : Tb) (j : Nat) : Bool := (T.cols.getD j Cl.zero).un || T.idx.any (fun x => x.col == (j : Int))
def fitE (C : Cl) (ix : Bool) (V : Vl) : Int :=
  if V.ty ≠ 0 ∧ V.ty ≠ C.ty then 160 else if V.ty = 0 ∧ C.nn = true then 163 else if V.ty = 2 ∧ 40 < V.t.length ∧ ix = true then 170 else 0
def fitAt (T : Tb) (l : List Vl) (j : Nat) : Int := fitE (T.cols.getD j Cl.zero) (hasAt T j) (l.getD j Vl.zero)
def CheckIs (T : Tb) (l : List Vl) (e : Int) : Prop :=
  (l.length ≠ T.cols.length ∧ e = 160) ∨ (l.length = T.cols.length ∧ ((∃ k, k < l.length ∧ (∀ j, j < k → fitAt T l j = 0) ∧ fitAt T l k = e ∧ e ≠ 0) ∨ ((∀ j, j < l.length → fitAt T l j = 0) ∧ e = codE l)))
theorem CheckIs.det {T : Tb} {l : List Vl} {e e' : Int} (h : CheckIs T l e) (h' : CheckIs T l e') : e = e' := by
  rcases h with ⟨a, rfl⟩ | ⟨a, h⟩ <;> rcases h' with ⟨b, rfl⟩ | ⟨b, h'⟩
  · rfl
  · exact absurd b a
  · exact absurd a b
  · rcases h with ⟨k, hk, h0, h1, h2⟩ | ⟨h0, rfl⟩ <;> rcases h' with ⟨k', hk', h0', h1', h2'⟩ | ⟨h0', rfl⟩
    · rcases Nat.lt_trichotomy k k' with g | g | g
      · rw [h0' k g] at h1; exact absurd h1.symm h2
      · subst g; rw [← h1, ← h1']
      · rw [h0 k' g] at h1'; exact absurd h1'.symm h2'
    · rw [h0' k hk] at h1; exact absurd h1.symm h2
    · rw [h0 k' hk'] at h1'; exact absurd h1'.symm h2'
    · rfl
end Go.Proofs.YtplpchaceiogaaaDoor
