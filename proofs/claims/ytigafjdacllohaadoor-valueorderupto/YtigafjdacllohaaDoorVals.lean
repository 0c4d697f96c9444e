/- Slices of values; Join, Split, Same. -/
import Derived.Test.YtigafjdacllohaaDoorCmp
namespace Go.Proofs.YtigafjdacllohaaDoor
open Go.RowKit
set_option linter.unusedVariables false
set_option linter.unusedSimpArgs false

def vsCells (l : List Vl) : List Value := l.flatMap vcells
theorem vsCells_cons (v : Vl) (l : List Vl) : vsCells (v :: l) = .int .i64 v.ty :: .int .i64 v.n :: .string (strOf v.t) :: .bool v.b :: vsCells l := rfl
theorem length_vsCells : ∀ l, (vsCells l).length = l.length * 4
  | [] => rfl
  | v :: l => by rw [vsCells_cons]; simp [length_vsCells l]; omega
theorem vsCells_append (a b : List Vl) : vsCells (a ++ b) = vsCells a ++ vsCells b := by simp [vsCells]
theorem one_vsCells (l : List Vl) : ∀ u ∈ vsCells l, u.oneCell' = true := by
  intro u hu
  obtain ⟨v, _, hu⟩ := List.mem_flatMap.1 hu
  simp [vcells] at hu
  rcases hu with rfl | rfl | rfl | rfl <;> rfl
theorem vsCells_get : ∀ (l : List Vl) (i : Nat), i < l.length → (vsCells l)[i * 4]? = some (.int .i64 (l.getD i Vl.zero).ty) ∧ (vsCells l)[i * 4 + 1]? = some (.int .i64 (l.getD i Vl.zero).n) ∧ (vsCells l)[i * 4 + 2]? = some (.string (strOf (l.getD i Vl.zero).t)) ∧ (vsCells l)[i * 4 + 3]? = some (.bool (l.getD i Vl.zero).b)
  | [], i, h => by simp at h
  | v :: l, 0, h => ⟨rfl, rfl, rfl, rfl⟩
  | v :: l, i + 1, h => by
    have := vsCells_get l i (by simpa using h)
    rw [vsCells_cons, show (i + 1) * 4 = i * 4 + 1 + 1 + 1 + 1 by omega, List.getD_cons_succ]
    simpa using this
/-- Values that may be read. -/
def VsAt (w : World) (v : Value) (l : List Vl) : Prop := Row w v l.length (vsCells l)
theorem VsAt.belowW {w w' : World} {v : Value} {l : List Vl} (h : VsAt w v l) (hb : Below w.heap.size w w') : VsAt w' v l := Row.belowW h hb
theorem VsAt.len {w : World} {v : Value} {l : List Vl} (h : VsAt w v l) : ∃ ao c, v = .slice ao l.length c ∧ l.length ≤ c ∧ c ≤ maxLen := let ⟨ao, c, e, h1, h2, _⟩ := h; ⟨ao, c, e, h1, h2⟩
structure CellsAt (w : World) (g o : Nat) (V : Vl) : Prop where
  c0 : w.cell? ⟨g, o, none⟩ = some (.int .i64 V.ty)
  c1 : w.cell? ⟨g, o + 1, none⟩ = some (.int .i64 V.n)
  c2 : w.cell? ⟨g, o + 2, none⟩ = some (.string (strOf V.t))
  c3 : w.cell? ⟨g, o + 3, none⟩ = some (.bool V.b)
theorem VsAt.get {w : World} {ao : Option Addr} {n c : Nat} {l : List Vl} (h : VsAt w (.slice ao n c) l) (i : Nat) (hi : i < l.length) : ∃ g o, ao = some ⟨g, o, none⟩ ∧ CellsAt w g (o + i * 4) (l.getD i Vl.zero) := by
  obtain ⟨ao', c', e, h1, h2, h3⟩ := h
  injection e with e1 e2 e3
  subst e1
  obtain ⟨g, o, ea, hr⟩ := h3 (fun h0 => by
    have := length_vsCells l
    rw [h0] at this
    simp at this; omega)
  obtain ⟨g0, g1, g2, g3⟩ := vsCells_get l i hi
  exact ⟨g, o, ea, hr _ _ g0, by rw [Nat.add_assoc]; exact hr _ _ g1, by rw [Nat.add_assoc]; exact hr _ _ g2, by rw [Nat.add_assoc]; exact hr _ _ g3⟩
theorem Tryd.info23 : (Tryd.prog.info? 23).map (fun i => (i.zero, i.size, i.bytes)) = some (some (.agg #[.int .i64 0, .int .i64 0, .string { data := #[] }, .bool false]), 4, 40) := by kernel_rfl
/-- Values of the call's own. -/
structure Vals (w0 w : World) (v : Value) (l : List Vl) : Prop where
  below : Below w0.heap.size w0 w
  own : w.ownsRow w0.heap.size 23 4 v l.length (vsCells l)
theorem Vals.belowW {w0 w w' : World} {v : Value} {l : List Vl} (h : Vals w0 w v l) (hb : Below w.heap.size w w') : Vals w0 w' v l :=
  ⟨h.below.trans (hb.mono h.below.size), owns_below h.own hb (Nat.le_refl _)⟩
theorem Vals.at {w0 w : World} {v : Value} {l : List Vl} (h : Vals w0 w v l) : VsAt w v l := Row.of_owns h.own
theorem Vals.nil {w0 w : World} (h : Below w0.heap.size w0 w) : Vals w0 w (.slice none 0 0) [] := ⟨h, World.ownsRow_nil _ _ _ _⟩
theorem Vals.alloc {w0 w : World} {v : Value} {l : List Vl} (h : Vals w0 w v l) (o : Obj) : Vals w0 (w.alloc o) v l := h.belowW ((Below.refl _ _).alloc (Nat.le_refl _) _)
theorem buildV (V : Vl) (w : World) : (Instr.buildSlice 38 1 #[(0, .agg #[.int .i64 V.ty, .int .i64 V.n, .string (strOf V.t), .bool V.b])]).run Tryd.prog w = .ok (.slice (some ⟨w.heap.size, 0, none⟩) 1 1) (w.alloc (.cells #[.int .i64 V.ty, .int .i64 V.n, .string (strOf V.t), .bool V.b] 23)) := by kernel_rfl
theorem vsAt1 (w : World) (V : Vl) : VsAt (w.alloc (.cells #[.int .i64 V.ty, .int .i64 V.n, .string (strOf V.t), .bool V.b] 23)) (.slice (some ⟨w.heap.size, 0, none⟩) 1 1) [V] :=
  ⟨_, 1, rfl, Nat.le_refl _, by simp only [maxLen]; omega, fun _ => ⟨w.heap.size, 0, rfl, fun j u hu => by
    rw [Nat.zero_add, cell_row (heap_alloc_new w _)]
    simpa [vsCells, vcells] using hu⟩⟩
theorem wpList_append_vals {ops : Array Oper} {rest : List Oper} {o : Oper} {a : Act} {w : World} {Q : Exit → Act → World → Prop}
    (hg : o.guard = none) (s x : Operand) (hop : o.op = Op.call { callee := Callee.builtin Builtin.append, args := #[s, x], argTypes := #[38, 38] })
    (w0 : World) (u y : Value) (A C : List Vl) (hs : a.eval s = u) (hy : a.eval x = y) (h : Vals w0 w u A) (hx : VsAt w y C) (hl : A.length + C.length ≤ 1000000000)
    (hK : ∀ u' w', Vals w0 w' u' (A ++ C) → w.grownBy w' u.ownBlock → wpList Tryd.prog ops Q rest (a.put o.dst u') w') :
    wpList Tryd.prog ops Q (o :: rest) a w := by
  refine wpList_append_row hg s x 38 hop w0.heap.size 23 (.agg #[.int .i64 0, .int .i64 0, .string { data := #[] }, .bool false]) 4 40 Tryd.underlying38 Tryd.info23 rfl (by omega) u A.length (vsCells A) y C.length (vsCells C) hs hy h.own hx (by rw [length_vsCells]) (one_vsCells C) (by omega) (by omega) h.below.size ?_
  intro v' w' r1 r2
  exact hK v' w' ⟨grown_below h.below h.own r2, by rw [List.length_append, vsCells_append]; exact r1⟩ r2

/-! ### Join -/
theorem joinL_take {l : List Vl} {k : Nat} (h : k < l.length) : joinL (l.take (k + 1)) = joinL (l.take k) ++ enc (l.getD k Vl.zero) := by
  rw [List.take_succ_eq_append_getElem h, joinL_snoc]
  simp [h]
def bulk (l : List Vl) : Nat := (l.map fun v => 2 * v.t.length + 20).sum
theorem bulk_take {l : List Vl} {k : Nat} (h : k < l.length) : bulk (l.take k) + (2 * (l.getD k Vl.zero).t.length + 20) ≤ bulk l := by
  have e : l = l.take k ++ l.getD k Vl.zero :: l.drop (k + 1) := by
    have e1 : l.getD k Vl.zero = l[k] := by simp [h]
    rw [e1, ← List.drop_eq_getElem_cons h, List.take_append_drop]
  have : bulk l = bulk (l.take k) + ((2 * (l.getD k Vl.zero).t.length + 20) + bulk (l.drop (k + 1))) := by
    conv => lhs; rw [e]
    simp only [bulk, List.map_append, List.sum_append, List.map_cons, List.sum_cons]
  omega
theorem length_joinL : ∀ l, (joinL l).length ≤ bulk l
  | [] => by simp [joinL, bulk]
  | v :: l => by
    have h1 := (length_enc v).2
    have h2 := length_joinL l
    have e1 : joinL (v :: l) = enc v ++ joinL l := rfl
    have e2 : bulk (v :: l) = (2 * v.t.length + 20) + bulk l := rfl
    rw [e1, e2, List.length_append]
    omega
theorem length_bulk : ∀ l, 20 * l.length ≤ bulk l
  | [] => by simp
  | v :: l => by
    have h2 := length_bulk l
    have e2 : bulk (v :: l) = (2 * v.t.length + 20) + bulk l := rfl
    rw [e2, List.length_cons]
    omega
end Go.Proofs.YtigafjdacllohaaDoor
