/- A value stored into a slice of values of the call's own. -/
import Derived.Test.YtigafjdacllohabDoorSmn
namespace Go.Proofs.YtigafjdacllohabDoor
set_option maxRecDepth 100000
open Go.RowKit
set_option linter.unusedVariables false
set_option linter.unusedSimpArgs false

theorem vsCells_set : ∀ (l : List Vl) (i : Nat) (V : Vl), i < l.length → vsCells (l.set i V) = (vsCells l).take (i * 4) ++ vcells V ++ (vsCells l).drop (i * 4 + 4)
  | [], i, V, h => by simp at h
  | v :: l, 0, V, h => by
    rw [List.set_cons_zero, vsCells_cons, vsCells_cons]
    simp [vcells]
  | v :: l, i + 1, V, h => by
    have ih := vsCells_set l i V (by simpa using h)
    rw [List.set_cons_succ, vsCells_cons, vsCells_cons, ih, show (i + 1) * 4 = i * 4 + 1 + 1 + 1 + 1 by omega, show i * 4 + 1 + 1 + 1 + 1 + 4 = i * 4 + 4 + 1 + 1 + 1 + 1 by omega]
    simp
theorem take_splice (L cs : List Value) (o N : Nat) (h1 : o + cs.length ≤ N) (h2 : N ≤ L.length) : (L.take o ++ cs ++ L.drop (o + cs.length)).take N = (L.take N).take o ++ cs ++ (L.take N).drop (o + cs.length) := by
  have e1 : L.take o = (L.take N).take o := by rw [List.take_take]; congr 1; omega
  have e2 : L.drop (o + cs.length) = (L.take N).drop (o + cs.length) ++ L.drop N := by
    conv => lhs; rw [← List.take_append_drop N L]
    rw [List.drop_append_of_le_length (by simp; omega)]
  rw [e1, e2, ← List.append_assoc]
  exact List.take_left' (by simp; omega)
theorem vals_store {w0 w : World} {g n c : Nat} {b : List Vl} (h : Vals w0 w (.slice (some ⟨g, 0, none⟩) n c) b) (i : Nat) (hi : i < b.length) (V : Vl) :
    ∃ W', (Instr.storeAt 23 (.pointer (some ⟨g, i * 4, none⟩)) (.agg #[.int .i64 V.ty, .int .i64 V.n, .string (strOf V.t), .bool V.b])).run Tryd.prog w = .ok () W' ∧ Vals w0 W' (.slice (some ⟨g, 0, none⟩) n c) (b.set i V) := by
  obtain ⟨hb, hl, hr⟩ := h
  rcases hr with ⟨e, _⟩ | ⟨g', cap, cur, e, hg, hc, h1, h2, h3, h4⟩
  · cases e
  injection e with e1 e2 e3
  injection e1 with e1
  injection e1 with e1
  subst e1 e2 e3
  have hr := run_storeAt_in (P := Tryd.prog) w g (i * 4) 23 23 cur (vcells V) hc (by show i * 4 + 4 ≤ cur.size; omega) (by kernel_rfl) (one_vcells V)
  refine ⟨_, hr, below_setRow hb hg _, ?_, ?_⟩
  · rw [length_vsCells, List.length_set]
  · have hcl : cur.toList.length = cur.size := by simp
    refine .inr ⟨g, c, _, by rw [List.length_set], hg, setRow_heap _ _ _ _ _ _ hc, by rw [List.length_set]; exact h1, h2, ?_, ?_⟩
    · simp [vcells]; omega
    · rw [List.length_set]
      show (cur.toList.take (i * 4) ++ vcells V ++ cur.toList.drop (i * 4 + (vcells V).length)).take (b.length * 4) = _
      rw [take_splice _ _ _ _ (by show i * 4 + 4 ≤ b.length * 4; omega) (by rw [hcl, h3]; omega), h4, vsCells_set _ _ _ hi]
      rfl
/-- The world behind a store of the value 'V' from the cell 'o' of block 'g' on. -/
def put4 (w : World) (g o : Nat) (V : Vl) : World := (((w.setCell ⟨g, o, none⟩ (.int .i64 V.ty)).setCell ⟨g, o + 1, none⟩ (.int .i64 V.n)).setCell ⟨g, o + 2, none⟩ (.string (strOf V.t))).setCell ⟨g, o + 3, none⟩ (.bool V.b)
theorem vals_cells {w0 w : World} {g n c : Nat} {b : List Vl} (h : Vals w0 w (.slice (some ⟨g, 0, none⟩) n c) b) (i : Nat) (hi : i < b.length) : CellsAt w g (i * 4) (b.getD i Vl.zero) := by
  obtain ⟨g', o, e, hc⟩ := h.at.get i hi
  injection e with e
  injection e with e1 e2
  subst e1 e2
  rw [Nat.zero_add] at hc
  exact hc
theorem vals_frozen {w0 w : World} {g n c : Nat} {b : List Vl} (h : Vals w0 w (.slice (some ⟨g, 0, none⟩) n c) b) (k : Nat) : w.frozen? ⟨g, k, none⟩ = false := by
  obtain ⟨hb, hl, hr⟩ := h
  rcases hr with ⟨e, _⟩ | ⟨g', cap, cur, e, hg, hc, h1, h2, h3, h4⟩
  · cases e
  injection e with e1 e2 e3
  injection e1 with e1
  injection e1 with e1
  subst e1
  exact frozen_of_row _ _ _ _ _ hc
theorem vals_put {w0 w : World} {g n c : Nat} {b : List Vl} (h : Vals w0 w (.slice (some ⟨g, 0, none⟩) n c) b) (i : Nat) (hi : i < b.length) (V : Vl) : Vals w0 (put4 w g (i * 4) V) (.slice (some ⟨g, 0, none⟩) n c) (b.set i V) := by
  obtain ⟨W', h1, h2⟩ := vals_store h i hi V
  obtain ⟨c0, c1, c2, c3⟩ := vals_cells h i hi
  have ht : w.there g (i * 4) 4 := fun j hj => ⟨by
    match j, hj with
    | 0, _ => simp only [Nat.add_zero]; rw [c0]; rfl
    | 1, _ => rw [c1]; rfl
    | 2, _ => rw [c2]; rfl
    | 3, _ => rw [c3]; rfl, vals_frozen h _⟩
  have h3 := run_storeAt_mid (P := Tryd.prog) w g (i * 4) 23 #[.int .i64 V.ty, .int .i64 V.n, .string (strOf V.t), .bool V.b] ht (by kernel_rfl) (all_oneCell_toArray (cs := vcells V) (one_vcells V))
  rw [h3] at h1
  injection h1 with _ h1
  subst h1
  exact h2
theorem cell_put {w : World} {p q : Addr} {x v : Value} (h : w.cell? q = some v) : ∃ v', (w.setCell p x).cell? q = some v' :=
  if e : p = q then ⟨x, by subst e; exact World.cell?_setCell_same w p x h⟩ else ⟨v, (World.cell?_setCell_other w p q x e).trans h⟩
theorem vals_swap {w0 w : World} {g n c : Nat} {b : List Vl} (h : Vals w0 w (.slice (some ⟨g, 0, none⟩) n c) b) (i k : Nat) (hi : i < b.length) (hk : k < b.length) :
    Vals w0 (put4 (put4 w g (i * 4) (b.getD k Vl.zero)) g (k * 4) (b.getD i Vl.zero)) (.slice (some ⟨g, 0, none⟩) n c) (swapL b i k) :=
  vals_put (vals_put h i hi _) k (by rw [List.length_set]; exact hk) _
/-- What stands in the second place's cells behind the first store, cell for cell, as a walk asks it. -/
theorem swap_cells {w : World} {g o p : Nat} {K : Vl} (V : Vl) (h : CellsAt w g p K) :
    (∃ v, (w.setCell ⟨g, o, none⟩ (.int .i64 V.ty)).cell? ⟨g, p, none⟩ = some v) ∧
    (∃ v, ((w.setCell ⟨g, o, none⟩ (.int .i64 V.ty)).setCell ⟨g, o + 1, none⟩ (.int .i64 V.n)).cell? ⟨g, p + 1, none⟩ = some v) ∧
    (∃ v, (((w.setCell ⟨g, o, none⟩ (.int .i64 V.ty)).setCell ⟨g, o + 1, none⟩ (.int .i64 V.n)).setCell ⟨g, o + 2, none⟩ (.string (strOf V.t))).cell? ⟨g, p + 2, none⟩ = some v) ∧
    (∃ v, ((((w.setCell ⟨g, o, none⟩ (.int .i64 V.ty)).setCell ⟨g, o + 1, none⟩ (.int .i64 V.n)).setCell ⟨g, o + 2, none⟩ (.string (strOf V.t))).setCell ⟨g, o + 3, none⟩ (.bool V.b)).cell? ⟨g, p + 3, none⟩ = some v) := by
  obtain ⟨c0, c1, c2, c3⟩ := h
  refine ⟨cell_put c0, ?_, ?_, ?_⟩
  · obtain ⟨v, e⟩ := cell_put (p := ⟨g, o, none⟩) (x := .int .i64 V.ty) c1
    exact cell_put e
  · obtain ⟨v, e⟩ := cell_put (p := ⟨g, o, none⟩) (x := .int .i64 V.ty) c2
    obtain ⟨v, e⟩ := cell_put (p := ⟨g, o + 1, none⟩) (x := .int .i64 V.n) e
    exact cell_put e
  · obtain ⟨v, e⟩ := cell_put (p := ⟨g, o, none⟩) (x := .int .i64 V.ty) c3
    obtain ⟨v, e⟩ := cell_put (p := ⟨g, o + 1, none⟩) (x := .int .i64 V.n) e
    obtain ⟨v, e⟩ := cell_put (p := ⟨g, o + 2, none⟩) (x := .string (strOf V.t)) e
    exact cell_put e
end Go.Proofs.YtigafjdacllohabDoor
