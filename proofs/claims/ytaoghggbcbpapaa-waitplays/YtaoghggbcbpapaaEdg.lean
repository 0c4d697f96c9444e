/- Edges in memory. -/
import Derived.Test.YtaoghggbcbpapaaSrt
namespace Go.Proofs.Ytaoghggbcbpapaa
open Go.RowKit
set_option linter.unusedVariables false
set_option linter.unusedSimpArgs false

def ecells (E : List (Int × Int)) : List Value := E.flatMap fun e => [icell e.1, icell e.2]
theorem ecells_len (E : List (Int × Int)) : (ecells E).length = E.length * 2 := by
  induction E with
  | nil => rfl
  | cons e E ih => simp only [ecells, List.flatMap_cons, List.length_append, List.length_cons, List.length_nil] at *; omega
theorem ecells_snoc (E : List (Int × Int)) (a b : Int) : ecells (E ++ [(a, b)]) = ecells E ++ [.int .i64 a, .int .i64 b] := by simp [ecells, icell]
theorem ecells_get : ∀ (E : List (Int × Int)) (i : Nat) (e : Int × Int), E[i]? = some e → (ecells E)[i * 2]? = some (icell e.1) ∧ (ecells E)[i * 2 + 1]? = some (icell e.2)
  | [], i, e, h => by simp at h
  | x :: E, 0, e, h => by simp at h; subst h; simp [ecells]
  | x :: E, i + 1, e, h => by
    rw [List.getElem?_cons_succ] at h
    have := ecells_get E i e h
    have hc : ecells (x :: E) = icell x.1 :: icell x.2 :: ecells E := rfl
    rw [hc, show (i + 1) * 2 = i * 2 + 1 + 1 by omega]
    simpa using this
/-- A slice of edges. -/
structure EdgesAt (w : World) (a : Option Addr) (E : List (Int × Int)) : Prop where
  len : E.length ≤ 1000000
  at' : ∀ (i : Nat) (x : Int × Int), E[i]? = some x → ∃ b o, a = some ⟨b, o, none⟩ ∧ b < w.heap.size ∧ w.rangeAt b (o + i * 2) [.int .i64 x.1, .int .i64 x.2]
theorem EdgesAt.belowB {B : Nat} {w w' : World} {a : Option Addr} {E : List (Int × Int)} (h : EdgesAt w a E) (hb : Below B w w') (hB : w.heap.size ≤ B) : EdgesAt w' a E :=
  ⟨h.len, fun i x hx => by
    obtain ⟨b, o, e, h3, h4⟩ := h.at' i x hx
    exact ⟨b, o, e, Nat.lt_of_lt_of_le h3 hb.size, fun j u hu => (hb.cell (p := ⟨b, o + i * 2 + j, none⟩) (Nat.lt_of_lt_of_le h3 hB)).trans (h4 j u hu)⟩⟩
theorem EdgesAt.belowW {w w' : World} {a : Option Addr} {E : List (Int × Int)} (h : EdgesAt w a E) (hb : Below w.heap.size w w') : EdgesAt w' a E := h.belowB hb (Nat.le_refl _)
theorem EdgesAt.nil (w : World) (a : Option Addr) : EdgesAt w a [] := ⟨by simp, fun i x hx => by simp at hx⟩
theorem EdgesAt.of_owns {w : World} {base : Nat} {t : TypeId} {v : Value} {E : List (Int × Int)} (h : w.ownsRow base t 2 v E.length (ecells E)) (hl : E.length ≤ 1000000) : ∃ a c, v = .slice a E.length c ∧ EdgesAt w a E := by
  rcases own_of h with ⟨rfl, h1, h2⟩ | ⟨g, cap, cur, rfl, h1, h2, h3, h4, h5, h6⟩
  · have : E = [] := List.eq_nil_of_length_eq_zero h1
    subst this
    exact ⟨_, _, rfl, EdgesAt.nil _ _⟩
  · refine ⟨_, _, rfl, hl, fun i x hx => ⟨g, 0, rfl, lt_of_heap h2, fun j u hu => ?_⟩⟩
    have he := ecells_get E i x hx
    have hi := (List.getElem?_eq_some_iff.1 hx).1
    rw [Nat.zero_add, cell_row h2]
    rw [← h6] at he
    have hg : ∀ k, k < E.length * 2 → ∀ u, (cur.toList.take (E.length * 2))[k]? = some u → cur[k]? = some u := fun k hk u hu => by
      rw [List.getElem?_take_of_lt hk] at hu
      simpa using hu
    match j, hu with
    | 0, hu => simp at hu; subst hu; exact hg _ (by omega) _ he.1
    | 1, hu => simp at hu; subst hu; exact hg _ (by omega) _ he.2
    | j + 2, hu => simp at hu
theorem Try.size24 : (Try.prog.info? 24).map (·.size) = some 2 := by kernel_rfl
theorem Try.size52 : (Try.prog.info? 52).map (·.size) = some 2 := by kernel_rfl
theorem Try.info24 : (Try.prog.info? 24).map (fun i => (i.zero, i.size, i.bytes)) = some (some (.agg #[.int .i64 0, .int .i64 0]), 2, 16) := by kernel_rfl
theorem Try.info52 : (Try.prog.info? 52).map (fun i => (i.zero, i.size, i.bytes)) = some (some (.agg #[.int .i64 0, .int .i64 0]), 2, 16) := by kernel_rfl
theorem heap_alloc_new (w : World) (o : Obj) : (w.alloc o).heap[w.heap.size]? = some o := (MapKept.heap_alloc w o).1
theorem take_snoc {α : Type} {l : List α} {k : Nat} {x : α} (hx : l[k]? = some x) : l.take (k + 1) = l.take k ++ [x] := by
  obtain ⟨hl, rfl⟩ := List.getElem?_eq_some_iff.1 hx
  exact List.take_succ_eq_append_getElem hl
/-- A new row of what was just laid. -/
theorem row_new (w : World) (t : TypeId) (cs : List Value) (n : Nat) (hc : n ≤ 1000) : Row (w.alloc (.cells cs.toArray t)) (.slice (some ⟨w.heap.size, 0, none⟩) n n) n cs :=
  ⟨_, n, rfl, Nat.le_refl _, by simp only [maxLen]; omega, fun _ => ⟨w.heap.size, 0, rfl, fun j u hu => by rw [Nat.zero_add, cell_row (heap_alloc_new w _)]; simpa using hu⟩⟩
theorem below_new {b : Nat} {w0 w : World} (h : Below b w0 w) (hb : b ≤ w0.heap.size) (o : Obj) : Below b w0 (w.alloc o) := h.trans ((Below.refl _ w).alloc (Nat.le_trans hb h.size) o)
end Go.Proofs.Ytaoghggbcbpapaa
