/- Slices of tokens. -/
import Derived.Test.YtnbegpfbolkdiaaDoorNxt
import Derived.Laws.StructEq
namespace Go.Proofs.YtnbegpfbolkdiaaDoor
set_option maxRecDepth 100000
open Go.RowKit
set_option linter.unusedVariables false
set_option linter.unusedSimpArgs false

def tcells (t : Tk) : List Value := [.int .i64 (t.k : Int), .string (strOf t.t), .int .i64 (t.n : Int), .int .i64 (t.p : Int)]
def tsCells (l : List Tk) : List Value := l.flatMap tcells
def Tk.zero : Tk := ⟨0, [], 0, 0⟩
theorem tsCells_cons (t : Tk) (l : List Tk) : tsCells (t :: l) = .int .i64 (t.k : Int) :: .string (strOf t.t) :: .int .i64 (t.n : Int) :: .int .i64 (t.p : Int) :: tsCells l := rfl
theorem length_tsCells : ∀ l, (tsCells l).length = l.length * 4
  | [] => rfl
  | v :: l => by rw [tsCells_cons]; simp [length_tsCells l]; omega
theorem tsCells_append (a b : List Tk) : tsCells (a ++ b) = tsCells a ++ tsCells b := by simp [tsCells]
theorem one_tsCells (l : List Tk) : ∀ u ∈ tsCells l, u.oneCell' = true := by
  intro u hu
  obtain ⟨v, _, hu⟩ := List.mem_flatMap.1 hu
  simp [tcells] at hu
  rcases hu with rfl | rfl | rfl | rfl <;> rfl
theorem tsCells_get : ∀ (l : List Tk) (i : Nat), i < l.length → (tsCells l)[i * 4]? = some (.int .i64 ((l.getD i Tk.zero).k : Int)) ∧ (tsCells l)[i * 4 + 1]? = some (.string (strOf (l.getD i Tk.zero).t)) ∧ (tsCells l)[i * 4 + 2]? = some (.int .i64 ((l.getD i Tk.zero).n : Int)) ∧ (tsCells l)[i * 4 + 3]? = some (.int .i64 ((l.getD i Tk.zero).p : Int))
  | [], i, h => by simp at h
  | v :: l, 0, h => ⟨rfl, rfl, rfl, rfl⟩
  | v :: l, i + 1, h => by
    have := tsCells_get l i (by simpa using h)
    rw [tsCells_cons, show (i + 1) * 4 = i * 4 + 1 + 1 + 1 + 1 by omega, List.getD_cons_succ]
    simpa using this
/-- Tokens that may be read. -/
def TsAt (w : World) (v : Value) (l : List Tk) : Prop := Row w v l.length (tsCells l)
theorem TsAt.belowW {w w' : World} {v : Value} {l : List Tk} (h : TsAt w v l) (hb : Below w.heap.size w w') : TsAt w' v l := Row.belowW h hb
theorem TsAt.len {w : World} {v : Value} {l : List Tk} (h : TsAt w v l) : ∃ ao c, v = .slice ao l.length c ∧ l.length ≤ c ∧ c ≤ maxLen := let ⟨ao, c, e, h1, h2, _⟩ := h; ⟨ao, c, e, h1, h2⟩
structure TkAt (w : World) (g o : Nat) (t : Tk) : Prop where
  c0 : w.cell? ⟨g, o, none⟩ = some (.int .i64 (t.k : Int))
  c1 : w.cell? ⟨g, o + 1, none⟩ = some (.string (strOf t.t))
  c2 : w.cell? ⟨g, o + 2, none⟩ = some (.int .i64 (t.n : Int))
  c3 : w.cell? ⟨g, o + 3, none⟩ = some (.int .i64 (t.p : Int))
theorem TsAt.get {w : World} {ao : Option Addr} {n c : Nat} {l : List Tk} (h : TsAt w (.slice ao n c) l) (i : Nat) (hi : i < l.length) : ∃ g o, ao = some ⟨g, o, none⟩ ∧ TkAt w g (o + i * 4) (l.getD i Tk.zero) := by
  obtain ⟨ao', c', e, h1, h2, h3⟩ := h
  injection e with e1 e2 e3
  subst e1
  obtain ⟨g, o, ea, hr⟩ := h3 (fun h0 => by
    have := length_tsCells l
    rw [h0] at this
    simp at this; omega)
  obtain ⟨g0, g1, g2, g3⟩ := tsCells_get l i hi
  exact ⟨g, o, ea, hr _ _ g0, by rw [Nat.add_assoc]; exact hr _ _ g1, by rw [Nat.add_assoc]; exact hr _ _ g2, by rw [Nat.add_assoc]; exact hr _ _ g3⟩
theorem Tryd.info29 : (Tryd.prog.info? 29).map (fun i => (i.zero, i.size, i.bytes)) = some (some (.agg #[.int .i64 0, .string { data := #[] }, .int .i64 0, .int .i64 0]), 4, 40) := by kernel_rfl
/-- Tokens of the call's own. -/
structure Toks (w0 w : World) (v : Value) (l : List Tk) : Prop where
  below : Below w0.heap.size w0 w
  own : w.ownsRow w0.heap.size 29 4 v l.length (tsCells l)
theorem Toks.belowW {w0 w w' : World} {v : Value} {l : List Tk} (h : Toks w0 w v l) (hb : Below w.heap.size w w') : Toks w0 w' v l :=
  ⟨h.below.trans (hb.mono h.below.size), owns_below h.own hb (Nat.le_refl _)⟩
theorem Toks.at {w0 w : World} {v : Value} {l : List Tk} (h : Toks w0 w v l) : TsAt w v l := Row.of_owns h.own
theorem Toks.nil {w0 w : World} (h : Below w0.heap.size w0 w) : Toks w0 w (.slice none 0 0) [] := ⟨h, World.ownsRow_nil _ _ _ _⟩
theorem Toks.alloc {w0 w : World} {v : Value} {l : List Tk} (h : Toks w0 w v l) (o : Obj) : Toks w0 (w.alloc o) v l := h.belowW ((Below.refl _ _).alloc (Nat.le_refl _) _)
theorem buildT (t : Tk) (w : World) : (Instr.buildSlice 24 1 #[(0, .agg #[.int .i64 (t.k : Int), .string (strOf t.t), .int .i64 (t.n : Int), .int .i64 (t.p : Int)])]).run Tryd.prog w = .ok (.slice (some ⟨w.heap.size, 0, none⟩) 1 1) (w.alloc (.cells #[.int .i64 (t.k : Int), .string (strOf t.t), .int .i64 (t.n : Int), .int .i64 (t.p : Int)] 29)) := by kernel_rfl
theorem tsAt1 (w : World) (t : Tk) : TsAt (w.alloc (.cells #[.int .i64 (t.k : Int), .string (strOf t.t), .int .i64 (t.n : Int), .int .i64 (t.p : Int)] 29)) (.slice (some ⟨w.heap.size, 0, none⟩) 1 1) [t] :=
  ⟨_, 1, rfl, Nat.le_refl _, by simp only [maxLen]; omega, fun _ => ⟨w.heap.size, 0, rfl, fun j u hu => by
    rw [Nat.zero_add, cell_row (heap_alloc_new w _)]
    simpa [tsCells, tcells] using hu⟩⟩
theorem tsAt2 (W : World) (o : Obj) (t : Tk) : TsAt ((W.alloc o).alloc (.cells #[.int .i64 (t.k : Int), .string (strOf t.t), .int .i64 (t.n : Int), .int .i64 (t.p : Int)] 29)) (.slice (some ⟨W.heap.size + 1, 0, none⟩) 1 1) [t] := by
  have := tsAt1 (W.alloc o) t
  rwa [show (W.alloc o).heap.size = W.heap.size + 1 by simp] at this
theorem grown_below {w0 w w' : World} {base : Nat} {e : TypeId} {size : Nat} {v : Value} {n : Nat} {xs : List Value} (hb : Below w0.heap.size w0 w) (ho : w.ownsRow base e size v n xs) (hg : w.grownBy w' v.ownBlock) (hbase : w0.heap.size ≤ base) : Below w0.heap.size w0 w' :=
  ⟨hg.os.trans hb.os, hg.tape.trans hb.tape, hg.output.trans hb.output, Nat.le_trans hb.size hg.size, fun k hk =>
    (hg.block k (Nat.lt_of_lt_of_le hk hb.size) (fun e => by have := (ho.lt k e.symm).1; omega)).trans (hb.block k hk)⟩
theorem wpList_append_toks {ops : Array Oper} {rest : List Oper} {o : Oper} {a : Act} {w : World} {Q : Exit → Act → World → Prop}
    (hg : o.guard = none) (s x : Operand) (hop : o.op = Op.call { callee := Callee.builtin Builtin.append, args := #[s, x], argTypes := #[24, 24] })
    (w0 : World) (u y : Value) (A C : List Tk) (hs : a.eval s = u) (hy : a.eval x = y) (h : Toks w0 w u A) (hx : TsAt w y C) (hl : A.length + C.length ≤ 1000000000)
    (hK : ∀ u' w', Toks w0 w' u' (A ++ C) → w.grownBy w' u.ownBlock → wpList Tryd.prog ops Q rest (a.put o.dst u') w') :
    wpList Tryd.prog ops Q (o :: rest) a w := by
  refine wpList_append_row hg s x 24 hop w0.heap.size 29 (.agg #[.int .i64 0, .string { data := #[] }, .int .i64 0, .int .i64 0]) 4 40 Tryd.underlying24 Tryd.info29 rfl (by omega) u A.length (tsCells A) y C.length (tsCells C) hs hy h.own hx (by rw [length_tsCells]) (one_tsCells C) (by omega) (by omega) h.below.size ?_
  intro v' w' r1 r2
  exact hK v' w' ⟨grown_below h.below h.own r2 (Nat.le_refl _), by rw [List.length_append, tsCells_append]; exact r1⟩ r2
end Go.Proofs.YtnbegpfbolkdiaaDoor
