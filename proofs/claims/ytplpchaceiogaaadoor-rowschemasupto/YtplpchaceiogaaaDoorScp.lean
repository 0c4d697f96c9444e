/- A schema's values; slices of values built and appended in regions that draw. -/
import Derived.Test.YtplpchaceiogaaaDoorOps
import Derived.Test.YtplpchaceiogaaaDoorOpt
import Derived.Test.YtplpchaceiogaaaDoorRefE
namespace Go.Proofs.YtplpchaceiogaaaDoor
open Go.RowKit
set_option linter.unusedVariables false
set_option linter.unusedSimpArgs false
set_option maxRecDepth 100000

def colVs (C : Cl) : List Vl := [tV C.nm, nV C.ty, bV C.nn, bV C.un]
def idxVs (X : Ix) : List Vl := [tV X.nm, nV X.col, bV X.un]
def schC (T : Tb) (k : Nat) : List Vl := [tV T.nm, nV (T.cols.length : Int)] ++ (T.cols.take k).flatMap colVs
def schI (T : Tb) (k : Nat) : List Vl := schC T T.cols.length ++ [nV (T.idx.length : Int)] ++ (T.idx.take k).flatMap idxVs
def schR (T : Tb) (k : Nat) : List Vl := schI T T.idx.length ++ [nV T.head, nV (T.roots.length : Int)] ++ (T.roots.take k).map nV
def schL (T : Tb) : List Vl := [tV T.nm, nV (T.cols.length : Int)] ++ T.cols.flatMap colVs ++ [nV (T.idx.length : Int)] ++ T.idx.flatMap idxVs ++ [nV T.head, nV (T.roots.length : Int)] ++ T.roots.map nV
theorem schR_all (T : Tb) : schR T T.roots.length = schL T := by
  unfold schR schI schC schL
  rw [List.take_length, List.take_length, List.take_length]
theorem schC_next {T : Tb} {k : Nat} (h : k < T.cols.length) : schC T (k + 1) = schC T k ++ colVs (T.cols.getD k Cl.zero) := by
  unfold schC
  rw [List.take_succ_eq_append_getElem h, List.flatMap_append]
  simp [h]
theorem schI_next {T : Tb} {k : Nat} (h : k < T.idx.length) : schI T (k + 1) = schI T k ++ idxVs (T.idx.getD k Ix.zero) := by
  unfold schI
  rw [List.take_succ_eq_append_getElem h, List.flatMap_append]
  simp [h]
theorem schR_next {T : Tb} {k : Nat} (h : k < T.roots.length) : schR T (k + 1) = schR T k ++ [nV (T.roots.getD k 0)] := by
  unfold schR
  rw [List.take_succ_eq_append_getElem h, List.map_append]
  simp [h]
theorem len_cols : ∀ l : List Cl, (l.flatMap colVs).length = 4 * l.length
  | [] => rfl
  | x :: l => by rw [List.flatMap_cons, List.length_append, len_cols l, List.length_cons]; simp [colVs]; omega
theorem len_idx : ∀ l : List Ix, (l.flatMap idxVs).length = 3 * l.length
  | [] => rfl
  | x :: l => by rw [List.flatMap_cons, List.length_append, len_idx l, List.length_cons]; simp [idxVs]; omega
theorem schC_len {T : Tb} (h : T.Few) (k : Nat) : (schC T k).length + 4 ≤ 90000000 := by
  have h1 := h.cols
  have h2 := List.length_take_le k T.cols
  have h3 := List.length_take_le' k T.cols
  simp only [schC, List.length_append, len_cols, List.length_cons, List.length_nil]
  omega
theorem schI_len {T : Tb} (h : T.Few) (k : Nat) : (schI T k).length + 4 ≤ 190000000 := by
  have h1 := h.idx
  have h2 := schC_len h T.cols.length
  have h3 := List.length_take_le' k T.idx
  simp only [schI, List.length_append, len_idx, List.length_cons, List.length_nil]
  omega
theorem schR_len {T : Tb} (h : T.Few) (k : Nat) : (schR T k).length + 4 ≤ 290000000 := by
  have h1 := h.roots
  have h2 := schI_len h T.idx.length
  have h3 := List.length_take_le' k T.roots
  simp only [schR, List.length_append, List.length_map, List.length_cons, List.length_nil]
  omega
theorem nV_wf {n : Int} (h : in64 n) : (nV n).wf := ⟨by simp [nV], h⟩
theorem tV_wf (t : List UInt8) : (tV t).wf := ⟨by simp [tV], by simp [tV]⟩
theorem bV_wf (b : Bool) : (bV b).wf := ⟨by simp [bV], by simp [bV]⟩
theorem in64_len {n : Nat} (h : n ≤ 2000000) : in64 (n : Int) := ⟨by omega, by omega⟩
theorem schL_wf {T : Tb} (h : T.wf) (hf : T.Few) : ∀ V ∈ schL T, V.wf := by
  intro V hV
  simp only [schL, List.mem_append, List.mem_cons, List.not_mem_nil, or_false, List.mem_flatMap, List.mem_map] at hV
  rcases hV with ((((((rfl | rfl) | ⟨C, hC, hV⟩) | rfl) | ⟨X, hX, hV⟩) | (rfl | rfl)) | ⟨r, hr, rfl⟩)
  · exact tV_wf _
  · exact nV_wf (in64_len hf.cols)
  · simp [colVs] at hV
    rcases hV with rfl | rfl | rfl | rfl
    · exact tV_wf _
    · exact nV_wf (h.cols C hC)
    · exact bV_wf _
    · exact bV_wf _
  · exact nV_wf (in64_len hf.idx)
  · simp [idxVs] at hV
    rcases hV with rfl | rfl | rfl
    · exact tV_wf _
    · exact nV_wf (h.idx X hX)
    · exact bV_wf _
  · exact nV_wf h.head
  · exact nV_wf (in64_len hf.roots)
  · exact nV_wf (h.roots r hr)
theorem bulk_app (a b : List Vl) : bulk (a ++ b) = bulk a + bulk b := by simp [bulk]
theorem bulk_cols : ∀ l : List Cl, bulk (l.flatMap colVs) = (l.map fun C => 2 * C.nm.length + 80).sum
  | [] => rfl
  | x :: l => by rw [List.flatMap_cons, bulk_app, bulk_cols l]; simp [colVs, bulk, tV, nV, bV] <;> omega
theorem bulk_idx : ∀ l : List Ix, bulk (l.flatMap idxVs) = (l.map fun X => 2 * X.nm.length + 60).sum
  | [] => rfl
  | x :: l => by rw [List.flatMap_cons, bulk_app, bulk_idx l]; simp [idxVs, bulk, tV, nV, bV] <;> omega
theorem bulk_roots : ∀ l : List Int, bulk (l.map nV) = (l.map fun _ => 20).sum
  | [] => rfl
  | x :: l => by
    have := bulk_roots l
    have e : bulk ((x :: l).map nV) = 20 + bulk (l.map nV) := by simp [bulk, nV]
    rw [e, this]
    simp
theorem bulk_sch (T : Tb) : bulk (schL T) = tbulk T := by
  unfold schL tbulk
  rw [bulk_app, bulk_app, bulk_app, bulk_app, bulk_app, bulk_cols, bulk_idx, bulk_roots]
  simp [bulk, tV, nV]
  omega
/-! ### Memory -/
theorem vals_new {w0 w : World} (hb : Below w0.heap.size w0 w) (L : List Vl) (hn : L.length ≤ 1000) : Vals w0 (w.alloc (.cells (vsCells L).toArray 32)) (.slice (some ⟨w.heap.size, 0, none⟩) L.length L.length) L := by
  refine ⟨hb.alloc hb.size _, by rw [length_vsCells], .inr ⟨w.heap.size, L.length, (vsCells L).toArray, rfl, hb.size, heap_alloc_new _ _, Nat.le_refl _, by simp only [maxLen]; omega, by simp [length_vsCells], ?_⟩⟩
  have e : (vsCells L).take (L.length * 4) = vsCells L := List.take_of_length_le (by rw [length_vsCells]; exact Nat.le_refl _)
  simpa using e
theorem buildV2 (A B : Vl) (w : World) : (Instr.buildSlice 35 2 #[(0, .agg #[.int .i64 A.ty, .int .i64 A.n, .string (strOf A.t), .bool A.b]), (1, .agg #[.int .i64 B.ty, .int .i64 B.n, .string (strOf B.t), .bool B.b])]).run Tryd.prog w = .ok (.slice (some ⟨w.heap.size, 0, none⟩) 2 2) (w.alloc (.cells (vsCells [A, B]).toArray 32)) := by kernel_rfl
theorem op_build2 (ρ : Operand → Value) (o : Oper) (x0 x1 : Operand) (ho : o.op = .buildSlice 35 2 #[(0, x0), (1, x1)]) (A B : Vl) (h0 : ρ x0 = .agg #[.int .i64 A.ty, .int .i64 A.n, .string (strOf A.t), .bool A.b]) (h1 : ρ x1 = .agg #[.int .i64 B.ty, .int .i64 B.n, .string (strOf B.t), .bool B.b]) (w : World) :
    (execOp ρ o).run Tryd.prog w = .ok (.value (.slice (some ⟨w.heap.size, 0, none⟩) 2 2)) (w.alloc (.cells (vsCells [A, B]).toArray 32)) := by
  unfold execOp
  simp only [ho]
  simp [h0, h1, buildV2, Result.andThen]
theorem buildV3 (A B C : Vl) (w : World) : (Instr.buildSlice 35 3 #[(0, .agg #[.int .i64 A.ty, .int .i64 A.n, .string (strOf A.t), .bool A.b]), (1, .agg #[.int .i64 B.ty, .int .i64 B.n, .string (strOf B.t), .bool B.b]), (2, .agg #[.int .i64 C.ty, .int .i64 C.n, .string (strOf C.t), .bool C.b])]).run Tryd.prog w = .ok (.slice (some ⟨w.heap.size, 0, none⟩) 3 3) (w.alloc (.cells (vsCells [A, B, C]).toArray 32)) := by kernel_rfl
theorem op_build3 (ρ : Operand → Value) (o : Oper) (x0 x1 x2 : Operand) (ho : o.op = .buildSlice 35 3 #[(0, x0), (1, x1), (2, x2)]) (A B C : Vl) (h0 : ρ x0 = .agg #[.int .i64 A.ty, .int .i64 A.n, .string (strOf A.t), .bool A.b]) (h1 : ρ x1 = .agg #[.int .i64 B.ty, .int .i64 B.n, .string (strOf B.t), .bool B.b]) (h2 : ρ x2 = .agg #[.int .i64 C.ty, .int .i64 C.n, .string (strOf C.t), .bool C.b]) (w : World) :
    (execOp ρ o).run Tryd.prog w = .ok (.value (.slice (some ⟨w.heap.size, 0, none⟩) 3 3)) (w.alloc (.cells (vsCells [A, B, C]).toArray 32)) := by
  unfold execOp
  simp only [ho]
  simp [h0, h1, h2, buildV3, Result.andThen]
theorem buildV4 (A B C D : Vl) (w : World) : (Instr.buildSlice 35 4 #[(0, .agg #[.int .i64 A.ty, .int .i64 A.n, .string (strOf A.t), .bool A.b]), (1, .agg #[.int .i64 B.ty, .int .i64 B.n, .string (strOf B.t), .bool B.b]), (2, .agg #[.int .i64 C.ty, .int .i64 C.n, .string (strOf C.t), .bool C.b]), (3, .agg #[.int .i64 D.ty, .int .i64 D.n, .string (strOf D.t), .bool D.b])]).run Tryd.prog w = .ok (.slice (some ⟨w.heap.size, 0, none⟩) 4 4) (w.alloc (.cells (vsCells [A, B, C, D]).toArray 32)) := by kernel_rfl
theorem op_build4 (ρ : Operand → Value) (o : Oper) (x0 x1 x2 x3 : Operand) (ho : o.op = .buildSlice 35 4 #[(0, x0), (1, x1), (2, x2), (3, x3)]) (A B C D : Vl) (h0 : ρ x0 = .agg #[.int .i64 A.ty, .int .i64 A.n, .string (strOf A.t), .bool A.b]) (h1 : ρ x1 = .agg #[.int .i64 B.ty, .int .i64 B.n, .string (strOf B.t), .bool B.b]) (h2 : ρ x2 = .agg #[.int .i64 C.ty, .int .i64 C.n, .string (strOf C.t), .bool C.b]) (h3 : ρ x3 = .agg #[.int .i64 D.ty, .int .i64 D.n, .string (strOf D.t), .bool D.b]) (w : World) :
    (execOp ρ o).run Tryd.prog w = .ok (.value (.slice (some ⟨w.heap.size, 0, none⟩) 4 4)) (w.alloc (.cells (vsCells [A, B, C, D]).toArray 32)) := by
  unfold execOp
  simp only [ho]
  simp [h0, h1, h2, h3, buildV4, Result.andThen]
theorem step_append_vals {ops : Array Oper} {Q : Exit → Act → World → Prop} {md : Region.Mode} {S : World → Prop} {o : Oper} {fuel : Nat} {listed : Array Bool} {a : Act} {w : World} (j dst : Nat) (hj : ops[j]? = some o)
    (hr : Region.ready md ops listed = [j]) (hdst : o.dst = some dst) (hgd : o.guard = none) (s x : Operand) (hop : o.op = Op.call { callee := Callee.builtin Builtin.append, args := #[s, x], argTypes := #[35, 35] })
    (w0 : World) (u y : Value) (A C : List Vl) (hs : a.eval s = u) (hy : a.eval x = y) (h : Vals w0 w u A) (hx : VsAt w y C) (hl : A.length + C.length ≤ 1000000000)
    (hK : ∀ u' w', Vals w0 w' u' (A ++ C) → w.grownBy w' u.ownBlock → S w' ∧ wpAnyH Tryd.prog md ops Q S fuel (listed.setIfInBounds j true) (a.put (some dst) u') w') :
    wpAnyH Tryd.prog md ops Q S (fuel + 1) listed a w := by
  refine step_by j hj hr (fun K hK' => ?_)
  have hw : Region.wanted o (yielded ops a.tmps) = true := by simp [Region.wanted, hgd]
  rw [if_pos hw]
  obtain ⟨v', w', hrun, r1, r2⟩ := run_append_row (P := Tryd.prog) w w0.heap.size 35 o.type 32 (.agg #[.int .i64 0, .int .i64 0, .string { data := #[] }, .bool false]) 4 40 Tryd.underlying35 Tryd.info32 rfl (by omega) u A.length (vsCells A) h.own y C.length (vsCells C) hx (by rw [length_vsCells]) (one_vsCells C) (by omega) (by omega) h.below.size
  have hE : (execOp a.eval o).run Tryd.prog w = .ok (.value v') w' := by
    simp [execOp, hop, resolve, invoke, builtin, hs, hy, hrun, Result.andThen]
  unfold Oper.wp
  rw [hE, Oper.upon_value, hdst]
  have := hK v' w' ⟨grown_below h.below h.own r2, by rw [List.length_append, vsCells_append]; exact r1⟩ r2
  exact hK' _ _ this.1 this.2
theorem op_len25 (ρ : Operand → Value) (o : Oper) (x : Operand) (ho : o.op = .call { callee := .builtin .len, args := #[x], argTypes := #[25] }) (a : Option Addr) (n c : Nat) (hx : ρ x = .slice a n c) {w : World} : (execOp ρ o).run Tryd.prog w = .ok (.value (.int .i64 (n : Int))) w := op_len ρ o x 25 24 Tryd.underlying25 ho a n c hx
theorem op_len27 (ρ : Operand → Value) (o : Oper) (x : Operand) (ho : o.op = .call { callee := .builtin .len, args := #[x], argTypes := #[27] }) (a : Option Addr) (n c : Nat) (hx : ρ x = .slice a n c) {w : World} : (execOp ρ o).run Tryd.prog w = .ok (.value (.int .i64 (n : Int))) w := op_len ρ o x 27 3 Tryd.underlying27 ho a n c hx
theorem TBox.c0 {w : World} {q : Nat} {T : Tb} {p : Pl} (h : TBox w q T p) : w.cell? ⟨q, 0, none⟩ = some (.string (strOf T.nm)) := by rw [cell_row h]; rfl
theorem TBox.d1 {w : World} {q : Nat} {T : Tb} {p : Pl} (h : TBox w q T p) : w.cell? ⟨q, 1, none⟩ = some (.slice p.ca T.cols.length p.cc) := by rw [cell_row h]; rfl
theorem TBox.d2 {w : World} {q : Nat} {T : Tb} {p : Pl} (h : TBox w q T p) : w.cell? ⟨q, 2, none⟩ = some (.slice p.ia T.idx.length p.ic) := by rw [cell_row h]; rfl
theorem TBox.c3 {w : World} {q : Nat} {T : Tb} {p : Pl} (h : TBox w q T p) : w.cell? ⟨q, 3, none⟩ = some (.int .i64 T.head) := by rw [cell_row h]; rfl
theorem TBox.d4 {w : World} {q : Nat} {T : Tb} {p : Pl} (h : TBox w q T p) : w.cell? ⟨q, 4, none⟩ = some (.slice p.ra T.roots.length p.rc) := by rw [cell_row h]; rfl
def CBox (w : World) (b : Nat) (C : Cl) : Prop := w.heap[b]? = some (.cells #[.string (strOf C.nm), .int .i64 C.ty, .bool C.nn, .bool C.un] 24 (0, 0))
theorem CBox.belowW {w w' : World} {b : Nat} {C : Cl} (h : CBox w b C) (hb : Below w.heap.size w w') : CBox w' b C := (hb.block b (lt_of_heap h)).trans h
theorem CBox.cl {w : World} {b : Nat} {C : Cl} (h : CBox w b C) : ClAt w b 0 C := by
  refine ⟨?_, ?_, ?_, ?_⟩ <;> (rw [cell_row h]; rfl)
def XBox (w : World) (b : Nat) (X : Ix) : Prop := w.heap[b]? = some (.cells #[.string (strOf X.nm), .int .i64 X.col, .bool X.un] 85 (0, 0))
theorem XBox.belowW {w w' : World} {b : Nat} {X : Ix} (h : XBox w b X) (hb : Below w.heap.size w w') : XBox w' b X := (hb.block b (lt_of_heap h)).trans h
theorem XBox.ix {w : World} {b : Nat} {X : Ix} (h : XBox w b X) : IxAt w b 0 X := by
  refine ⟨?_, ?_, ?_⟩ <;> (rw [cell_row h]; rfl)
end Go.Proofs.YtplpchaceiogaaaDoor
