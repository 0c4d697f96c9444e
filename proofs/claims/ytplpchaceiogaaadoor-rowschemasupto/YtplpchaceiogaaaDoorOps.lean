/- Loads, indexes and calls as steps of regions that draw. -/
import Derived.Test.YtplpchaceiogaaaDoorIdx
import Derived.Test.YtplpchaceiogaaaDoorCpr
namespace Go.Proofs.YtplpchaceiogaaaDoor
open Go.RowKit
set_option linter.unusedVariables false
set_option linter.unusedSimpArgs false
set_option maxRecDepth 100000

theorem Tryd.isAgg25 : ∀ w, (isAgg 25).run Tryd.prog w = .ok false w := fun w => by kernel_rfl
theorem Tryd.isAgg26 : ∀ w, (isAgg 26).run Tryd.prog w = .ok false w := fun w => by kernel_rfl
theorem Tryd.isAgg27 : ∀ w, (isAgg 27).run Tryd.prog w = .ok false w := fun w => by kernel_rfl
theorem Tryd.isAgg35 : ∀ w, (isAgg 35).run Tryd.prog w = .ok false w := fun w => by kernel_rfl
theorem Tryd.isAgg41 : ∀ w, (isAgg 41).run Tryd.prog w = .ok false w := fun w => by kernel_rfl
theorem Tryd.isAgg61 : ∀ w, (isAgg 61).run Tryd.prog w = .ok false w := fun w => by kernel_rfl
theorem Tryd.isAgg30 : ∀ w, (isAgg 30).run Tryd.prog w = .ok false w := fun w => by kernel_rfl
theorem run_index25 (w : World) (b o n cap i : Nat) (h : i < n) : (Instr.indexAt 25 (.slice (some ⟨b, o, none⟩) n cap) (.int .i64 (i : Int))).run Tryd.prog w = .ok (.pointer (some ⟨b, o + i * 4, none⟩)) w := by
  have hu := Tryd.underlying25
  have hs : ∀ w, (sizeOf 24).run Tryd.prog w = .ok 4 w := fun w => by kernel_rfl
  simp [go_sem, hu, hs, h]
theorem run_index26 (w : World) (b o n cap i : Nat) (h : i < n) : (Instr.indexAt 26 (.slice (some ⟨b, o, none⟩) n cap) (.int .i64 (i : Int))).run Tryd.prog w = .ok (.pointer (some ⟨b, o + i * 3, none⟩)) w := by
  have hu := Tryd.underlying26
  have hs : ∀ w, (sizeOf 85).run Tryd.prog w = .ok 3 w := fun w => by kernel_rfl
  simp [go_sem, hu, hs, h]
theorem run_index27 (w : World) (b o n cap i : Nat) (h : i < n) : (Instr.indexAt 27 (.slice (some ⟨b, o, none⟩) n cap) (.int .i64 (i : Int))).run Tryd.prog w = .ok (.pointer (some ⟨b, o + i, none⟩)) w := by
  have hu := Tryd.underlying27
  have hs : ∀ w, (sizeOf 3).run Tryd.prog w = .ok 1 w := fun w => by kernel_rfl
  simp [go_sem, hu, hs, h]
theorem run_index35 (w : World) (b o n cap i : Nat) (h : i < n) : (Instr.indexAt 35 (.slice (some ⟨b, o, none⟩) n cap) (.int .i64 (i : Int))).run Tryd.prog w = .ok (.pointer (some ⟨b, o + i * 4, none⟩)) w := by
  have hu := Tryd.underlying35
  have hs : ∀ w, (sizeOf 32).run Tryd.prog w = .ok 4 w := fun w => by kernel_rfl
  simp [go_sem, hu, hs, h]
theorem run_index61 (w : World) (b o n cap i : Nat) (h : i < n) : (Instr.indexAt 61 (.slice (some ⟨b, o, none⟩) n cap) (.int .i64 (i : Int))).run Tryd.prog w = .ok (.pointer (some ⟨b, o + i, none⟩)) w := by
  have hu := Tryd.underlying61
  have hs : ∀ w, (sizeOf 4).run Tryd.prog w = .ok 1 w := fun w => by kernel_rfl
  simp [go_sem, hu, hs, h]
theorem run_index41 (w : World) (b o n cap i : Nat) (h : i < n) : (Instr.indexAt 41 (.slice (some ⟨b, o, none⟩) n cap) (.int .i64 (i : Int))).run Tryd.prog w = .ok (.pointer (some ⟨b, o + i, none⟩)) w := by
  have hu := Tryd.underlying41
  have hs : ∀ w, (sizeOf 35).run Tryd.prog w = .ok 1 w := fun w => by kernel_rfl
  simp [go_sem, hu, hs, h]
theorem run_index30 (w : World) (b o n cap i : Nat) (h : i < n) : (Instr.indexAt 30 (.slice (some ⟨b, o, none⟩) n cap) (.int .i64 (i : Int))).run Tryd.prog w = .ok (.pointer (some ⟨b, o + i, none⟩)) w := by
  have hu := Tryd.underlying30
  have hs : ∀ w, (sizeOf 5).run Tryd.prog w = .ok 1 w := fun w => by kernel_rfl
  simp [go_sem, hu, hs, h]
theorem run_index72 (w : World) (b o n cap i : Nat) (h : i < n) : (Instr.indexAt 72 (.slice (some ⟨b, o, none⟩) n cap) (.int .i64 (i : Int))).run Tryd.prog w = .ok (.pointer (some ⟨b, o + i, none⟩)) w := by
  have hu := Tryd.underlying72
  have hs : ∀ w, (sizeOf 9).run Tryd.prog w = .ok 1 w := fun w => by kernel_rfl
  simp [go_sem, hu, hs, h]
theorem Tryd.size24 : (Tryd.prog.info? 24).map (·.size) = some 4 := by kernel_rfl
theorem Tryd.size85 : (Tryd.prog.info? 85).map (·.size) = some 3 := by kernel_rfl
theorem Tryd.size29 : (Tryd.prog.info? 29).map (·.size) = some 5 := by kernel_rfl
theorem load32 {w : World} {b : Nat} {V : Vl} (h : Box w b V) : (Instr.loadAt 32 (.pointer (some ⟨b, 0, none⟩))).run Tryd.prog w = .ok (.agg #[.int .i64 V.ty, .int .i64 V.n, .string (strOf V.t), .bool V.b]) w :=
  run_loadAt_mid w b 0 32 [.int .i64 V.ty, .int .i64 V.n, .string (strOf V.t), .bool V.b] _ (fun j v hv => by rw [Nat.zero_add, cell_row h]; simpa using hv) Tryd.underlying32 rfl Tryd.size32
theorem load24c {w : World} {g o : Nat} {C : Cl} (h : ClAt w g o C) : (Instr.loadAt 24 (.pointer (some ⟨g, o, none⟩))).run Tryd.prog w = .ok (.agg #[.string (strOf C.nm), .int .i64 C.ty, .bool C.nn, .bool C.un]) w :=
  run_loadAt_mid w g o 24 [.string (strOf C.nm), .int .i64 C.ty, .bool C.nn, .bool C.un] _ (fun j v hv => by
    match j, hv with
    | 0, hv => simp at hv; subst hv; exact h.c0
    | 1, hv => simp at hv; subst hv; exact h.c1
    | 2, hv => simp at hv; subst hv; exact h.c2
    | 3, hv => simp at hv; subst hv; exact h.c3
    | j + 4, hv => simp at hv) Tryd.underlying24 rfl Tryd.size24
/-- A table in a box. -/
def TBox (w : World) (q : Nat) (T : Tb) (p : Pl) : Prop := w.heap[q]? = some (.cells #[.string (strOf T.nm), .slice p.ca T.cols.length p.cc, .slice p.ia T.idx.length p.ic, .int .i64 T.head, .slice p.ra T.roots.length p.rc] 29 (0, 0))
theorem TBox.belowW {w w' : World} {q : Nat} {T : Tb} {p : Pl} (h : TBox w q T p) (hb : Below w.heap.size w w') : TBox w' q T p := (hb.block q (lt_of_heap h)).trans h
theorem load29 {w : World} {q : Nat} {T : Tb} {p : Pl} (h : TBox w q T p) : (Instr.loadAt 29 (.pointer (some ⟨q, 0, none⟩))).run Tryd.prog w = .ok (.agg #[.string (strOf T.nm), .slice p.ca T.cols.length p.cc, .slice p.ia T.idx.length p.ic, .int .i64 T.head, .slice p.ra T.roots.length p.rc]) w :=
  run_loadAt_mid w q 0 29 [.string (strOf T.nm), .slice p.ca T.cols.length p.cc, .slice p.ia T.idx.length p.ic, .int .i64 T.head, .slice p.ra T.roots.length p.rc] _ (fun j v hv => by rw [Nat.zero_add, cell_row h]; simpa using hv) Tryd.underlying29 rfl Tryd.size29
theorem ClAt.belowW {w w' : World} {g o : Nat} {C : Cl} (h : ClAt w g o C) (hb : Below w.heap.size w w') : ClAt w' g o C :=
  ⟨(hb.cell (World.block_lt_of_cell? w _ h.c0)).trans h.c0, (hb.cell (World.block_lt_of_cell? w _ h.c1)).trans h.c1, (hb.cell (World.block_lt_of_cell? w _ h.c2)).trans h.c2, (hb.cell (World.block_lt_of_cell? w _ h.c3)).trans h.c3⟩
theorem IxAt.belowW {w w' : World} {g o : Nat} {X : Ix} (h : IxAt w g o X) (hb : Below w.heap.size w w') : IxAt w' g o X :=
  ⟨(hb.cell (World.block_lt_of_cell? w _ h.c0)).trans h.c0, (hb.cell (World.block_lt_of_cell? w _ h.c1)).trans h.c1, (hb.cell (World.block_lt_of_cell? w _ h.c2)).trans h.c2⟩
theorem cell_belowW {w w' : World} {p : Addr} {v : Value} (h : w.cell? p = some v) (hb : Below w.heap.size w w') : w'.cell? p = some v := (hb.cell (World.block_lt_of_cell? w _ h)).trans h
/-- Numbers of the type of errors. -/
theorem op_eql36 (ρ : Operand → Value) (o : Oper) (x y : Operand) (tt : TypeId) (ho : o.op = .binOp .eql 36 x y tt) (n m : Int) (hx : ρ x = .int .i64 n) (hy : ρ y = .int .i64 m) (b : Bool) (hb : (n == m) = b) {w : World} : (execOp ρ o).run Tryd.prog w = .ok (.value (.bool b)) w := by
  have hu := Tryd.underlying36
  unfold execOp
  simp only [ho, hx, hy]
  simp [go_sem, hu, hb]
theorem op_eqlS (ρ : Operand → Value) (o : Oper) (x y : Operand) (tt : TypeId) (ho : o.op = .binOp .eql 9 x y tt) (s : ByteArray) (hx : ρ x = .string s) (hy : ρ y = .string s) {w : World} : (execOp ρ o).run Tryd.prog w = .ok (.value (.bool true)) w := by
  have hu := Tryd.underlying9
  unfold execOp
  simp only [ho, hx, hy]
  simp [go_sem, hu]
theorem step_call0_to {P : Program} {ops : Array Oper} {Q : Exit → Act → World → Prop} {md : Region.Mode} {S : World → Prop} {o : Oper} {fuel : Nat} {listed : Array Bool} {a : Act} {w : World} {R : Ending → World → Prop} (j dst f : Nat) (hj : ops[j]? = some o)
    (hr : Region.ready md ops listed = [j]) (hd : o.dst = some dst) (hw : Region.wanted o (yielded ops a.tmps) = true) (ts : Array TypeId) (hop : o.op = Op.call { callee := Callee.value (Operand.func f), args := #[], argTypes := ts })
    (hcf : ∀ args w, (callFunc f args).run P w = .ok (.enter f args) w) (hc : Calls P f #[] w R)
    (hK : ∀ e w', R e w' → ∃ v, e = .returned v ∧ S w' ∧ wpAnyH P md ops Q S fuel (listed.setIfInBounds j true) (a.put (some dst) v) w') : wpAnyH P md ops Q S (fuel + 1) listed a w := by
  refine step_by j hj hr (fun K hK' => ?_)
  rw [if_pos hw]
  have hrun : (execOp a.eval o).run P w = .ok (.enter f #[]) w := by
    have hff : a.eval (.func f) = .func (.func f) #[] #[] := rfl
    unfold execOp
    simp [hop, resolve, hff, Deferred.ofValue, invoke]
    exact hcf _ _
  unfold Oper.wp
  rw [hrun, Oper.upon_enter]
  refine hc.mono ?_
  intro e w' hR
  obtain ⟨v, rfl, hS, hW⟩ := hK e w' hR
  show K (a.put o.dst v) w'
  rw [hd]
  exact hK' _ _ hS hW
end Go.Proofs.YtplpchaceiogaaaDoor
