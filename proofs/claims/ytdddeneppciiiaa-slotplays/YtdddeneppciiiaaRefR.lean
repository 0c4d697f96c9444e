/- The document's answer: 'Read'. -/
import Derived.Test.YtdddeneppciiiaaRefP
namespace Go.Proofs.Ytdddeneppciiiaa
open Go.RowKit
set_option linter.unusedVariables false
set_option linter.unusedSimpArgs false

theorem Try.info71 : (Try.prog.info? 71).map (fun i => (i.zero, i.size, i.bytes)) = some (some (.agg #[.bool false, .string ByteArray.empty]), 2, 24) := by kernel_rfl
theorem Try.size71 : (Try.prog.info? 71).map (·.size) = some 2 := by kernel_rfl
theorem Try.built67 : Try.prog.built 67 [] = some zeroPg := by kernel_rfl
theorem Try.size67 {cs : Array Value} (h : cs.size = 2) : (Try.prog.info? 67).map (·.size) = some cs.size := by rw [h]; kernel_rfl
theorem Try.results34 : Try.f34.results = #[.cell 2 67, .tmp 3] := rfl
theorem buildRec (b : Bool) (s : ByteArray) (w : World) : (Instr.buildSlice 65 1 #[(0, .agg #[.bool b, .string s])]).run Try.prog w = .ok (.slice (some ⟨w.heap.size, 0, none⟩) 1 1) (w.alloc (.cells #[.bool b, .string s] 71)) := by
  kernel_rfl
theorem build71 (b : Bool) (s : ByteArray) (w : World) : (Instr.build 71 #[(0, .bool b), (1, .string s)]).run Try.prog w = .ok (.agg #[.bool b, .string s]) w := by
  kernel_rfl
theorem op_build71 (ρ : Operand → Value) (o : Oper) (x y : Operand) (ho : o.op = .build 71 #[(0, x), (1, y)]) (b : Bool) (s : ByteArray) (hx : ρ x = .bool b) (hy : ρ y = .string s) {w : World} : (execOp ρ o).run Try.prog w = .ok (.value (.agg #[.bool b, .string s])) w := by
  refine op_build ρ o 71 _ ho _ ?_
  have : (#[(0, x), (1, y)] : Array (Nat × Operand)).map (fun (i, x) => (i, ρ x)) = #[(0, .bool b), (1, .string s)] := by simp [hx, hy]
  rw [this]
  exact build71 b s w
theorem op_bslice (ρ : Operand → Value) (o : Oper) (t : TypeId) (x : Operand) (ho : o.op = .buildSlice t 1 #[(0, x)]) (px v : Value) (hx : ρ x = px) {P : Program} {w w' : World} (hr : (Instr.buildSlice t 1 #[(0, px)]).run P w = .ok v w') : (execOp ρ o).run P w = .ok (.value v) w' := by
  unfold execOp
  simp [ho, hx, hr]
theorem op_append (ρ : Operand → Value) (o : Oper) (t : TypeId) (x y : Operand) (ho : o.op = .call { callee := .builtin .append, args := #[x, y], argTypes := #[t, t] }) (px py v : Value) (hx : ρ x = px) (hy : ρ y = py) {P : Program} {w w' : World} (hr : (Builtin.append_ #[t, t] o.type #[px, py]).run P w = .ok v w') : (execOp ρ o).run P w = .ok (.value v) w' := by
  simp [execOp, ho, resolve, invoke, builtin, hx, hy, hr, Result.andThen]
theorem wpList_append_is {P : Program} {ops : Array Oper} {rest : List Oper} {o : Oper} {a : Act} {w w' : World} {Q : Exit → Act → World → Prop} (hg : o.guard = none) (s x : Operand) (t : TypeId) (hop : o.op = Op.call { callee := Callee.builtin Builtin.append, args := #[s, x], argTypes := #[t, t] })
    (u y v' : Value) (hs : a.eval s = u) (hy : a.eval x = y) (hrun : (Builtin.append_ #[t, t] o.type #[u, y]).run P w = .ok v' w') (hK : wpList P ops Q rest (a.put o.dst v') w') : wpList P ops Q (o :: rest) a w := by
  refine wpList_plain hg fun K hK' => ?_
  unfold Oper.wp
  simp [execOp, hop, resolve, invoke, builtin, hs, hy, hrun, Result.andThen]
  exact hK' _ _ hK
theorem run_load67 (w : World) (b : Nat) (x : Int) (v : Value) (hg : w.heap[b]? = some (.cells #[.int .i64 x, v] 67 (0, 0))) : (Instr.loadAt 67 (.pointer (some ⟨b, 0, none⟩))).run Try.prog w = .ok (.agg #[.int .i64 x, v]) w := by
  have := run_loadVar_mid (P := Try.prog) w b 0 67 [.int .i64 x, v] _ (fun j u hu => by rw [Nat.zero_add, cell_row hg]; simpa using hu) Try.underlying67 rfl (Try.size67 (cs := #[.int .i64 x, v]) rfl)
  simpa [Instr.loadAt, Instr.sureAddr] using this
theorem toList_strOf (bs : List UInt8) : (strOf bs).toList = bs := by
  rw [ByteArray.toList_eq]
  simp [strOf]
theorem op_gtr3 (ρ : Operand → Value) (o : Oper) (x y : Operand) (tt : TypeId) (ho : o.op = .binOp .gtr 3 x y tt) (n m : Int) (hx : ρ x = .int .i64 n) (hy : ρ y = .int .i64 m) (b : Bool) (hb : decide (m < n) = b) {w : World} : (execOp ρ o).run Try.prog w = .ok (.value (.bool b)) w := by
  have hu := Try.underlying3
  unfold execOp
  simp only [ho, hx, hy]
  simp [go_sem, hu, hb]
theorem op_neq9 (ρ : Operand → Value) (o : Oper) (x y : Operand) (tt : TypeId) (ho : o.op = .binOp .neq 9 x y tt) (s t : List UInt8) (hx : ρ x = .string (strOf s)) (hy : ρ y = .string (strOf t)) (b : Bool) (hb : decide (s ≠ t) = b) {w : World} : (execOp ρ o).run Try.prog w = .ok (.value (.bool b)) w := by
  have hu := Try.underlying9
  have e : strOf s = strOf t ↔ s = t := ⟨strOf_inj, fun h => by rw [h]⟩
  unfold execOp
  simp only [ho, hx, hy]
  by_cases h : s = t
  · subst h
    simp at hb
    subst hb
    simp [go_sem, hu]
  · have h2 : ¬ (strOf s = strOf t) := fun h' => h (e.1 h')
    simp [h] at hb
    subst hb
    simp [go_sem, hu, toList_strOf, h]
theorem run_index65 (w : World) (g o n cap i : Nat) (h : i < n) : (Instr.indexAt 65 (.slice (some ⟨g, o, none⟩) n cap) (.int .i64 (i : Int))).run Try.prog w = .ok (.pointer (some ⟨g, o + i * 2, none⟩)) w := by
  have hu := Try.underlying65
  have hs := Try.sizeOf71
  simp [go_sem, hu, hs, h]
theorem run_store65 (w : World) (b o : Nat) (C : Array Value) (t : TypeId) (ao : Option Addr) (n c : Nat) (hg : w.heap[b]? = some (.cells C t (0, 0))) (ho : o < C.size) : (Instr.storeAt 65 (.pointer (some ⟨b, o, none⟩)) (.slice ao n c)).run Try.prog w = .ok () (w.setCell ⟨b, o, none⟩ (.slice ao n c)) := by
  have hc : w.cell? ⟨b, o, none⟩ = some C[o] := by rw [cell_row hg]; simp [ho]
  have hf : w.frozen? ⟨b, o, none⟩ = false := frozen_row hg
  have hs := Try.sizeOf65
  simp [go_sem, hs, hc, hf]
/-- The document's slots, of the call's own. -/
def RSOwn (w0 w : World) (v : Value) (S : List Slt) : Prop := Below w0.heap.size w0 w ∧ w.ownsRow w0.heap.size 71 2 v S.length (rsCells S)
theorem RSOwn.at {w0 w : World} {v : Value} {S : List Slt} (h : RSOwn w0 w v S) : RSAt w v S := Row.of_owns h.2
theorem RSOwn.below {w0 w w' : World} {v : Value} {S : List Slt} (h : RSOwn w0 w v S) (hb : Below w.heap.size w w') : RSOwn w0 w' v S := ⟨h.1.trans (hb.mono h.1.size), owns_below h.2 hb (Nat.le_refl _)⟩
theorem RSOwn.stay {w0 w w' : World} {b : Nat} {C : Array Value} {t : TypeId} {fr : Nat × Nat} {v : Value} {S : List Slt} (h : RSOwn w0 w v S) (hb : w.heap[b]? = some (.cells C t fr)) (ht : t ≠ 71) (h0 : w0.heap.size ≤ b) (ho : Off [b] w w') : RSOwn w0 w' v S := by
  refine ⟨h.1.trans (ho.below h.1.size (by simp; exact h0)), owns_off h.2 ho (fun k hk => ?_)⟩
  simp at hk
  subst hk
  exact owns_ne h.2 hb ht
/-- A page of the document's in its box. -/
structure RBox (w0 w : World) (b : Nat) (nx : Int) (v : Value) (S : List Slt) : Prop where
  own : RSOwn w0 w v S
  base : w0.heap.size ≤ b
  box : w.heap[b]? = some (.cells #[.int .i64 nx, v] 67 (0, 0))
theorem RBox.below {w0 w w' : World} {b : Nat} {nx : Int} {v : Value} {S : List Slt} (h : RBox w0 w b nx v S) (hb : Below w.heap.size w w') : RBox w0 w' b nx v S :=
  ⟨h.own.below hb, h.base, (hb.block _ (lt_of_heap h.box)).trans h.box⟩
theorem RBox.c0 {w0 w : World} {b : Nat} {nx : Int} {v : Value} {S : List Slt} (h : RBox w0 w b nx v S) : w.cell? ⟨b, 0, none⟩ = some (.int .i64 nx) := by rw [cell_row h.box]; rfl
theorem RBox.c1 {w0 w : World} {b : Nat} {nx : Int} {v : Value} {S : List Slt} (h : RBox w0 w b nx v S) : w.cell? ⟨b, 1, none⟩ = some v := by rw [cell_row h.box]; rfl
theorem RBox.fz {w0 w : World} {b : Nat} {nx : Int} {v : Value} {S : List Slt} (h : RBox w0 w b nx v S) (k : Nat) : w.frozen? ⟨b, k, none⟩ = false := frozen_row h.box
theorem RBox.bw {w0 w : World} {b : Nat} {nx : Int} {v : Value} {S : List Slt} (h : RBox w0 w b nx v S) : Below w0.heap.size w0 w := h.own.1
theorem RBox.new {w0 w : World} {nx : Int} {v : Value} {S : List Slt} (h : RSOwn w0 w v S) : RBox w0 (w.alloc (.cells #[.int .i64 nx, v] 67)) w.heap.size nx v S :=
  ⟨h.below ((Below.refl _ _).alloc (Nat.le_refl _) _), h.1.size, heap_alloc_new w _⟩
theorem RBox.put {w0 w : World} {b : Nat} {nx : Int} {v v' : Value} {S' : List Slt} (h0 : w0.heap.size ≤ b) (hbox : w.heap[b]? = some (.cells #[.int .i64 nx, v] 67 (0, 0))) (h' : RSOwn w0 w v' S') : RBox w0 (w.setCell ⟨b, 1, none⟩ v') b nx v' S' :=
  ⟨h'.stay hbox (by decide) h0 ((Off.refl _ _).setCell _ _ (.inl (by simp))), h0, heap_set_same _ hbox⟩
/-- A slot appended. -/
theorem RBox.push {w0 w : World} {b : Nat} {nx : Int} {v : Value} {S : List Slt} (h : RBox w0 w b nx v S) (hl : S.length ≤ 1000) (s : Slt) (x : Value) (hx : Row w x 1 (rsCells [s])) :
    ∃ a3 c3 w3, (Builtin.append_ #[65, 65] 65 #[v, x]).run Try.prog w = .ok (.slice a3 (S.length + 1) c3) w3 ∧ w3.heap[b]? = some (.cells #[.int .i64 nx, v] 67 (0, 0)) ∧ RSOwn w0 w3 (.slice a3 (S.length + 1) c3) (S ++ [s]) ∧ (∀ k C, k < w.heap.size → w.heap[k]? = some (.cells C 67 (0, 0)) → w3.heap[k]? = some (.cells C 67 (0, 0))) := by
  obtain ⟨v', w', hr, ho, hg⟩ := run_append_row (P := Try.prog) w w0.heap.size 65 65 71 (.agg #[.bool false, .string ByteArray.empty]) 2 24 Try.underlying65 Try.info71 rfl (by omega) v S.length (rsCells S) h.own.2 x 1 (rsCells [s]) hx (by rw [length_rsCells]; rfl) (one_rsCells _) (by omega) (by omega) h.bw.size
  obtain ⟨a3, c3, rfl⟩ := owns_len ho
  have hOff : Off (match v.ownBlock with | some k => [k] | none => []) w w' := (Off.refl _ _).grown hg (fun k hk => .inl (by rw [hk]; simp))
  refine ⟨a3, c3, w', hr, ?_, ⟨h.bw.trans (hOff.below h.bw.size (fun k hk => ?_)), by rw [List.length_append, List.length_singleton, rsCells_append]; exact ho⟩, fun k C hk hc => ?_⟩
  · exact (hg.block b (lt_of_heap h.box) (fun e => owns_ne h.own.2 h.box (by decide) e.symm)).trans h.box
  · cases hv : v.ownBlock with
    | none => rw [hv] at hk; simp at hk
    | some j =>
      rw [hv] at hk
      simp at hk
      subst hk
      exact (h.own.2.lt k hv).1
  · exact (hg.block k hk (fun e => owns_ne h.own.2 hc (by decide) e.symm)).trans hc
theorem row_rec (w : World) (s : Slt) : Row (w.alloc (.cells #[.bool s.isSome, .string (strOf (s.getD []))] 71)) (.slice (some ⟨w.heap.size, 0, none⟩) 1 1) 1 (rsCells [s]) :=
  ⟨_, 1, rfl, Nat.le_refl _, by simp only [maxLen]; omega, fun _ => ⟨w.heap.size, 0, rfl, fun j u hu => by
    rw [Nat.zero_add, cell_row (heap_alloc_new w _)]
    have hu : [Value.bool s.isSome, .string (strOf (s.getD []))][j]? = some u := hu
    simpa using hu⟩⟩
def RReadEnd (w : World) (od : Option Pg) (e : Ending) (w' : World) : Prop :=
  Below w.heap.size w w' ∧ match od with
  | none => e = .returned (.tuple #[.agg #[.int .i64 0, .slice none 0 0], .bool false])
  | some g => ∃ ao c, e = .returned (.tuple #[.agg #[.int .i64 (g.next : Int), .slice ao g.sl.length c], .bool true]) ∧ RSOwn w w' (.slice ao g.sl.length c) g.sl
/-- Where 'Read' is. -/
structure RrAt (w wr : World) (nx : Nat) (ao : Option Addr) (c : Nat) (S : List Slt) : Prop where
  box : RBox w wr (w.heap.size + 1) (nx : Int) (.slice ao S.length c) S
  res : wr.heap[w.heap.size]? = some (.cells zeroPg 67 (0, 0))
theorem RrAt.drewN {w wr : World} {nx : Nat} {ao : Option Addr} {c : Nat} {S : List Slt} (h : RrAt w wr nx ao c S) (m : Nat) : RrAt w (wr.drewN m) nx ao c S :=
  ⟨h.box.below (below_drewN _ _ m), h.res⟩
theorem RrAt.below {w wr w' : World} {nx : Nat} {ao : Option Addr} {c : Nat} {S : List Slt} (h : RrAt w wr nx ao c S) (hb : Below wr.heap.size wr w') : RrAt w w' nx ao c S :=
  ⟨h.box.below hb, (hb.block _ (lt_of_heap h.res)).trans h.res⟩
theorem RrAt.push {w wr : World} {nx : Nat} {ao : Option Addr} {c : Nat} {S : List Slt} (h : RrAt w wr nx ao c S) (hl : S.length ≤ 1000) (s : Slt) :
    ∃ a3 c3 w3, (Builtin.append_ #[65, 65] 65 #[.slice ao S.length c, .slice (some ⟨wr.heap.size, 0, none⟩) 1 1]).run Try.prog (wr.alloc (.cells #[.bool s.isSome, .string (strOf (s.getD []))] 71)) = .ok (.slice a3 (S.length + 1) c3) w3 ∧ w3.heap[w.heap.size + 1]? = some (.cells #[.int .i64 (nx : Int), .slice ao S.length c] 67 (0, 0)) ∧ RrAt w (w3.setCell ⟨w.heap.size + 1, 1, none⟩ (.slice a3 (S.length + 1) c3)) nx a3 c3 (S ++ [s]) ∧ Below w.heap.size w w3 := by
  have hA := h.below ((Below.refl _ _).alloc (Nat.le_refl _) (.cells #[.bool s.isSome, .string (strOf (s.getD []))] 71))
  obtain ⟨a3, c3, w3, h1, h2, h3, h4⟩ := hA.box.push hl s _ (row_rec wr s)
  refine ⟨a3, c3, w3, h1, h2, ⟨?_, ?_⟩, h3.1⟩
  · have := RBox.put hA.box.base h2 h3
    rw [List.length_append, List.length_singleton]
    exact this
  · rw [Below.heap_setCell _ _ _ _ (by simp)]
    exact h4 _ _ (lt_of_heap hA.res) hA.res
set_option maxHeartbeats 1000000 in
set_option maxRecDepth 100000 in
theorem rread_any {w : World} {v : Value} {bs : List UInt8} (h : Sl w v bs) : Calls Try.prog 34 #[v] w fun e w' => RReadEnd w (refDec bs) e w' := by
  obtain ⟨ao, c, rfl, hc1, hc2⟩ := h.len
  simp only [maxLen] at hc2
  have hB0 : Below w.heap.size w (w.alloc (.cells zeroPg 67)) := (Below.refl _ w).alloc (Nat.le_refl _) _
  have hQ0 : (w.alloc (.cells zeroPg 67)).heap[w.heap.size]? = some (.cells zeroPg 67 (0, 0)) := heap_alloc_new _ _
  have hz0 : (w.alloc (.cells zeroPg 67)).heap.size = w.heap.size + 1 := by simp
  unfold zeroPg at hB0 hQ0 hz0
  by_cases hlen : bs.length ≠ 504
  · have HD : Hid (refDec bs = none) := by unfold refDec; rw [Hid, if_pos hlen]
    have HQ := hide hQ0
    have HBE := hide hB0
    have hne : ¬ ((bs.length : Int) = 504) := by omega
    clear h hlen hQ0 hB0 hz0
    generalize bs.length = L at *
    go_enter Try.func34, Try.ntmps34
    go_wp2_with (first
      | (refine wpList_build_is rfl 67 _ rfl zeroPg Try.built67 ?_)
      | (refine wpList_store_row rfl 67 _ _ rfl w.heap.size zeroPg rfl rfl 67 _ HQ.out (Try.size67 rfl) rfl one_zeroPg ?_))
    refine bodyPost_ret (v := .tuple #[.agg zeroPg, .bool false]) (results_pg Try.results34 _ _ w.heap.size 67 zeroPg (0, 0) _ rfl (setRow_heap _ _ _ _ _ _ HQ.out) Try.underlying67 rfl (Try.size67 rfl)) rfl ?_
    refine ⟨below_setRow HBE.out (Nat.le_refl _) _, ?_⟩
    rw [HD.out]
    rfl
  · have hlen : bs.length = 504 := Classical.not_not.1 hlen
    have HD0 : Hid (refDec bs = if 124 < beval (bs.take 2) then none else contR bs (beval ((bs.drop 2).take 4)) (beval (bs.take 2)) []) := by unfold refDec; rw [Hid, if_neg (by simp [hlen])]
    have HSL := hide h
    have HN2 : Hid (∀ W, Below w.heap.size w W → Calls Try.prog 45 #[.slice ao 2 c] W fun e w' => e = .returned (.int .i64 (beval (bs.take 2) : Nat)) ∧ w' = W) := fun W hb => get_num ((h.to 2 (by omega)).belowW hb) (by simp; omega)
    have HN4 : Hid (∀ W, Below w.heap.size w W → Calls Try.prog 45 #[.slice (cutAt ao c 2) 4 (c - 2)] W fun e w' => e = .returned (.int .i64 (beval ((bs.drop 2).take 4) : Nat)) ∧ w' = W) := fun W hb => get_num ((h.mid 2 4 (by omega)).belowW hb) (by simp; omega)
    have hb2 : beval (bs.take 2) < 65536 := by have := beval_lt (bs.take 2); rwa [List.length_take, Nat.min_eq_left (by omega)] at this
    have hb4 : beval ((bs.drop 2).take 4) < 4294967296 := by have := beval_lt ((bs.drop 2).take 4); rwa [List.length_take, List.length_drop, Nat.min_eq_left (by omega)] at this
    have HNW : Hid (∀ W k, 6 + 4 * (k + 1) ≤ 504 → Below w.heap.size w W → Calls Try.prog 45 #[.slice (cutAt ao c (6 + 4 * k)) 2 (c - (6 + 4 * k))] W fun e w' => e = .returned (.int .i64 (whe bs k : Nat)) ∧ w' = W) := fun W k hk hb => get_num ((h.mid (6 + 4 * k) 2 (by omega)).belowW hb) (by simp; omega)
    have HNS : Hid (∀ W k, 6 + 4 * (k + 1) ≤ 504 → Below w.heap.size w W → Calls Try.prog 45 #[.slice (cutAt ao c (8 + 4 * k)) 2 (c - (8 + 4 * k))] W fun e w' => e = .returned (.int .i64 (szo bs k : Nat)) ∧ w' = W) := fun W k hk hb => get_num ((h.mid (8 + 4 * k) 2 (by omega)).belowW hb) (by simp; omega)
    have HWL : Hid (∀ k, whe bs k < 65536) := fun k => by
      have := beval_lt ((bs.drop (6 + 4 * k)).take 2)
      exact Nat.lt_of_lt_of_le this (Nat.le_trans (Nat.pow_le_pow_right (by omega) (List.length_take_le _ _)) (by decide))
    have HSZ : Hid (∀ k, szo bs k < 65536) := fun k => by
      have := beval_lt ((bs.drop (8 + 4 * k)).take 2)
      exact Nat.lt_of_lt_of_le this (Nat.le_trans (Nat.pow_le_pow_right (by omega) (List.length_take_le _ _)) (by decide))
    rw [hlen] at hc1
    rw [hlen]
    have Hlen := hide hlen
    have hcut2 := fun W => run_cut_to W ao 504 c 2 (by omega)
    have hcut6 : ∀ W, (Instr.sliceAt 23 (.slice ao 504 c) (some (.int .i64 2)) (some (.int .i64 6)) none).run Try.prog W = .ok (.slice (cutAt ao c 2) 4 (c - 2)) W := fun W => run_cut_mid W ao 504 c 2 6 (by omega) (by omega)
    have HB0 := hide hB0
    have HQ0 := hide hQ0
    clear h hlen hB0 hQ0
    generalize beval (bs.take 2) = n at *
    generalize beval ((bs.drop 2).take 4) = nx at *
    have HX0 : Hid (RrAt w ((w.alloc (.cells #[.int .i64 0, .slice none 0 0] 67)).alloc (.cells #[.int .i64 (nx : Int), .slice none 0 0] 67)) nx none 0 []) := by
      have := RBox.new (w0 := w) (w := w.alloc (.cells #[.int .i64 0, .slice none 0 0] 67)) (nx := (nx : Int)) (v := .slice none 0 0) (S := []) ⟨HB0.out, World.ownsRow_nil _ _ _ _⟩
      rw [hz0] at this
      exact ⟨this, (Below.heap_alloc _ _ _ (by rw [hz0]; omega)).trans HQ0.out⟩
    go_enter Try.func34, Try.ntmps34
    go_wp2_with fail
    refine (HN2.out _ HB0.out).mono ?_
    rintro e W1 ⟨rfl, hw1⟩
    subst hw1
    go_upto_region 5 with (go_at_call 45; refine (HN4.out _ HB0.out).mono ?_; rintro e W1 ⟨rfl, hw1⟩; subst hw1)
    clear HN2 HN4 hcut2 hcut6
    by_cases hn : 124 < n
    · have HD : Hid (refDec bs = none) := by rw [Hid, HD0.out, if_pos hn]
      have HQ := hide HX0.out.res
      have HBE := hide HX0.out.box.bw
      have hnI : 504 < 6 + 4 * (n : Int) := by omega
      clear HD0 HNW HNS
      go_wp2_with (first
        | (refine wpList_build_is rfl 67 _ rfl zeroPg Try.built67 ?_)
        | (refine wpList_store_row rfl 67 _ _ rfl w.heap.size zeroPg rfl rfl 67 _ HQ.out (Try.size67 rfl) rfl one_zeroPg ?_))
      refine bodyPost_ret (v := .tuple #[.agg zeroPg, .bool false]) (results_pg Try.results34 _ _ w.heap.size 67 zeroPg (0, 0) _ rfl (setRow_heap _ _ _ _ _ _ HQ.out) Try.underlying67 rfl (Try.size67 rfl)) rfl ?_
      refine ⟨below_setRow HBE.out (Nat.le_refl _) _, ?_⟩
      rw [HD.out]
      rfl
    · have HD1 : Hid (refDec bs = contR bs nx n []) := by rw [Hid, HD0.out, if_neg hn]
      have hnI : ¬ (504 < 6 + 4 * (n : Int)) := by omega
      clear HD0
      generalize (w.alloc (.cells #[.int .i64 0, .slice none 0 0] 67)).alloc (.cells #[.int .i64 (nx : Int), .slice none 0 0] 67) = W2 at *
      go_wp2
      go_loopw [6] (fun i wr => ∃ (k : Nat) (ak : Option Addr) (ck : Nat) (S : List Slt), k ≤ n ∧ i = .int .i64 (k : Int) ∧ S.length = k ∧ refDec bs = contR bs nx n S ∧ RrAt w wr nx ak ck S ∧ tsize S ≤ 6 + 484 * k) (fun i _ => n - (intOf i).toNat)
      case atStart => exact ⟨0, none, 0, [], Nat.zero_le _, rfl, rfl, HD1.out, HX0.out, by decide⟩
      case round =>
        obtain ⟨k, ak, ck, S, hk, rfl, hS, hdc, hA, htz⟩ := hrel
        have HA := hide hA
        have HDC := hide hdc
        have HS := hide hS
        have x0 := HA.out.box.c0
        have x1 := HA.out.box.c1
        rw [HS.out] at x1
        clear hA hdc hS HX0 HD1
        by_cases hlt : k < n
        · have HW1 := hide (HNW.out wr k (by omega) HA.out.box.bw)
          have HZ1 := hide (HNS.out wr k (by omega) HA.out.box.bw)
          have hwb := HWL.out k
          have hzb := HSZ.out k
          have HCW : Hid (szo bs k ≠ 0 → (480 < szo bs k - 1 ∨ 504 < whe bs k ∨ 504 < whe bs k + (szo bs k - 1)) → refDec bs = none) := fun h0 hx => by
            rw [HDC.out]
            exact contR_wrong (by rw [HS.out]; exact hlt) (by rw [HS.out]; exact h0) (by rw [HS.out]; exact hx)
          have HCN : Hid (szo bs k = 0 → refDec bs = contR bs nx n (S ++ [none])) := fun h1 => by
            rw [HDC.out]
            exact contR_none (by rw [HS.out]; exact hlt) (by rw [HS.out]; exact h1)
          have HCS : Hid (szo bs k ≠ 0 → szo bs k - 1 ≤ 480 → whe bs k + (szo bs k - 1) ≤ 504 → refDec bs = contR bs nx n (S ++ [some ((bs.drop (whe bs k)).take (szo bs k - 1))])) := fun h0 h1 h2 => by
            rw [HDC.out]
            have := contR_some (bs := bs) (nx := nx) (n := n) (S := S) (by rw [HS.out]; exact hlt) (by rw [HS.out]; exact h0) (by rw [HS.out]; exact h1) (by rw [HS.out]; exact h2)
            rw [HS.out] at this
            exact this
          have HSD : Hid (∀ z, whe bs k + z ≤ 504 → Sl w (.slice (cutAt ao c (whe bs k)) z (c - whe bs k)) ((bs.drop (whe bs k)).take z)) := fun z hz => HSL.out.mid (whe bs k) z (by rw [Hlen.out]; exact hz)
          have hca : ∀ u, (Instr.sliceAt 23 (.slice ao 504 c) (some (.int .i64 (6 + 4 * (k : Int)))) (some (.int .i64 (8 + 4 * (k : Int)))) none).run Try.prog u = .ok (.slice (cutAt ao c (6 + 4 * k)) 2 (c - (6 + 4 * k))) u := fun u => by
            have := run_cut_mid u ao 504 c (6 + 4 * k) (8 + 4 * k) (by omega) (by omega)
            rw [show 8 + 4 * k - (6 + 4 * k) = 2 by omega, show ((6 + 4 * k : Nat) : Int) = 6 + 4 * (k : Int) by omega, show ((8 + 4 * k : Nat) : Int) = 8 + 4 * (k : Int) by omega] at this
            exact this
          have hcb : ∀ u, (Instr.sliceAt 23 (.slice ao 504 c) (some (.int .i64 (8 + 4 * (k : Int)))) (some (.int .i64 (10 + 4 * (k : Int)))) none).run Try.prog u = .ok (.slice (cutAt ao c (8 + 4 * k)) 2 (c - (8 + 4 * k))) u := fun u => by
            have := run_cut_mid u ao 504 c (8 + 4 * k) (10 + 4 * k) (by omega) (by omega)
            rw [show 10 + 4 * k - (8 + 4 * k) = 2 by omega, show ((8 + 4 * k : Nat) : Int) = 8 + 4 * (k : Int) by omega, show ((10 + 4 * k : Nat) : Int) = 10 + 4 * (k : Int) by omega] at this
            exact this
          have HTN : Hid (∀ s : Slt, slen s ≤ 480 → tsize (S ++ [s]) ≤ 6 + 484 * (k + 1)) := fun s hs => by
            have h1 : tsize (S ++ [s]) = tsize S + 4 + slen s := by simp only [tsize, List.length_append, List.length_singleton, blen_append, blen]; omega
            omega
          clear HNW HNS HWL HSZ HDC
          generalize whe bs k = a at *
          generalize szo bs k = z at *
          go_wp2_with fail
          refine HW1.out.mono ?_
          rintro e W3 ⟨rfl, hw3⟩
          have hw3 := hw3.symm
          subst hw3
          by_cases hz : z = 0
          · subst hz
            have HDN := hide (HCN.out rfl)
            obtain ⟨a3, c3, w3, hrun, hbox3, hA3, hbw3⟩ := HA.out.push (by rw [HS.out]; omega) none
            have hrun : (Builtin.append_ #[65, 65] 65 #[.slice ak S.length ck, .slice (some ⟨wr.heap.size, 0, none⟩) 1 1]).run Try.prog (wr.alloc (.cells #[.bool false, .string { data := #[] }] 71)) = .ok (.slice a3 (S.length + 1) c3) w3 := hrun
            rw [HS.out] at hrun hA3 hbox3
            have HRUN := hide hrun
            have HA3 := hide hA3
            have y1 : w3.cell? ⟨w.heap.size + 1, 1, none⟩ = some (.slice ak k ck) := by rw [cell_row hbox3]; rfl
            have z1 : w3.frozen? ⟨w.heap.size + 1, 1, none⟩ = false := frozen_row hbox3
            have hbr := buildRec false { data := #[] } wr
            clear HCN HCW HCS HSD hrun hA3 hbox3
            go_upto_region 13 with (go_at_call 45; refine HZ1.out.mono ?_; rintro e W4 ⟨rfl, hw4⟩; have hw4 := hw4.symm; subst hw4)
            go_wp2_with (refine wpList_append_is rfl (.tmp 51) (.tmp 53) 65 rfl (.slice ak k ck) (.slice (some ⟨wr.heap.size, 0, none⟩) 1 1) _ rfl rfl HRUN.out ?_)
            go_roundw
            case rel => exact ⟨k + 1, a3, c3, S ++ [none], by omega, by go_num, by rw [List.length_append, HS.out]; rfl, HDN.out, HA3.out, HTN.out none (by decide)⟩
            case measure => simp [intOf]; omega
          · obtain ⟨y, rfl⟩ : ∃ y, z = y + 1 := ⟨z - 1, by omega⟩
            have hy1 : ((y + 1 : Nat) : Int) - 1 = (y : Int) := by omega
            simp only [Nat.add_sub_cancel] at HCW HCS
            have hz0 : ¬ (((y + 1 : Nat) : Int) = 0) := by omega
            by_cases hbad : 480 < y ∨ 504 < a ∨ 504 < a + y
            · have HD := hide (HCW.out (by omega) hbad)
              have HQ := hide HA.out.res
              have HBE := hide HA.out.box.bw
              clear HCN HCW HCS HSD
              by_cases h1 : 480 < y
              · have hI1 : 480 < (y : Int) := by omega
                go_upto_region 14 with (go_at_call 45; refine HZ1.out.mono ?_; rintro e W4 ⟨rfl, hw4⟩; have hw4 := hw4.symm; subst hw4)
                go_wp2_with (first
                  | (refine wpList_build_is rfl 67 _ rfl zeroPg Try.built67 ?_)
                  | (refine wpList_store_row rfl 67 _ _ rfl w.heap.size zeroPg rfl rfl 67 _ HQ.out (Try.size67 rfl) rfl one_zeroPg ?_))
                refine bodyPost_ret (v := .tuple #[.agg zeroPg, .bool false]) (results_pg Try.results34 _ _ w.heap.size 67 zeroPg (0, 0) _ rfl (setRow_heap _ _ _ _ _ _ HQ.out) Try.underlying67 rfl (Try.size67 rfl)) rfl ?_
                refine ⟨below_setRow HBE.out (Nat.le_refl _) _, ?_⟩
                rw [HD.out]
                rfl
              · have hI1 : ¬ (480 < (y : Int)) := by omega
                by_cases h2 : 504 < a
                · have hI2 : 504 < (a : Int) := by omega
                  go_upto_region 14 with (go_at_call 45; refine HZ1.out.mono ?_; rintro e W4 ⟨rfl, hw4⟩; have hw4 := hw4.symm; subst hw4)
                  go_wp2_with (first
                    | (refine wpList_build_is rfl 67 _ rfl zeroPg Try.built67 ?_)
                    | (refine wpList_store_row rfl 67 _ _ rfl w.heap.size zeroPg rfl rfl 67 _ HQ.out (Try.size67 rfl) rfl one_zeroPg ?_))
                  refine bodyPost_ret (v := .tuple #[.agg zeroPg, .bool false]) (results_pg Try.results34 _ _ w.heap.size 67 zeroPg (0, 0) _ rfl (setRow_heap _ _ _ _ _ _ HQ.out) Try.underlying67 rfl (Try.size67 rfl)) rfl ?_
                  refine ⟨below_setRow HBE.out (Nat.le_refl _) _, ?_⟩
                  rw [HD.out]
                  rfl
                · have hI2 : ¬ (504 < (a : Int)) := by omega
                  have hI3 : 504 - (a : Int) < (y : Int) := by omega
                  go_upto_region 14 with (go_at_call 45; refine HZ1.out.mono ?_; rintro e W4 ⟨rfl, hw4⟩; have hw4 := hw4.symm; subst hw4)
                  go_wp2_with (first
                    | (refine wpList_build_is rfl 67 _ rfl zeroPg Try.built67 ?_)
                    | (refine wpList_store_row rfl 67 _ _ rfl w.heap.size zeroPg rfl rfl 67 _ HQ.out (Try.size67 rfl) rfl one_zeroPg ?_))
                  refine bodyPost_ret (v := .tuple #[.agg zeroPg, .bool false]) (results_pg Try.results34 _ _ w.heap.size 67 zeroPg (0, 0) _ rfl (setRow_heap _ _ _ _ _ _ HQ.out) Try.underlying67 rfl (Try.size67 rfl)) rfl ?_
                  refine ⟨below_setRow HBE.out (Nat.le_refl _) _, ?_⟩
                  rw [HD.out]
                  rfl
            · have hI1 : ¬ (480 < (y : Int)) := by omega
              have hI2 : ¬ (504 < (a : Int)) := by omega
              have hI3 : ¬ (504 - (a : Int) < (y : Int)) := by omega
              have HDS := hide (HCS.out (by omega) (by omega) (by omega))
              have HV := hide (HSD.out y (by omega))
              have HDL : Hid (((bs.drop a).take y).length ≤ 480) := by rw [Hid, List.length_take]; omega
              clear HCN HCW HCS HSD
              generalize (bs.drop a).take y = D at *
              obtain ⟨a3, c3, w3, hrun, hbox3, hA3, hbw3⟩ := (HA.out.drewN 1).push (by rw [HS.out]; omega) (some D)
              have hrun : (Builtin.append_ #[65, 65] 65 #[.slice ak S.length ck, .slice (some ⟨wr.heap.size, 0, none⟩) 1 1]).run Try.prog ((wr.drewN 1).alloc (.cells #[.bool true, .string (strOf D)] 71)) = .ok (.slice a3 (S.length + 1) c3) w3 := hrun
              rw [HS.out] at hrun hA3 hbox3
              have hadd : IntKind.i64.wrap ((a : Int) + ((y + 1 : Nat) : Int)) = (a : Int) + ((y + 1 : Nat) : Int) := by rw [IntKind.wrap_i64]; omega
              have hsb : IntKind.i64.wrap ((a : Int) + ((y + 1 : Nat) : Int) - 1) = ((a + y : Nat) : Int) := by rw [IntKind.wrap_i64]; omega
              have hst := run_store65 w3 (w.heap.size + 1) 1 _ 67 a3 (k + 1) c3 hbox3 (by simp)
              have hslB : Sl w3 (.slice (cutAt ao c a) y (c - a)) D := HV.out.belowW hbw3
              have hsW : Sl (w3.setCell ⟨w.heap.size + 1, 1, none⟩ (.slice a3 (k + 1) c3)) (.slice (cutAt ao c a) y (c - a)) D := HV.out.belowW hA3.box.bw
              have hbrl : (Instr.buildSlice 65 1 #[(0, .agg #[.bool true, .string (strOf D)])]).run Try.prog (wr.drewN 1) = .ok (.slice (some ⟨wr.heap.size, 0, none⟩) 1 1) ((wr.drewN 1).alloc (.cells #[.bool true, .string (strOf D)] 71)) := buildRec true (strOf D) (wr.drewN 1)
              have hslA : Sl ((wr.drewN 1).alloc (.cells #[.bool true, .string (strOf D)] 71)) (.slice (cutAt ao c a) y (c - a)) D := HV.out.belowW ((HA.out.drewN 1).box.bw.alloc (by have := HA.out.box.bw.size; show _ ≤ wr.heap.size; exact this) _)
              have xd1 : (wr.drewN 1).cell? ⟨w.heap.size + 1, 1, none⟩ = some (.slice ak k ck) := x1
              have xa1 : ((wr.drewN 1).alloc (.cells #[.bool true, .string (strOf D)] 71)).cell? ⟨w.heap.size + 1, 1, none⟩ = some (.slice ak k ck) := (cell_alloc _ _ (show w.heap.size + 1 < wr.heap.size from lt_of_heap HA.out.box.box)).trans x1
              go_upto_region 16 with (go_at_call 45; refine HZ1.out.mono ?_; rintro e W4 ⟨rfl, hw4⟩; have hw4 := hw4.symm; subst hw4)
              refine wp_region_held_drew (S := fun w' => Sl w' (.slice (cutAt ao c a) y (c - a)) D) (by kernel_rfl) (HV.out.belowW (HA.out.drewN 1).box.bw) (fun hH => ?_)
              refine take_to 0 71 (.pointer (some ⟨w.heap.size + 1, 1, none⟩)) rfl (by kernel_rfl) (by kernel_rfl) (by kernel_rfl) (fun _ _ _ h => h) rfl (by rfl) (fun w hw => by rfl) hH ?_
              simp only [Act.put, List.setIfInBounds_toArray, List.set_cons_zero, List.set_cons_succ]
              refine take_to 2 73 (.slice ao 504 c) rfl (by kernel_rfl) (by kernel_rfl) (by kernel_rfl) (fun _ _ _ h => h) rfl (by rfl) (fun w hw => by rfl) hH ?_
              simp only [Act.put, List.setIfInBounds_toArray, List.set_cons_zero, List.set_cons_succ]
              refine take_to 3 74 (.int .i64 (a : Int)) rfl (by kernel_rfl) (by kernel_rfl) (by kernel_rfl) (fun _ _ _ h => h) rfl (by rfl) (fun w hw => by rfl) hH ?_
              simp only [Act.put, List.setIfInBounds_toArray, List.set_cons_zero, List.set_cons_succ]
              refine take_to 4 75 (.int .i64 (a : Int)) rfl (by kernel_rfl) (by kernel_rfl) (by kernel_rfl) (fun _ _ _ h => h) rfl (by rfl) (fun w hw => by rfl) hH ?_
              simp only [Act.put, List.setIfInBounds_toArray, List.set_cons_zero, List.set_cons_succ]
              refine take_to 5 76 (.int .i64 ((y + 1 : Nat) : Int)) rfl (by kernel_rfl) (by kernel_rfl) (by kernel_rfl) (fun _ _ _ h => h) rfl (by rfl) (fun w hw => by rfl) hH ?_
              simp only [Act.put, List.setIfInBounds_toArray, List.set_cons_zero, List.set_cons_succ]
              refine take_to 6 77 (.int .i64 ((a : Int) + ((y + 1 : Nat) : Int))) rfl (by kernel_rfl) (by kernel_rfl) (by kernel_rfl) (fun _ _ _ h => h) rfl (by rfl) (fun w hw => op_add3 _ _ (.tmp 75) (.tmp 76) 3 rfl _ _ rfl rfl _ hadd) hH ?_
              simp only [Act.put, List.setIfInBounds_toArray, List.set_cons_zero, List.set_cons_succ]
              refine take_to 7 78 (.int .i64 ((a + y : Nat) : Int)) rfl (by kernel_rfl) (by kernel_rfl) (by kernel_rfl) (fun _ _ _ h => h) rfl (by rfl) (fun w hw => op_sub3 _ _ (.tmp 77) (.const (.int .i64 1)) 3 rfl _ _ rfl rfl _ hsb) hH ?_
              simp only [Act.put, List.setIfInBounds_toArray, List.set_cons_zero, List.set_cons_succ]
              refine take_to 8 79 (.slice (cutAt ao c a) y (c - a)) rfl (by kernel_rfl) (by kernel_rfl) (by kernel_rfl) (fun _ _ _ h => h) rfl (by rfl) (fun w' hw => op_slice _ _ 23 (.tmp 73) (some (.tmp 74)) (some (.tmp 78)) none rfl _ _ (some (.int .i64 (a : Int))) (some (.int .i64 ((a + y : Nat) : Int))) rfl rfl rfl rfl (by have := run_cut_mid w' ao 504 c a (a + y) (by omega) (by omega); rwa [show a + y - a = y by omega] at this)) hH ?_
              simp only [Act.put, List.setIfInBounds_toArray, List.set_cons_zero, List.set_cons_succ]
              refine take_to 9 80 (.string (strOf D)) rfl (by kernel_rfl) (by kernel_rfl) (by kernel_rfl) (fun _ _ _ h => h) rfl (by rfl) (fun w hw => op_conv _ _ 23 9 (.tmp 79) rfl _ _ rfl (run_str hw)) hH ?_
              simp only [Act.put, List.setIfInBounds_toArray, List.set_cons_zero, List.set_cons_succ]
              refine take_to 10 81 (.agg #[.bool true, .string (strOf D)]) rfl (by kernel_rfl) (by kernel_rfl) (by kernel_rfl) (fun _ _ _ h => h) rfl (by rfl) (fun w hw => op_build71 _ _ (.const (.bool true)) (.tmp 80) rfl true _ rfl rfl) hH ?_
              simp only [Act.put, List.setIfInBounds_toArray, List.set_cons_zero, List.set_cons_succ]
              refine wpAnyH_all (rs := [1, 11]) (by kernel_rfl) (by simp) ?_
              intro i hi
              simp only [List.mem_cons, List.not_mem_nil, or_false] at hi
              rcases hi with rfl | rfl
              · refine op_to 72 (.slice ak k ck) (wr.drewN 1) rfl rfl (by rfl) (op_load _ _ 65 (.tmp 71) rfl (.pointer (some ⟨w.heap.size + 1, 1, none⟩)) _ rfl (run_loadAny _ (w.heap.size + 1) 1 65 _ Try.isAgg65 xd1)) ⟨hH, ?_⟩
                simp only [Act.put, List.setIfInBounds_toArray, List.set_cons_zero, List.set_cons_succ]
                refine step_to 11 82 (.slice (some ⟨wr.heap.size, 0, none⟩) 1 1) ((wr.drewN 1).alloc (.cells #[.bool true, .string (strOf D)] 71)) rfl (by kernel_rfl) rfl (by rfl) (op_bslice _ _ 65 (.tmp 81) rfl _ _ rfl hbrl) hslA ?_
                simp only [Act.put, List.setIfInBounds_toArray, List.set_cons_zero, List.set_cons_succ]
                refine step_to 12 83 (.slice a3 (k + 1) c3) w3 rfl (by kernel_rfl) rfl (by rfl) (op_append _ _ 65 (.tmp 72) (.tmp 82) rfl _ _ _ rfl rfl hrun) hslB ?_
                simp only [Act.put, List.setIfInBounds_toArray, List.set_cons_zero, List.set_cons_succ]
                refine step_to 13 84 (.pointer (some ⟨w.heap.size + 1, 1, none⟩)) w3 rfl (by kernel_rfl) rfl (by rfl) (rfl) hslB ?_
                simp only [Act.put, List.setIfInBounds_toArray, List.set_cons_zero, List.set_cons_succ]
                refine step_store_to 14 _ rfl (by kernel_rfl) rfl (by rfl) 65 (.tmp 84) (.tmp 83) rfl _ _ rfl rfl hst hsW ?_
                refine wpAnyH_done (by kernel_rfl) ?_ _
                go_wp2
                go_roundw
                case rel => exact ⟨k + 1, a3, c3, S ++ [some D], by omega, by go_num, by rw [List.length_append, HS.out]; rfl, HDS.out, hA3, HTN.out (some D) HDL.out⟩
                case measure => simp [intOf]; omega
              · refine op_to 82 (.slice (some ⟨wr.heap.size, 0, none⟩) 1 1) ((wr.drewN 1).alloc (.cells #[.bool true, .string (strOf D)] 71)) rfl rfl (by rfl) (op_bslice _ _ 65 (.tmp 81) rfl _ _ rfl hbrl) ⟨hslA, ?_⟩
                simp only [Act.put, List.setIfInBounds_toArray, List.set_cons_zero, List.set_cons_succ]
                refine step_to 1 72 (.slice ak k ck) ((wr.drewN 1).alloc (.cells #[.bool true, .string (strOf D)] 71)) rfl (by kernel_rfl) rfl (by rfl) (op_load _ _ 65 (.tmp 71) rfl (.pointer (some ⟨w.heap.size + 1, 1, none⟩)) _ rfl (run_loadAny _ (w.heap.size + 1) 1 65 _ Try.isAgg65 xa1)) hslA ?_
                simp only [Act.put, List.setIfInBounds_toArray, List.set_cons_zero, List.set_cons_succ]
                refine step_to 12 83 (.slice a3 (k + 1) c3) w3 rfl (by kernel_rfl) rfl (by rfl) (op_append _ _ 65 (.tmp 72) (.tmp 82) rfl _ _ _ rfl rfl hrun) hslB ?_
                simp only [Act.put, List.setIfInBounds_toArray, List.set_cons_zero, List.set_cons_succ]
                refine step_to 13 84 (.pointer (some ⟨w.heap.size + 1, 1, none⟩)) w3 rfl (by kernel_rfl) rfl (by rfl) (rfl) hslB ?_
                simp only [Act.put, List.setIfInBounds_toArray, List.set_cons_zero, List.set_cons_succ]
                refine step_store_to 14 _ rfl (by kernel_rfl) rfl (by rfl) 65 (.tmp 84) (.tmp 83) rfl _ _ rfl rfl hst hsW ?_
                refine wpAnyH_done (by kernel_rfl) ?_ _
                go_wp2
                go_roundw
                case rel => exact ⟨k + 1, a3, c3, S ++ [some D], by omega, by go_num, by rw [List.length_append, HS.out]; rfl, HDS.out, hA3, HTN.out (some D) HDL.out⟩
                case measure => simp [intOf]; omega
        · have hkn : k = n := by omega
          subst hkn
          have HDF : Hid (refDec bs = finR bs nx S) := by rw [Hid, HDC.out, ← contR_end, HS.out]
          have htz2 : tsize S ≤ 100000 := by omega
          have HSI := hide (show (wr.heap[w.heap.size + 1]? = some (.cells #[.int .i64 (nx : Int), .slice ak k ck] 67 (0, 0)) ∧ RSAt wr (.slice ak k ck) S) ∧ Sl wr (.slice ao 504 c) bs from ⟨⟨by have := HA.out.box.box; rw [HS.out] at this; exact this, by have := HA.out.box.own.at; rw [HS.out] at this; exact this⟩, by have := HSL.out.belowW HA.out.box.bw; rw [Hlen.out] at this; exact this⟩)
          have HRSZ : Hid (∀ W, RSAt W (.slice ak k ck) S → Calls Try.prog 46 #[.slice ak k ck] W fun e w' => e = .returned (.int .i64 (tsize S : Nat)) ∧ w' = W) := fun W h => rsize_any h htz2
          have HRBY : Hid (tsize S ≤ 504 → ∀ W, RSAt W (.slice ak k ck) S → Calls Try.prog 33 #[.agg #[.int .i64 (nx : Int), .slice ak k ck]] W fun e w' => ∃ v', e = .returned v' ∧ Sl w' v' (encN k nx S) ∧ Below W.heap.size W w') := fun hs W h => by
            rw [← HS.out] at h ⊢
            exact rbytes_any h nx hb4 hs
          clear HDC HNW HNS HWL HSZ x0 x1
          go_upto_region 17 with fail
          by_cases hA1 : 0 < k ∧ (S.getD (k - 1) none).isSome = false
          · have HD : Hid (refDec bs = none) := by
              rw [Hid, HDF.out]
              unfold finR
              rw [if_pos]
              intro hh
              have := (need_last (S := S) (by rw [HS.out]; exact hA1.1)).1 hh
              rw [HS.out, hA1.2] at this
              cases this
            obtain ⟨gk, ok, hak, kc1, _⟩ := HSI.out.1.2.get (k - 1) (by rw [HS.out]; omega)
            rw [hA1.2] at kc1
            subst hak
            have hk0 : decide ((0 : Int) < (k : Int)) = true := decide_eq_true (by omega)
            have hks : IntKind.i64.wrap ((k : Int) - 1) = ((k - 1 : Nat) : Int) := wrapN (by omega) (by omega)
            have hk1 : 0 < k := hA1.1
            refine wp_region_held_drew (S := fun w' => (w'.heap[w.heap.size + 1]? = some (.cells #[.int .i64 (nx : Int), .slice (some ⟨gk, ok, none⟩) k ck] 67 (0, 0)) ∧ w'.cell? ⟨gk, ok + (k - 1) * 2, none⟩ = some (.bool false)) ∧ Sl w' (.slice ao 504 c) bs) (by kernel_rfl) ⟨⟨HSI.out.1.1, kc1⟩, HSI.out.2.belowW (below_drewN _ _ 1)⟩ (fun hH => ?_)
            refine take_to 0 85 (.int .i64 (k : Int)) rfl (by kernel_rfl) (by kernel_rfl) (by kernel_rfl) (fun _ _ _ h => h) rfl (by rfl) (fun w hw => by rfl) hH ?_
            simp only [Act.put, List.setIfInBounds_toArray, List.set_cons_zero, List.set_cons_succ]
            refine take_to 1 86 (.bool true) rfl (by kernel_rfl) (by kernel_rfl) (by kernel_rfl) (fun _ _ _ h => h) rfl (by rfl) (fun w hw => op_gtr3 _ _ (.tmp 85) (.const (.int .i64 0)) 3 rfl _ _ rfl rfl true hk0) hH ?_
            simp only [Act.put, List.setIfInBounds_toArray, List.set_cons_zero, List.set_cons_succ]
            refine take_to 2 87 (.bool true) rfl (by kernel_rfl) (by kernel_rfl) (by kernel_rfl) (fun _ _ _ h => h) rfl (by rfl) (fun w hw => by rfl) hH ?_
            simp only [Act.put, List.setIfInBounds_toArray, List.set_cons_zero, List.set_cons_succ]
            refine take_to 3 88 (.pointer (some ⟨w.heap.size + 1, 1, none⟩)) rfl (by kernel_rfl) (by kernel_rfl) (by kernel_rfl) (fun _ _ _ h => h) rfl (by rfl) (fun w hw => by rfl) hH ?_
            simp only [Act.put, List.setIfInBounds_toArray, List.set_cons_zero, List.set_cons_succ]
            refine take_to 4 89 (.slice (some ⟨gk, ok, none⟩) k ck) rfl (by kernel_rfl) (by kernel_rfl) (by kernel_rfl) (fun _ _ _ h => h) rfl (by rfl) (fun w' hw => op_load _ _ 65 (.tmp 88) rfl (.pointer (some ⟨w.heap.size + 1, 1, none⟩)) _ rfl (run_loadAny w' (w.heap.size + 1) 1 65 _ Try.isAgg65 (by rw [cell_row hw.1.1]; rfl))) hH ?_
            simp only [Act.put, List.setIfInBounds_toArray, List.set_cons_zero, List.set_cons_succ]
            refine take_to 5 90 (.int .i64 (k : Int)) rfl (by kernel_rfl) (by kernel_rfl) (by kernel_rfl) (fun _ _ _ h => h) rfl (by rfl) (fun w hw => by rfl) hH ?_
            simp only [Act.put, List.setIfInBounds_toArray, List.set_cons_zero, List.set_cons_succ]
            refine take_to 6 91 (.int .i64 ((k - 1 : Nat) : Int)) rfl (by kernel_rfl) (by kernel_rfl) (by kernel_rfl) (fun _ _ _ h => h) rfl (by rfl) (fun w hw => op_sub3 _ _ (.tmp 90) (.const (.int .i64 1)) 3 rfl _ _ rfl rfl _ hks) hH ?_
            simp only [Act.put, List.setIfInBounds_toArray, List.set_cons_zero, List.set_cons_succ]
            refine take_to 7 92 (.pointer (some ⟨gk, ok + (k - 1) * 2, none⟩)) rfl (by kernel_rfl) (by kernel_rfl) (by kernel_rfl) (fun _ _ _ h => h) rfl (by rfl) (fun w' hw => op_index _ _ 65 (.tmp 89) (.tmp 91) rfl _ _ _ rfl rfl (run_index65 w' gk ok k ck (k - 1) (by omega))) hH ?_
            simp only [Act.put, List.setIfInBounds_toArray, List.set_cons_zero, List.set_cons_succ]
            refine take_to 8 93 (.pointer (some ⟨gk, ok + (k - 1) * 2, none⟩)) rfl (by kernel_rfl) (by kernel_rfl) (by kernel_rfl) (fun _ _ _ h => h) rfl (by rfl) (fun w hw => by rfl) hH ?_
            simp only [Act.put, List.setIfInBounds_toArray, List.set_cons_zero, List.set_cons_succ]
            refine take_to 9 94 (.bool false) rfl (by kernel_rfl) (by kernel_rfl) (by kernel_rfl) (fun _ _ _ h => h) rfl (by rfl) (fun w' hw => op_load _ _ 4 (.tmp 93) rfl (.pointer (some ⟨gk, ok + (k - 1) * 2, none⟩)) _ rfl (run_loadAny w' gk (ok + (k - 1) * 2) 4 _ Try.isAgg4 hw.1.2)) hH ?_
            simp only [Act.put, List.setIfInBounds_toArray, List.set_cons_zero, List.set_cons_succ]
            refine take_to 10 95 (.bool true) rfl (by kernel_rfl) (by kernel_rfl) (by kernel_rfl) (fun _ _ _ h => h) rfl (by rfl) (fun w hw => by rfl) hH ?_
            simp only [Act.put, List.setIfInBounds_toArray, List.set_cons_zero, List.set_cons_succ]
            refine take_to 11 96 (.bool true) rfl (by kernel_rfl) (by kernel_rfl) (by kernel_rfl) (fun _ _ _ h => h) rfl (by rfl) (fun w hw => by rfl) hH ?_
            simp only [Act.put, List.setIfInBounds_toArray, List.set_cons_zero, List.set_cons_succ]
            refine take_to 12 97 (.bool true) rfl (by kernel_rfl) (by kernel_rfl) (by kernel_rfl) (fun _ _ _ h => h) rfl (by rfl) (fun w hw => by rfl) hH ?_
            simp only [Act.put, List.setIfInBounds_toArray, List.set_cons_zero, List.set_cons_succ]
            refine skip_to 13 98 rfl (by kernel_rfl) (by kernel_rfl) (by kernel_rfl) (fun _ _ _ h => h) rfl (by rfl) hH ?_
            simp only [Act.put, List.setIfInBounds_toArray, List.set_cons_zero, List.set_cons_succ]
            refine skip_to 14 99 rfl (by kernel_rfl) (by kernel_rfl) (by kernel_rfl) (fun _ _ _ h => h) rfl (by rfl) hH ?_
            simp only [Act.put, List.setIfInBounds_toArray, List.set_cons_zero, List.set_cons_succ]
            refine skip_to 15 100 rfl (by kernel_rfl) (by kernel_rfl) (by kernel_rfl) (fun _ _ _ h => h) rfl (by rfl) hH ?_
            simp only [Act.put, List.setIfInBounds_toArray, List.set_cons_zero, List.set_cons_succ]
            refine skip_to 16 101 rfl (by kernel_rfl) (by kernel_rfl) (by kernel_rfl) (fun _ _ _ h => h) rfl (by rfl) hH ?_
            simp only [Act.put, List.setIfInBounds_toArray, List.set_cons_zero, List.set_cons_succ]
            refine take_to 17 102 (.bool true) rfl (by kernel_rfl) (by kernel_rfl) (by kernel_rfl) (fun _ _ _ h => h) rfl (by rfl) (fun w hw => by rfl) hH ?_
            simp only [Act.put, List.setIfInBounds_toArray, List.set_cons_zero, List.set_cons_succ]
            refine take_to 18 103 (.bool true) rfl (by kernel_rfl) (by kernel_rfl) (by kernel_rfl) (fun _ _ _ h => h) rfl (by rfl) (fun w hw => by rfl) hH ?_
            simp only [Act.put, List.setIfInBounds_toArray, List.set_cons_zero, List.set_cons_succ]
            refine skip_to 19 104 rfl (by kernel_rfl) (by kernel_rfl) (by kernel_rfl) (fun _ _ _ h => h) rfl (by rfl) hH ?_
            simp only [Act.put, List.setIfInBounds_toArray, List.set_cons_zero, List.set_cons_succ]
            refine skip_to 20 105 rfl (by kernel_rfl) (by kernel_rfl) (by kernel_rfl) (fun _ _ _ h => h) rfl (by rfl) hH ?_
            simp only [Act.put, List.setIfInBounds_toArray, List.set_cons_zero, List.set_cons_succ]
            refine skip_to 21 106 rfl (by kernel_rfl) (by kernel_rfl) (by kernel_rfl) (fun _ _ _ h => h) rfl (by rfl) hH ?_
            simp only [Act.put, List.setIfInBounds_toArray, List.set_cons_zero, List.set_cons_succ]
            refine skip_to 22 107 rfl (by kernel_rfl) (by kernel_rfl) (by kernel_rfl) (fun _ _ _ h => h) rfl (by rfl) hH ?_
            simp only [Act.put, List.setIfInBounds_toArray, List.set_cons_zero, List.set_cons_succ]
            refine skip_to 23 108 rfl (by kernel_rfl) (by kernel_rfl) (by kernel_rfl) (fun _ _ _ h => h) rfl (by rfl) hH ?_
            simp only [Act.put, List.setIfInBounds_toArray, List.set_cons_zero, List.set_cons_succ]
            refine skip_to 24 109 rfl (by kernel_rfl) (by kernel_rfl) (by kernel_rfl) (fun _ _ _ h => h) rfl (by rfl) hH ?_
            simp only [Act.put, List.setIfInBounds_toArray, List.set_cons_zero, List.set_cons_succ]
            refine step_to 25 110 (.bool true) (wr.drewN 1) rfl (by kernel_rfl) rfl (by rfl) (rfl) hH ?_
            simp only [Act.put, List.setIfInBounds_toArray, List.set_cons_zero, List.set_cons_succ]
            refine wpAnyH_done (by kernel_rfl) ?_ _
            have HQ := hide (HA.out.drewN 1).res
            have HBE := hide (HA.out.drewN 1).box.bw
            clear hH
            go_wp2_with (first
              | (refine wpList_build_is rfl 67 _ rfl zeroPg Try.built67 ?_)
              | (refine wpList_store_row rfl 67 _ _ rfl w.heap.size zeroPg rfl rfl 67 _ HQ.out (Try.size67 rfl) rfl one_zeroPg ?_))
            refine bodyPost_ret (v := .tuple #[.agg zeroPg, .bool false]) (results_pg Try.results34 _ _ w.heap.size 67 zeroPg (0, 0) _ rfl (setRow_heap _ _ _ _ _ _ HQ.out) Try.underlying67 rfl (Try.size67 rfl)) rfl ?_
            refine ⟨below_setRow HBE.out (Nat.le_refl _) _, ?_⟩
            rw [HD.out]
            rfl
          · have hneed : need S S.length = S.length := by
              rcases Nat.eq_zero_or_pos k with h0 | h0
              · exact need_zero (by rw [HS.out]; exact h0)
              · refine (need_last (by rw [HS.out]; exact h0)).2 ?_
                rw [HS.out]
                cases hx : (S.getD (k - 1) none).isSome with
                | true => rfl
                | false => exact absurd ⟨h0, hx⟩ hA1
            have HFN : Hid (refDec bs = if 504 < tsize S then none else if encN S.length nx S = bs then some ⟨nx, S⟩ else none) := by
              rw [Hid, HDF.out]
              unfold finR
              rw [if_neg (by simp [hneed])]
            rw [HS.out] at HFN
            clear hneed HDF
            rcases Nat.eq_zero_or_pos k with hk0' | hk1
            · have hk0 : decide ((0 : Int) < (k : Int)) = false := decide_eq_false (by omega)
              clear hk0'
              by_cases hT : 504 < tsize S
              · have HD : Hid (refDec bs = none) := by rw [Hid, HFN.out, if_pos hT]
                have hTd : decide ((504 : Int) < ((tsize S : Nat) : Int)) = true := decide_eq_true (by omega)
                refine wp_region_held_drew (S := fun w' => (w'.heap[w.heap.size + 1]? = some (.cells #[.int .i64 (nx : Int), .slice ak k ck] 67 (0, 0))) ∧ Sl w' (.slice ao 504 c) bs) (by kernel_rfl) ⟨HSI.out.1.1, HSI.out.2.belowW (below_drewN _ _ 1)⟩ (fun hH => ?_)
                refine take_to 0 85 (.int .i64 (k : Int)) rfl (by kernel_rfl) (by kernel_rfl) (by kernel_rfl) (fun _ _ _ h => h) rfl (by rfl) (fun w hw => by rfl) hH ?_
                simp only [Act.put, List.setIfInBounds_toArray, List.set_cons_zero, List.set_cons_succ]
                refine take_to 1 86 (.bool false) rfl (by kernel_rfl) (by kernel_rfl) (by kernel_rfl) (fun _ _ _ h => h) rfl (by rfl) (fun w hw => op_gtr3 _ _ (.tmp 85) (.const (.int .i64 0)) 3 rfl _ _ rfl rfl _ hk0) hH ?_
                simp only [Act.put, List.setIfInBounds_toArray, List.set_cons_zero, List.set_cons_succ]
                refine take_to 2 87 (.bool false) rfl (by kernel_rfl) (by kernel_rfl) (by kernel_rfl) (fun _ _ _ h => h) rfl (by rfl) (fun w hw => by rfl) hH ?_
                simp only [Act.put, List.setIfInBounds_toArray, List.set_cons_zero, List.set_cons_succ]
                refine skip_to 3 88 rfl (by kernel_rfl) (by kernel_rfl) (by kernel_rfl) (fun _ _ _ h => h) rfl (by rfl) hH ?_
                simp only [Act.put, List.setIfInBounds_toArray, List.set_cons_zero, List.set_cons_succ]
                refine skip_to 4 89 rfl (by kernel_rfl) (by kernel_rfl) (by kernel_rfl) (fun _ _ _ h => h) rfl (by rfl) hH ?_
                simp only [Act.put, List.setIfInBounds_toArray, List.set_cons_zero, List.set_cons_succ]
                refine skip_to 5 90 rfl (by kernel_rfl) (by kernel_rfl) (by kernel_rfl) (fun _ _ _ h => h) rfl (by rfl) hH ?_
                simp only [Act.put, List.setIfInBounds_toArray, List.set_cons_zero, List.set_cons_succ]
                refine skip_to 6 91 rfl (by kernel_rfl) (by kernel_rfl) (by kernel_rfl) (fun _ _ _ h => h) rfl (by rfl) hH ?_
                simp only [Act.put, List.setIfInBounds_toArray, List.set_cons_zero, List.set_cons_succ]
                refine skip_to 7 92 rfl (by kernel_rfl) (by kernel_rfl) (by kernel_rfl) (fun _ _ _ h => h) rfl (by rfl) hH ?_
                simp only [Act.put, List.setIfInBounds_toArray, List.set_cons_zero, List.set_cons_succ]
                refine skip_to 8 93 rfl (by kernel_rfl) (by kernel_rfl) (by kernel_rfl) (fun _ _ _ h => h) rfl (by rfl) hH ?_
                simp only [Act.put, List.setIfInBounds_toArray, List.set_cons_zero, List.set_cons_succ]
                refine skip_to 9 94 rfl (by kernel_rfl) (by kernel_rfl) (by kernel_rfl) (fun _ _ _ h => h) rfl (by rfl) hH ?_
                simp only [Act.put, List.setIfInBounds_toArray, List.set_cons_zero, List.set_cons_succ]
                refine skip_to 10 95 rfl (by kernel_rfl) (by kernel_rfl) (by kernel_rfl) (fun _ _ _ h => h) rfl (by rfl) hH ?_
                simp only [Act.put, List.setIfInBounds_toArray, List.set_cons_zero, List.set_cons_succ]
                refine take_to 11 96 (.bool false) rfl (by kernel_rfl) (by kernel_rfl) (by kernel_rfl) (fun _ _ _ h => h) rfl (by rfl) (fun w hw => by rfl) hH ?_
                simp only [Act.put, List.setIfInBounds_toArray, List.set_cons_zero, List.set_cons_succ]
                refine take_to 12 97 (.bool false) rfl (by kernel_rfl) (by kernel_rfl) (by kernel_rfl) (fun _ _ _ h => h) rfl (by rfl) (fun w hw => by rfl) hH ?_
                simp only [Act.put, List.setIfInBounds_toArray, List.set_cons_zero, List.set_cons_succ]
                refine take_to 13 98 (.pointer (some ⟨w.heap.size + 1, 1, none⟩)) rfl (by kernel_rfl) (by kernel_rfl) (by kernel_rfl) (fun _ _ _ h => h) rfl (by rfl) (fun w hw => by rfl) hH ?_
                simp only [Act.put, List.setIfInBounds_toArray, List.set_cons_zero, List.set_cons_succ]
                refine take_to 14 99 (.slice ak k ck) rfl (by kernel_rfl) (by kernel_rfl) (by kernel_rfl) (fun _ _ _ h => h) rfl (by rfl) (fun w' hw => op_load _ _ 65 (.tmp 98) rfl (.pointer (some ⟨w.heap.size + 1, 1, none⟩)) _ rfl (run_loadAny w' (w.heap.size + 1) 1 65 _ Try.isAgg65 (by rw [cell_row hw.1]; rfl))) hH ?_
                simp only [Act.put, List.setIfInBounds_toArray, List.set_cons_zero, List.set_cons_succ]
                refine step_call1_to 15 100 46 rfl (by kernel_rfl) rfl (by rfl) (.tmp 99) _ rfl _ rfl Try.enters46 (HRSZ.out (wr.drewN 1) (HSI.out.1.2.below (below_drewN _ _ 1))) ?_
                rintro e Z1 ⟨rfl, hz1⟩
                subst hz1
                refine ⟨_, rfl, hH, ?_⟩
                simp only [Act.put, List.setIfInBounds_toArray, List.set_cons_zero, List.set_cons_succ]
                refine take_to 16 101 (.bool true) rfl (by kernel_rfl) (by kernel_rfl) (by kernel_rfl) (fun _ _ _ h => h) rfl (by rfl) (fun w hw => op_gtr3 _ _ (.tmp 100) (.const (.int .i64 504)) 3 rfl _ _ rfl rfl _ hTd) hH ?_
                simp only [Act.put, List.setIfInBounds_toArray, List.set_cons_zero, List.set_cons_succ]
                refine take_to 17 102 (.bool true) rfl (by kernel_rfl) (by kernel_rfl) (by kernel_rfl) (fun _ _ _ h => h) rfl (by rfl) (fun w hw => by rfl) hH ?_
                simp only [Act.put, List.setIfInBounds_toArray, List.set_cons_zero, List.set_cons_succ]
                refine take_to 18 103 (.bool true) rfl (by kernel_rfl) (by kernel_rfl) (by kernel_rfl) (fun _ _ _ h => h) rfl (by rfl) (fun w hw => by rfl) hH ?_
                simp only [Act.put, List.setIfInBounds_toArray, List.set_cons_zero, List.set_cons_succ]
                refine skip_to 19 104 rfl (by kernel_rfl) (by kernel_rfl) (by kernel_rfl) (fun _ _ _ h => h) rfl (by rfl) hH ?_
                simp only [Act.put, List.setIfInBounds_toArray, List.set_cons_zero, List.set_cons_succ]
                refine skip_to 20 105 rfl (by kernel_rfl) (by kernel_rfl) (by kernel_rfl) (fun _ _ _ h => h) rfl (by rfl) hH ?_
                simp only [Act.put, List.setIfInBounds_toArray, List.set_cons_zero, List.set_cons_succ]
                refine skip_to 21 106 rfl (by kernel_rfl) (by kernel_rfl) (by kernel_rfl) (fun _ _ _ h => h) rfl (by rfl) hH ?_
                simp only [Act.put, List.setIfInBounds_toArray, List.set_cons_zero, List.set_cons_succ]
                refine skip_to 22 107 rfl (by kernel_rfl) (by kernel_rfl) (by kernel_rfl) (fun _ _ _ h => h) rfl (by rfl) hH ?_
                simp only [Act.put, List.setIfInBounds_toArray, List.set_cons_zero, List.set_cons_succ]
                refine skip_to 23 108 rfl (by kernel_rfl) (by kernel_rfl) (by kernel_rfl) (fun _ _ _ h => h) rfl (by rfl) hH ?_
                simp only [Act.put, List.setIfInBounds_toArray, List.set_cons_zero, List.set_cons_succ]
                refine skip_to 24 109 rfl (by kernel_rfl) (by kernel_rfl) (by kernel_rfl) (fun _ _ _ h => h) rfl (by rfl) hH ?_
                simp only [Act.put, List.setIfInBounds_toArray, List.set_cons_zero, List.set_cons_succ]
                refine step_to 25 110 (.bool true) (wr.drewN 1) rfl (by kernel_rfl) rfl (by rfl) (rfl) hH ?_
                simp only [Act.put, List.setIfInBounds_toArray, List.set_cons_zero, List.set_cons_succ]
                refine wpAnyH_done (by kernel_rfl) ?_ _
                have HQ := hide (HA.out.drewN 1).res
                have HBE := hide (HA.out.drewN 1).box.bw
                clear hH
                go_wp2_with (first
                  | (refine wpList_build_is rfl 67 _ rfl zeroPg Try.built67 ?_)
                  | (refine wpList_store_row rfl 67 _ _ rfl w.heap.size zeroPg rfl rfl 67 _ HQ.out (Try.size67 rfl) rfl one_zeroPg ?_))
                refine bodyPost_ret (v := .tuple #[.agg zeroPg, .bool false]) (results_pg Try.results34 _ _ w.heap.size 67 zeroPg (0, 0) _ rfl (setRow_heap _ _ _ _ _ _ HQ.out) Try.underlying67 rfl (Try.size67 rfl)) rfl ?_
                refine ⟨below_setRow HBE.out (Nat.le_refl _) _, ?_⟩
                rw [HD.out]
                rfl
              · have hTd : decide ((504 : Int) < ((tsize S : Nat) : Int)) = false := decide_eq_false (by omega)
                have hTle : tsize S ≤ 504 := by omega
                rw [if_neg hT] at HFN
                refine wp_region_held_drew (S := fun w' => (w'.heap[w.heap.size + 1]? = some (.cells #[.int .i64 (nx : Int), .slice ak k ck] 67 (0, 0))) ∧ Sl w' (.slice ao 504 c) bs) (by kernel_rfl) ⟨HSI.out.1.1, HSI.out.2.belowW (below_drewN _ _ 1)⟩ (fun hH => ?_)
                refine take_to 0 85 (.int .i64 (k : Int)) rfl (by kernel_rfl) (by kernel_rfl) (by kernel_rfl) (fun _ _ _ h => h) rfl (by rfl) (fun w hw => by rfl) hH ?_
                simp only [Act.put, List.setIfInBounds_toArray, List.set_cons_zero, List.set_cons_succ]
                refine take_to 1 86 (.bool false) rfl (by kernel_rfl) (by kernel_rfl) (by kernel_rfl) (fun _ _ _ h => h) rfl (by rfl) (fun w hw => op_gtr3 _ _ (.tmp 85) (.const (.int .i64 0)) 3 rfl _ _ rfl rfl _ hk0) hH ?_
                simp only [Act.put, List.setIfInBounds_toArray, List.set_cons_zero, List.set_cons_succ]
                refine take_to 2 87 (.bool false) rfl (by kernel_rfl) (by kernel_rfl) (by kernel_rfl) (fun _ _ _ h => h) rfl (by rfl) (fun w hw => by rfl) hH ?_
                simp only [Act.put, List.setIfInBounds_toArray, List.set_cons_zero, List.set_cons_succ]
                refine skip_to 3 88 rfl (by kernel_rfl) (by kernel_rfl) (by kernel_rfl) (fun _ _ _ h => h) rfl (by rfl) hH ?_
                simp only [Act.put, List.setIfInBounds_toArray, List.set_cons_zero, List.set_cons_succ]
                refine skip_to 4 89 rfl (by kernel_rfl) (by kernel_rfl) (by kernel_rfl) (fun _ _ _ h => h) rfl (by rfl) hH ?_
                simp only [Act.put, List.setIfInBounds_toArray, List.set_cons_zero, List.set_cons_succ]
                refine skip_to 5 90 rfl (by kernel_rfl) (by kernel_rfl) (by kernel_rfl) (fun _ _ _ h => h) rfl (by rfl) hH ?_
                simp only [Act.put, List.setIfInBounds_toArray, List.set_cons_zero, List.set_cons_succ]
                refine skip_to 6 91 rfl (by kernel_rfl) (by kernel_rfl) (by kernel_rfl) (fun _ _ _ h => h) rfl (by rfl) hH ?_
                simp only [Act.put, List.setIfInBounds_toArray, List.set_cons_zero, List.set_cons_succ]
                refine skip_to 7 92 rfl (by kernel_rfl) (by kernel_rfl) (by kernel_rfl) (fun _ _ _ h => h) rfl (by rfl) hH ?_
                simp only [Act.put, List.setIfInBounds_toArray, List.set_cons_zero, List.set_cons_succ]
                refine skip_to 8 93 rfl (by kernel_rfl) (by kernel_rfl) (by kernel_rfl) (fun _ _ _ h => h) rfl (by rfl) hH ?_
                simp only [Act.put, List.setIfInBounds_toArray, List.set_cons_zero, List.set_cons_succ]
                refine skip_to 9 94 rfl (by kernel_rfl) (by kernel_rfl) (by kernel_rfl) (fun _ _ _ h => h) rfl (by rfl) hH ?_
                simp only [Act.put, List.setIfInBounds_toArray, List.set_cons_zero, List.set_cons_succ]
                refine skip_to 10 95 rfl (by kernel_rfl) (by kernel_rfl) (by kernel_rfl) (fun _ _ _ h => h) rfl (by rfl) hH ?_
                simp only [Act.put, List.setIfInBounds_toArray, List.set_cons_zero, List.set_cons_succ]
                refine take_to 11 96 (.bool false) rfl (by kernel_rfl) (by kernel_rfl) (by kernel_rfl) (fun _ _ _ h => h) rfl (by rfl) (fun w hw => by rfl) hH ?_
                simp only [Act.put, List.setIfInBounds_toArray, List.set_cons_zero, List.set_cons_succ]
                refine take_to 12 97 (.bool false) rfl (by kernel_rfl) (by kernel_rfl) (by kernel_rfl) (fun _ _ _ h => h) rfl (by rfl) (fun w hw => by rfl) hH ?_
                simp only [Act.put, List.setIfInBounds_toArray, List.set_cons_zero, List.set_cons_succ]
                refine take_to 13 98 (.pointer (some ⟨w.heap.size + 1, 1, none⟩)) rfl (by kernel_rfl) (by kernel_rfl) (by kernel_rfl) (fun _ _ _ h => h) rfl (by rfl) (fun w hw => by rfl) hH ?_
                simp only [Act.put, List.setIfInBounds_toArray, List.set_cons_zero, List.set_cons_succ]
                refine take_to 14 99 (.slice ak k ck) rfl (by kernel_rfl) (by kernel_rfl) (by kernel_rfl) (fun _ _ _ h => h) rfl (by rfl) (fun w' hw => op_load _ _ 65 (.tmp 98) rfl (.pointer (some ⟨w.heap.size + 1, 1, none⟩)) _ rfl (run_loadAny w' (w.heap.size + 1) 1 65 _ Try.isAgg65 (by rw [cell_row hw.1]; rfl))) hH ?_
                simp only [Act.put, List.setIfInBounds_toArray, List.set_cons_zero, List.set_cons_succ]
                refine step_call1_to 15 100 46 rfl (by kernel_rfl) rfl (by rfl) (.tmp 99) _ rfl _ rfl Try.enters46 (HRSZ.out (wr.drewN 1) (HSI.out.1.2.below (below_drewN _ _ 1))) ?_
                rintro e Z1 ⟨rfl, hz1⟩
                subst hz1
                refine ⟨_, rfl, hH, ?_⟩
                simp only [Act.put, List.setIfInBounds_toArray, List.set_cons_zero, List.set_cons_succ]
                refine take_to 16 101 (.bool false) rfl (by kernel_rfl) (by kernel_rfl) (by kernel_rfl) (fun _ _ _ h => h) rfl (by rfl) (fun w hw => op_gtr3 _ _ (.tmp 100) (.const (.int .i64 504)) 3 rfl _ _ rfl rfl _ hTd) hH ?_
                simp only [Act.put, List.setIfInBounds_toArray, List.set_cons_zero, List.set_cons_succ]
                refine take_to 17 102 (.bool false) rfl (by kernel_rfl) (by kernel_rfl) (by kernel_rfl) (fun _ _ _ h => h) rfl (by rfl) (fun w hw => by rfl) hH ?_
                simp only [Act.put, List.setIfInBounds_toArray, List.set_cons_zero, List.set_cons_succ]
                refine take_to 18 103 (.bool false) rfl (by kernel_rfl) (by kernel_rfl) (by kernel_rfl) (fun _ _ _ h => h) rfl (by rfl) (fun w hw => by rfl) hH ?_
                simp only [Act.put, List.setIfInBounds_toArray, List.set_cons_zero, List.set_cons_succ]
                refine take_to 19 104 (.agg #[.int .i64 (nx : Int), .slice ak k ck]) rfl (by kernel_rfl) (by kernel_rfl) (by kernel_rfl) (fun _ _ _ h => h) rfl (by rfl) (fun w' hw => op_load _ _ 67 (.tmp 5) rfl (.pointer (some ⟨w.heap.size + 1, 0, none⟩)) _ rfl (run_load67 w' (w.heap.size + 1) _ _ hw.1)) hH ?_
                simp only [Act.put, List.setIfInBounds_toArray, List.set_cons_zero, List.set_cons_succ]
                refine take_to 22 107 (.slice ao 504 c) rfl (by kernel_rfl) (by kernel_rfl) (by kernel_rfl) (fun _ _ _ h => h) rfl (by rfl) (fun w hw => by rfl) hH ?_
                simp only [Act.put, List.setIfInBounds_toArray, List.set_cons_zero, List.set_cons_succ]
                refine take_to 23 108 (.string (strOf bs)) rfl (by kernel_rfl) (by kernel_rfl) (by kernel_rfl) (fun _ _ _ h => h) rfl (by rfl) (fun w hw => op_conv _ _ 23 9 (.tmp 107) rfl _ _ rfl (run_str hw.2)) hH ?_
                simp only [Act.put, List.setIfInBounds_toArray, List.set_cons_zero, List.set_cons_succ]
                refine step_call1_to 20 105 33 rfl (by kernel_rfl) rfl (by rfl) (.tmp 104) _ rfl _ rfl Try.enters33 (HRBY.out hTle (wr.drewN 1) (HSI.out.1.2.below (below_drewN _ _ 1))) ?_
                rintro e Z2 ⟨vb, rfl, hsb, hz2'⟩
                have hz2 : Below wr.heap.size wr Z2 := ⟨hz2'.os, hz2'.tape, hz2'.output, hz2'.size, hz2'.block⟩
                have HA2 := hide (HA.out.below hz2)
                obtain ⟨vba, vbc, evb, _⟩ := hsb.len
                rw [length_encN hTle] at evb
                subst evb
                have hbx : Z2.heap[w.heap.size + 1]? = some (.cells #[.int .i64 (nx : Int), .slice ak k ck] 67 (0, 0)) := (hz2.block _ (lt_of_heap HSI.out.1.1)).trans HSI.out.1.1
                have hS2 : (fun w' => (w'.heap[w.heap.size + 1]? = some (.cells #[.int .i64 (nx : Int), .slice ak k ck] 67 (0, 0))) ∧ Sl w' (.slice ao 504 c) bs) Z2 := ⟨hbx, HSI.out.2.belowW hz2⟩
                refine ⟨_, rfl, hS2, ?_⟩
                simp only [Act.put, List.setIfInBounds_toArray, List.set_cons_zero, List.set_cons_succ]
                refine step_to 21 106 (.string (strOf (encN k nx S))) Z2 rfl (by kernel_rfl) rfl (by rfl) (op_conv _ _ 23 9 (.tmp 105) rfl _ _ rfl (run_str hsb)) hS2 ?_
                simp only [Act.put, List.setIfInBounds_toArray, List.set_cons_zero, List.set_cons_succ]
                by_cases heq : encN k nx S = bs
                · have HDD : Hid (refDec bs = some ⟨nx, S⟩) := by rw [Hid, HFN.out, if_pos heq]
                  have hdq : decide (encN k nx S ≠ bs) = false := decide_eq_false (fun h => h heq)
                  refine step_to 24 109 (.bool false) Z2 rfl (by kernel_rfl) rfl (by rfl) (op_neq9 _ _ (.tmp 106) (.tmp 108) 9 rfl _ _ rfl rfl _ hdq) hS2 ?_
                  simp only [Act.put, List.setIfInBounds_toArray, List.set_cons_zero, List.set_cons_succ]
                  refine step_to 25 110 (.bool false) Z2 rfl (by kernel_rfl) rfl (by rfl) (rfl) hS2 ?_
                  simp only [Act.put, List.setIfInBounds_toArray, List.set_cons_zero, List.set_cons_succ]
                  refine wpAnyH_done (by kernel_rfl) ?_ _
                  have HR2 := hide HA2.out.res
                  have HBL := hide HA2.out.box.bw
                  have q0 : Z2.cell? ⟨w.heap.size + 1, 0, none⟩ = some (.int .i64 (nx : Int)) := by rw [cell_row hbx]; rfl
                  have q1 : Z2.cell? ⟨w.heap.size + 1, 1, none⟩ = some (.slice ak k ck) := by rw [cell_row hbx]; rfl
                  clear hH hS2 hbx hsb hz2 hz2'
                  go_wp2_with (refine wpList_store_row rfl 67 _ _ rfl w.heap.size #[.int .i64 (nx : Int), .slice ak k ck] rfl rfl 67 _ HR2.out (Try.size67 rfl) rfl (one_pg _ _ _ _) ?_)
                  refine bodyPost_ret (v := .tuple #[.agg #[.int .i64 (nx : Int), .slice ak k ck], .bool true]) (results_pg Try.results34 _ _ w.heap.size 67 _ (0, 0) _ rfl (setRow_heap _ _ _ _ _ _ HR2.out) Try.underlying67 rfl (Try.size67 rfl)) rfl ?_
                  refine ⟨below_setRow HBL.out (Nat.le_refl _) _, ?_⟩
                  rw [HDD.out]
                  refine ⟨ak, ck, by show _ = Ending.returned (.tuple #[.agg #[.int .i64 (nx : Int), .slice ak S.length ck], .bool true]); rw [HS.out], ?_⟩
                  exact HA2.out.box.own.stay HR2.out (by decide) (Nat.le_refl _) ⟨rfl, rfl, rfl, by simp [World.setRow], fun k hk hn => setRow_other _ _ k _ (by intro e; subst e; exact hn (by simp))⟩
                · have HD : Hid (refDec bs = none) := by rw [Hid, HFN.out, if_neg heq]
                  have hdq : decide (encN k nx S ≠ bs) = true := decide_eq_true heq
                  refine step_to 24 109 (.bool true) Z2 rfl (by kernel_rfl) rfl (by rfl) (op_neq9 _ _ (.tmp 106) (.tmp 108) 9 rfl _ _ rfl rfl _ hdq) hS2 ?_
                  simp only [Act.put, List.setIfInBounds_toArray, List.set_cons_zero, List.set_cons_succ]
                  refine step_to 25 110 (.bool true) Z2 rfl (by kernel_rfl) rfl (by rfl) (rfl) hS2 ?_
                  simp only [Act.put, List.setIfInBounds_toArray, List.set_cons_zero, List.set_cons_succ]
                  refine wpAnyH_done (by kernel_rfl) ?_ _
                  have HQ := hide HA2.out.res
                  have HBE := hide HA2.out.box.bw
                  clear hH hS2 hbx hsb hz2 hz2'
                  go_wp2_with (first
                    | (refine wpList_build_is rfl 67 _ rfl zeroPg Try.built67 ?_)
                    | (refine wpList_store_row rfl 67 _ _ rfl w.heap.size zeroPg rfl rfl 67 _ HQ.out (Try.size67 rfl) rfl one_zeroPg ?_))
                  refine bodyPost_ret (v := .tuple #[.agg zeroPg, .bool false]) (results_pg Try.results34 _ _ w.heap.size 67 zeroPg (0, 0) _ rfl (setRow_heap _ _ _ _ _ _ HQ.out) Try.underlying67 rfl (Try.size67 rfl)) rfl ?_
                  refine ⟨below_setRow HBE.out (Nat.le_refl _) _, ?_⟩
                  rw [HD.out]
                  rfl
            · have hk0 : decide ((0 : Int) < (k : Int)) = true := decide_eq_true (by omega)
              have hks : IntKind.i64.wrap ((k : Int) - 1) = ((k - 1 : Nat) : Int) := wrapN (by omega) (by omega)
              obtain ⟨gk, ok, hak, kc1, _⟩ := HSI.out.1.2.get (k - 1) (by rw [HS.out]; omega)
              have hlast : (S.getD (k - 1) none).isSome = true := by
                cases hx : (S.getD (k - 1) none).isSome with
                | true => rfl
                | false => exact absurd ⟨hk1, hx⟩ hA1
              rw [hlast] at kc1
              subst hak
              by_cases hT : 504 < tsize S
              · have HD : Hid (refDec bs = none) := by rw [Hid, HFN.out, if_pos hT]
                have hTd : decide ((504 : Int) < ((tsize S : Nat) : Int)) = true := decide_eq_true (by omega)
                refine wp_region_held_drew (S := fun w' => (w'.heap[w.heap.size + 1]? = some (.cells #[.int .i64 (nx : Int), .slice (some ⟨gk, ok, none⟩) k ck] 67 (0, 0)) ∧ w'.cell? ⟨gk, ok + (k - 1) * 2, none⟩ = some (.bool true)) ∧ Sl w' (.slice ao 504 c) bs) (by kernel_rfl) ⟨⟨HSI.out.1.1, kc1⟩, HSI.out.2.belowW (below_drewN _ _ 1)⟩ (fun hH => ?_)
                refine take_to 0 85 (.int .i64 (k : Int)) rfl (by kernel_rfl) (by kernel_rfl) (by kernel_rfl) (fun _ _ _ h => h) rfl (by rfl) (fun w hw => by rfl) hH ?_
                simp only [Act.put, List.setIfInBounds_toArray, List.set_cons_zero, List.set_cons_succ]
                refine take_to 1 86 (.bool true) rfl (by kernel_rfl) (by kernel_rfl) (by kernel_rfl) (fun _ _ _ h => h) rfl (by rfl) (fun w hw => op_gtr3 _ _ (.tmp 85) (.const (.int .i64 0)) 3 rfl _ _ rfl rfl _ hk0) hH ?_
                simp only [Act.put, List.setIfInBounds_toArray, List.set_cons_zero, List.set_cons_succ]
                refine take_to 2 87 (.bool true) rfl (by kernel_rfl) (by kernel_rfl) (by kernel_rfl) (fun _ _ _ h => h) rfl (by rfl) (fun w hw => by rfl) hH ?_
                simp only [Act.put, List.setIfInBounds_toArray, List.set_cons_zero, List.set_cons_succ]
                refine take_to 3 88 (.pointer (some ⟨w.heap.size + 1, 1, none⟩)) rfl (by kernel_rfl) (by kernel_rfl) (by kernel_rfl) (fun _ _ _ h => h) rfl (by rfl) (fun w hw => by rfl) hH ?_
                simp only [Act.put, List.setIfInBounds_toArray, List.set_cons_zero, List.set_cons_succ]
                refine take_to 4 89 (.slice (some ⟨gk, ok, none⟩) k ck) rfl (by kernel_rfl) (by kernel_rfl) (by kernel_rfl) (fun _ _ _ h => h) rfl (by rfl) (fun w' hw => op_load _ _ 65 (.tmp 88) rfl (.pointer (some ⟨w.heap.size + 1, 1, none⟩)) _ rfl (run_loadAny w' (w.heap.size + 1) 1 65 _ Try.isAgg65 (by rw [cell_row hw.1.1]; rfl))) hH ?_
                simp only [Act.put, List.setIfInBounds_toArray, List.set_cons_zero, List.set_cons_succ]
                refine take_to 5 90 (.int .i64 (k : Int)) rfl (by kernel_rfl) (by kernel_rfl) (by kernel_rfl) (fun _ _ _ h => h) rfl (by rfl) (fun w hw => by rfl) hH ?_
                simp only [Act.put, List.setIfInBounds_toArray, List.set_cons_zero, List.set_cons_succ]
                refine take_to 6 91 (.int .i64 ((k - 1 : Nat) : Int)) rfl (by kernel_rfl) (by kernel_rfl) (by kernel_rfl) (fun _ _ _ h => h) rfl (by rfl) (fun w hw => op_sub3 _ _ (.tmp 90) (.const (.int .i64 1)) 3 rfl _ _ rfl rfl _ hks) hH ?_
                simp only [Act.put, List.setIfInBounds_toArray, List.set_cons_zero, List.set_cons_succ]
                refine take_to 7 92 (.pointer (some ⟨gk, ok + (k - 1) * 2, none⟩)) rfl (by kernel_rfl) (by kernel_rfl) (by kernel_rfl) (fun _ _ _ h => h) rfl (by rfl) (fun w' hw => op_index _ _ 65 (.tmp 89) (.tmp 91) rfl _ _ _ rfl rfl (run_index65 w' gk ok k ck (k - 1) (by omega))) hH ?_
                simp only [Act.put, List.setIfInBounds_toArray, List.set_cons_zero, List.set_cons_succ]
                refine take_to 8 93 (.pointer (some ⟨gk, ok + (k - 1) * 2, none⟩)) rfl (by kernel_rfl) (by kernel_rfl) (by kernel_rfl) (fun _ _ _ h => h) rfl (by rfl) (fun w hw => by rfl) hH ?_
                simp only [Act.put, List.setIfInBounds_toArray, List.set_cons_zero, List.set_cons_succ]
                refine take_to 9 94 (.bool true) rfl (by kernel_rfl) (by kernel_rfl) (by kernel_rfl) (fun _ _ _ h => h) rfl (by rfl) (fun w' hw => op_load _ _ 4 (.tmp 93) rfl (.pointer (some ⟨gk, ok + (k - 1) * 2, none⟩)) _ rfl (run_loadAny w' gk (ok + (k - 1) * 2) 4 _ Try.isAgg4 hw.1.2)) hH ?_
                simp only [Act.put, List.setIfInBounds_toArray, List.set_cons_zero, List.set_cons_succ]
                refine take_to 10 95 (.bool false) rfl (by kernel_rfl) (by kernel_rfl) (by kernel_rfl) (fun _ _ _ h => h) rfl (by rfl) (fun w hw => by rfl) hH ?_
                simp only [Act.put, List.setIfInBounds_toArray, List.set_cons_zero, List.set_cons_succ]
                refine take_to 11 96 (.bool false) rfl (by kernel_rfl) (by kernel_rfl) (by kernel_rfl) (fun _ _ _ h => h) rfl (by rfl) (fun w hw => by rfl) hH ?_
                simp only [Act.put, List.setIfInBounds_toArray, List.set_cons_zero, List.set_cons_succ]
                refine take_to 12 97 (.bool false) rfl (by kernel_rfl) (by kernel_rfl) (by kernel_rfl) (fun _ _ _ h => h) rfl (by rfl) (fun w hw => by rfl) hH ?_
                simp only [Act.put, List.setIfInBounds_toArray, List.set_cons_zero, List.set_cons_succ]
                refine take_to 13 98 (.pointer (some ⟨w.heap.size + 1, 1, none⟩)) rfl (by kernel_rfl) (by kernel_rfl) (by kernel_rfl) (fun _ _ _ h => h) rfl (by rfl) (fun w hw => by rfl) hH ?_
                simp only [Act.put, List.setIfInBounds_toArray, List.set_cons_zero, List.set_cons_succ]
                refine take_to 14 99 (.slice (some ⟨gk, ok, none⟩) k ck) rfl (by kernel_rfl) (by kernel_rfl) (by kernel_rfl) (fun _ _ _ h => h) rfl (by rfl) (fun w' hw => op_load _ _ 65 (.tmp 98) rfl (.pointer (some ⟨w.heap.size + 1, 1, none⟩)) _ rfl (run_loadAny w' (w.heap.size + 1) 1 65 _ Try.isAgg65 (by rw [cell_row hw.1.1]; rfl))) hH ?_
                simp only [Act.put, List.setIfInBounds_toArray, List.set_cons_zero, List.set_cons_succ]
                refine step_call1_to 15 100 46 rfl (by kernel_rfl) rfl (by rfl) (.tmp 99) _ rfl _ rfl Try.enters46 (HRSZ.out (wr.drewN 1) (HSI.out.1.2.below (below_drewN _ _ 1))) ?_
                rintro e Z1 ⟨rfl, hz1⟩
                subst hz1
                refine ⟨_, rfl, hH, ?_⟩
                simp only [Act.put, List.setIfInBounds_toArray, List.set_cons_zero, List.set_cons_succ]
                refine take_to 16 101 (.bool true) rfl (by kernel_rfl) (by kernel_rfl) (by kernel_rfl) (fun _ _ _ h => h) rfl (by rfl) (fun w hw => op_gtr3 _ _ (.tmp 100) (.const (.int .i64 504)) 3 rfl _ _ rfl rfl _ hTd) hH ?_
                simp only [Act.put, List.setIfInBounds_toArray, List.set_cons_zero, List.set_cons_succ]
                refine take_to 17 102 (.bool true) rfl (by kernel_rfl) (by kernel_rfl) (by kernel_rfl) (fun _ _ _ h => h) rfl (by rfl) (fun w hw => by rfl) hH ?_
                simp only [Act.put, List.setIfInBounds_toArray, List.set_cons_zero, List.set_cons_succ]
                refine take_to 18 103 (.bool true) rfl (by kernel_rfl) (by kernel_rfl) (by kernel_rfl) (fun _ _ _ h => h) rfl (by rfl) (fun w hw => by rfl) hH ?_
                simp only [Act.put, List.setIfInBounds_toArray, List.set_cons_zero, List.set_cons_succ]
                refine skip_to 19 104 rfl (by kernel_rfl) (by kernel_rfl) (by kernel_rfl) (fun _ _ _ h => h) rfl (by rfl) hH ?_
                simp only [Act.put, List.setIfInBounds_toArray, List.set_cons_zero, List.set_cons_succ]
                refine skip_to 20 105 rfl (by kernel_rfl) (by kernel_rfl) (by kernel_rfl) (fun _ _ _ h => h) rfl (by rfl) hH ?_
                simp only [Act.put, List.setIfInBounds_toArray, List.set_cons_zero, List.set_cons_succ]
                refine skip_to 21 106 rfl (by kernel_rfl) (by kernel_rfl) (by kernel_rfl) (fun _ _ _ h => h) rfl (by rfl) hH ?_
                simp only [Act.put, List.setIfInBounds_toArray, List.set_cons_zero, List.set_cons_succ]
                refine skip_to 22 107 rfl (by kernel_rfl) (by kernel_rfl) (by kernel_rfl) (fun _ _ _ h => h) rfl (by rfl) hH ?_
                simp only [Act.put, List.setIfInBounds_toArray, List.set_cons_zero, List.set_cons_succ]
                refine skip_to 23 108 rfl (by kernel_rfl) (by kernel_rfl) (by kernel_rfl) (fun _ _ _ h => h) rfl (by rfl) hH ?_
                simp only [Act.put, List.setIfInBounds_toArray, List.set_cons_zero, List.set_cons_succ]
                refine skip_to 24 109 rfl (by kernel_rfl) (by kernel_rfl) (by kernel_rfl) (fun _ _ _ h => h) rfl (by rfl) hH ?_
                simp only [Act.put, List.setIfInBounds_toArray, List.set_cons_zero, List.set_cons_succ]
                refine step_to 25 110 (.bool true) (wr.drewN 1) rfl (by kernel_rfl) rfl (by rfl) (rfl) hH ?_
                simp only [Act.put, List.setIfInBounds_toArray, List.set_cons_zero, List.set_cons_succ]
                refine wpAnyH_done (by kernel_rfl) ?_ _
                have HQ := hide (HA.out.drewN 1).res
                have HBE := hide (HA.out.drewN 1).box.bw
                clear hH
                go_wp2_with (first
                  | (refine wpList_build_is rfl 67 _ rfl zeroPg Try.built67 ?_)
                  | (refine wpList_store_row rfl 67 _ _ rfl w.heap.size zeroPg rfl rfl 67 _ HQ.out (Try.size67 rfl) rfl one_zeroPg ?_))
                refine bodyPost_ret (v := .tuple #[.agg zeroPg, .bool false]) (results_pg Try.results34 _ _ w.heap.size 67 zeroPg (0, 0) _ rfl (setRow_heap _ _ _ _ _ _ HQ.out) Try.underlying67 rfl (Try.size67 rfl)) rfl ?_
                refine ⟨below_setRow HBE.out (Nat.le_refl _) _, ?_⟩
                rw [HD.out]
                rfl
              · have hTd : decide ((504 : Int) < ((tsize S : Nat) : Int)) = false := decide_eq_false (by omega)
                have hTle : tsize S ≤ 504 := by omega
                rw [if_neg hT] at HFN
                refine wp_region_held_drew (S := fun w' => (w'.heap[w.heap.size + 1]? = some (.cells #[.int .i64 (nx : Int), .slice (some ⟨gk, ok, none⟩) k ck] 67 (0, 0)) ∧ w'.cell? ⟨gk, ok + (k - 1) * 2, none⟩ = some (.bool true)) ∧ Sl w' (.slice ao 504 c) bs) (by kernel_rfl) ⟨⟨HSI.out.1.1, kc1⟩, HSI.out.2.belowW (below_drewN _ _ 1)⟩ (fun hH => ?_)
                refine take_to 0 85 (.int .i64 (k : Int)) rfl (by kernel_rfl) (by kernel_rfl) (by kernel_rfl) (fun _ _ _ h => h) rfl (by rfl) (fun w hw => by rfl) hH ?_
                simp only [Act.put, List.setIfInBounds_toArray, List.set_cons_zero, List.set_cons_succ]
                refine take_to 1 86 (.bool true) rfl (by kernel_rfl) (by kernel_rfl) (by kernel_rfl) (fun _ _ _ h => h) rfl (by rfl) (fun w hw => op_gtr3 _ _ (.tmp 85) (.const (.int .i64 0)) 3 rfl _ _ rfl rfl _ hk0) hH ?_
                simp only [Act.put, List.setIfInBounds_toArray, List.set_cons_zero, List.set_cons_succ]
                refine take_to 2 87 (.bool true) rfl (by kernel_rfl) (by kernel_rfl) (by kernel_rfl) (fun _ _ _ h => h) rfl (by rfl) (fun w hw => by rfl) hH ?_
                simp only [Act.put, List.setIfInBounds_toArray, List.set_cons_zero, List.set_cons_succ]
                refine take_to 3 88 (.pointer (some ⟨w.heap.size + 1, 1, none⟩)) rfl (by kernel_rfl) (by kernel_rfl) (by kernel_rfl) (fun _ _ _ h => h) rfl (by rfl) (fun w hw => by rfl) hH ?_
                simp only [Act.put, List.setIfInBounds_toArray, List.set_cons_zero, List.set_cons_succ]
                refine take_to 4 89 (.slice (some ⟨gk, ok, none⟩) k ck) rfl (by kernel_rfl) (by kernel_rfl) (by kernel_rfl) (fun _ _ _ h => h) rfl (by rfl) (fun w' hw => op_load _ _ 65 (.tmp 88) rfl (.pointer (some ⟨w.heap.size + 1, 1, none⟩)) _ rfl (run_loadAny w' (w.heap.size + 1) 1 65 _ Try.isAgg65 (by rw [cell_row hw.1.1]; rfl))) hH ?_
                simp only [Act.put, List.setIfInBounds_toArray, List.set_cons_zero, List.set_cons_succ]
                refine take_to 5 90 (.int .i64 (k : Int)) rfl (by kernel_rfl) (by kernel_rfl) (by kernel_rfl) (fun _ _ _ h => h) rfl (by rfl) (fun w hw => by rfl) hH ?_
                simp only [Act.put, List.setIfInBounds_toArray, List.set_cons_zero, List.set_cons_succ]
                refine take_to 6 91 (.int .i64 ((k - 1 : Nat) : Int)) rfl (by kernel_rfl) (by kernel_rfl) (by kernel_rfl) (fun _ _ _ h => h) rfl (by rfl) (fun w hw => op_sub3 _ _ (.tmp 90) (.const (.int .i64 1)) 3 rfl _ _ rfl rfl _ hks) hH ?_
                simp only [Act.put, List.setIfInBounds_toArray, List.set_cons_zero, List.set_cons_succ]
                refine take_to 7 92 (.pointer (some ⟨gk, ok + (k - 1) * 2, none⟩)) rfl (by kernel_rfl) (by kernel_rfl) (by kernel_rfl) (fun _ _ _ h => h) rfl (by rfl) (fun w' hw => op_index _ _ 65 (.tmp 89) (.tmp 91) rfl _ _ _ rfl rfl (run_index65 w' gk ok k ck (k - 1) (by omega))) hH ?_
                simp only [Act.put, List.setIfInBounds_toArray, List.set_cons_zero, List.set_cons_succ]
                refine take_to 8 93 (.pointer (some ⟨gk, ok + (k - 1) * 2, none⟩)) rfl (by kernel_rfl) (by kernel_rfl) (by kernel_rfl) (fun _ _ _ h => h) rfl (by rfl) (fun w hw => by rfl) hH ?_
                simp only [Act.put, List.setIfInBounds_toArray, List.set_cons_zero, List.set_cons_succ]
                refine take_to 9 94 (.bool true) rfl (by kernel_rfl) (by kernel_rfl) (by kernel_rfl) (fun _ _ _ h => h) rfl (by rfl) (fun w' hw => op_load _ _ 4 (.tmp 93) rfl (.pointer (some ⟨gk, ok + (k - 1) * 2, none⟩)) _ rfl (run_loadAny w' gk (ok + (k - 1) * 2) 4 _ Try.isAgg4 hw.1.2)) hH ?_
                simp only [Act.put, List.setIfInBounds_toArray, List.set_cons_zero, List.set_cons_succ]
                refine take_to 10 95 (.bool false) rfl (by kernel_rfl) (by kernel_rfl) (by kernel_rfl) (fun _ _ _ h => h) rfl (by rfl) (fun w hw => by rfl) hH ?_
                simp only [Act.put, List.setIfInBounds_toArray, List.set_cons_zero, List.set_cons_succ]
                refine take_to 11 96 (.bool false) rfl (by kernel_rfl) (by kernel_rfl) (by kernel_rfl) (fun _ _ _ h => h) rfl (by rfl) (fun w hw => by rfl) hH ?_
                simp only [Act.put, List.setIfInBounds_toArray, List.set_cons_zero, List.set_cons_succ]
                refine take_to 12 97 (.bool false) rfl (by kernel_rfl) (by kernel_rfl) (by kernel_rfl) (fun _ _ _ h => h) rfl (by rfl) (fun w hw => by rfl) hH ?_
                simp only [Act.put, List.setIfInBounds_toArray, List.set_cons_zero, List.set_cons_succ]
                refine take_to 13 98 (.pointer (some ⟨w.heap.size + 1, 1, none⟩)) rfl (by kernel_rfl) (by kernel_rfl) (by kernel_rfl) (fun _ _ _ h => h) rfl (by rfl) (fun w hw => by rfl) hH ?_
                simp only [Act.put, List.setIfInBounds_toArray, List.set_cons_zero, List.set_cons_succ]
                refine take_to 14 99 (.slice (some ⟨gk, ok, none⟩) k ck) rfl (by kernel_rfl) (by kernel_rfl) (by kernel_rfl) (fun _ _ _ h => h) rfl (by rfl) (fun w' hw => op_load _ _ 65 (.tmp 98) rfl (.pointer (some ⟨w.heap.size + 1, 1, none⟩)) _ rfl (run_loadAny w' (w.heap.size + 1) 1 65 _ Try.isAgg65 (by rw [cell_row hw.1.1]; rfl))) hH ?_
                simp only [Act.put, List.setIfInBounds_toArray, List.set_cons_zero, List.set_cons_succ]
                refine step_call1_to 15 100 46 rfl (by kernel_rfl) rfl (by rfl) (.tmp 99) _ rfl _ rfl Try.enters46 (HRSZ.out (wr.drewN 1) (HSI.out.1.2.below (below_drewN _ _ 1))) ?_
                rintro e Z1 ⟨rfl, hz1⟩
                subst hz1
                refine ⟨_, rfl, hH, ?_⟩
                simp only [Act.put, List.setIfInBounds_toArray, List.set_cons_zero, List.set_cons_succ]
                refine take_to 16 101 (.bool false) rfl (by kernel_rfl) (by kernel_rfl) (by kernel_rfl) (fun _ _ _ h => h) rfl (by rfl) (fun w hw => op_gtr3 _ _ (.tmp 100) (.const (.int .i64 504)) 3 rfl _ _ rfl rfl _ hTd) hH ?_
                simp only [Act.put, List.setIfInBounds_toArray, List.set_cons_zero, List.set_cons_succ]
                refine take_to 17 102 (.bool false) rfl (by kernel_rfl) (by kernel_rfl) (by kernel_rfl) (fun _ _ _ h => h) rfl (by rfl) (fun w hw => by rfl) hH ?_
                simp only [Act.put, List.setIfInBounds_toArray, List.set_cons_zero, List.set_cons_succ]
                refine take_to 18 103 (.bool false) rfl (by kernel_rfl) (by kernel_rfl) (by kernel_rfl) (fun _ _ _ h => h) rfl (by rfl) (fun w hw => by rfl) hH ?_
                simp only [Act.put, List.setIfInBounds_toArray, List.set_cons_zero, List.set_cons_succ]
                refine take_to 19 104 (.agg #[.int .i64 (nx : Int), .slice (some ⟨gk, ok, none⟩) k ck]) rfl (by kernel_rfl) (by kernel_rfl) (by kernel_rfl) (fun _ _ _ h => h) rfl (by rfl) (fun w' hw => op_load _ _ 67 (.tmp 5) rfl (.pointer (some ⟨w.heap.size + 1, 0, none⟩)) _ rfl (run_load67 w' (w.heap.size + 1) _ _ hw.1.1)) hH ?_
                simp only [Act.put, List.setIfInBounds_toArray, List.set_cons_zero, List.set_cons_succ]
                refine take_to 22 107 (.slice ao 504 c) rfl (by kernel_rfl) (by kernel_rfl) (by kernel_rfl) (fun _ _ _ h => h) rfl (by rfl) (fun w hw => by rfl) hH ?_
                simp only [Act.put, List.setIfInBounds_toArray, List.set_cons_zero, List.set_cons_succ]
                refine take_to 23 108 (.string (strOf bs)) rfl (by kernel_rfl) (by kernel_rfl) (by kernel_rfl) (fun _ _ _ h => h) rfl (by rfl) (fun w hw => op_conv _ _ 23 9 (.tmp 107) rfl _ _ rfl (run_str hw.2)) hH ?_
                simp only [Act.put, List.setIfInBounds_toArray, List.set_cons_zero, List.set_cons_succ]
                refine step_call1_to 20 105 33 rfl (by kernel_rfl) rfl (by rfl) (.tmp 104) _ rfl _ rfl Try.enters33 (HRBY.out hTle (wr.drewN 1) (HSI.out.1.2.below (below_drewN _ _ 1))) ?_
                rintro e Z2 ⟨vb, rfl, hsb, hz2'⟩
                have hz2 : Below wr.heap.size wr Z2 := ⟨hz2'.os, hz2'.tape, hz2'.output, hz2'.size, hz2'.block⟩
                have HA2 := hide (HA.out.below hz2)
                obtain ⟨vba, vbc, evb, _⟩ := hsb.len
                rw [length_encN hTle] at evb
                subst evb
                have hbx : Z2.heap[w.heap.size + 1]? = some (.cells #[.int .i64 (nx : Int), .slice (some ⟨gk, ok, none⟩) k ck] 67 (0, 0)) := (hz2.block _ (lt_of_heap HSI.out.1.1)).trans HSI.out.1.1
                have hS2 : (fun w' => (w'.heap[w.heap.size + 1]? = some (.cells #[.int .i64 (nx : Int), .slice (some ⟨gk, ok, none⟩) k ck] 67 (0, 0)) ∧ w'.cell? ⟨gk, ok + (k - 1) * 2, none⟩ = some (.bool true)) ∧ Sl w' (.slice ao 504 c) bs) Z2 := ⟨⟨hbx, (hz2.cell (World.block_lt_of_cell? wr _ kc1)).trans kc1⟩, HSI.out.2.belowW hz2⟩
                refine ⟨_, rfl, hS2, ?_⟩
                simp only [Act.put, List.setIfInBounds_toArray, List.set_cons_zero, List.set_cons_succ]
                refine step_to 21 106 (.string (strOf (encN k nx S))) Z2 rfl (by kernel_rfl) rfl (by rfl) (op_conv _ _ 23 9 (.tmp 105) rfl _ _ rfl (run_str hsb)) hS2 ?_
                simp only [Act.put, List.setIfInBounds_toArray, List.set_cons_zero, List.set_cons_succ]
                by_cases heq : encN k nx S = bs
                · have HDD : Hid (refDec bs = some ⟨nx, S⟩) := by rw [Hid, HFN.out, if_pos heq]
                  have hdq : decide (encN k nx S ≠ bs) = false := decide_eq_false (fun h => h heq)
                  refine step_to 24 109 (.bool false) Z2 rfl (by kernel_rfl) rfl (by rfl) (op_neq9 _ _ (.tmp 106) (.tmp 108) 9 rfl _ _ rfl rfl _ hdq) hS2 ?_
                  simp only [Act.put, List.setIfInBounds_toArray, List.set_cons_zero, List.set_cons_succ]
                  refine step_to 25 110 (.bool false) Z2 rfl (by kernel_rfl) rfl (by rfl) (rfl) hS2 ?_
                  simp only [Act.put, List.setIfInBounds_toArray, List.set_cons_zero, List.set_cons_succ]
                  refine wpAnyH_done (by kernel_rfl) ?_ _
                  have HR2 := hide HA2.out.res
                  have HBL := hide HA2.out.box.bw
                  have q0 : Z2.cell? ⟨w.heap.size + 1, 0, none⟩ = some (.int .i64 (nx : Int)) := by rw [cell_row hbx]; rfl
                  have q1 : Z2.cell? ⟨w.heap.size + 1, 1, none⟩ = some (.slice (some ⟨gk, ok, none⟩) k ck) := by rw [cell_row hbx]; rfl
                  clear hH hS2 hbx hsb hz2 hz2'
                  go_wp2_with (refine wpList_store_row rfl 67 _ _ rfl w.heap.size #[.int .i64 (nx : Int), .slice (some ⟨gk, ok, none⟩) k ck] rfl rfl 67 _ HR2.out (Try.size67 rfl) rfl (one_pg _ _ _ _) ?_)
                  refine bodyPost_ret (v := .tuple #[.agg #[.int .i64 (nx : Int), .slice (some ⟨gk, ok, none⟩) k ck], .bool true]) (results_pg Try.results34 _ _ w.heap.size 67 _ (0, 0) _ rfl (setRow_heap _ _ _ _ _ _ HR2.out) Try.underlying67 rfl (Try.size67 rfl)) rfl ?_
                  refine ⟨below_setRow HBL.out (Nat.le_refl _) _, ?_⟩
                  rw [HDD.out]
                  refine ⟨(some ⟨gk, ok, none⟩), ck, by show _ = Ending.returned (.tuple #[.agg #[.int .i64 (nx : Int), .slice (some ⟨gk, ok, none⟩) S.length ck], .bool true]); rw [HS.out], ?_⟩
                  exact HA2.out.box.own.stay HR2.out (by decide) (Nat.le_refl _) ⟨rfl, rfl, rfl, by simp [World.setRow], fun k hk hn => setRow_other _ _ k _ (by intro e; subst e; exact hn (by simp))⟩
                · have HD : Hid (refDec bs = none) := by rw [Hid, HFN.out, if_neg heq]
                  have hdq : decide (encN k nx S ≠ bs) = true := decide_eq_true heq
                  refine step_to 24 109 (.bool true) Z2 rfl (by kernel_rfl) rfl (by rfl) (op_neq9 _ _ (.tmp 106) (.tmp 108) 9 rfl _ _ rfl rfl _ hdq) hS2 ?_
                  simp only [Act.put, List.setIfInBounds_toArray, List.set_cons_zero, List.set_cons_succ]
                  refine step_to 25 110 (.bool true) Z2 rfl (by kernel_rfl) rfl (by rfl) (rfl) hS2 ?_
                  simp only [Act.put, List.setIfInBounds_toArray, List.set_cons_zero, List.set_cons_succ]
                  refine wpAnyH_done (by kernel_rfl) ?_ _
                  have HQ := hide HA2.out.res
                  have HBE := hide HA2.out.box.bw
                  clear hH hS2 hbx hsb hz2 hz2'
                  go_wp2_with (first
                    | (refine wpList_build_is rfl 67 _ rfl zeroPg Try.built67 ?_)
                    | (refine wpList_store_row rfl 67 _ _ rfl w.heap.size zeroPg rfl rfl 67 _ HQ.out (Try.size67 rfl) rfl one_zeroPg ?_))
                  refine bodyPost_ret (v := .tuple #[.agg zeroPg, .bool false]) (results_pg Try.results34 _ _ w.heap.size 67 zeroPg (0, 0) _ rfl (setRow_heap _ _ _ _ _ _ HQ.out) Try.underlying67 rfl (Try.size67 rfl)) rfl ?_
                  refine ⟨below_setRow HBE.out (Nat.le_refl _) _, ?_⟩
                  rw [HD.out]
                  rfl
end Go.Proofs.Ytdddeneppciiiaa
