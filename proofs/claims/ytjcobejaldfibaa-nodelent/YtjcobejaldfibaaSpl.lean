/- Split. -/
import Derived.Test.YtjcobejaldfibaaCat
import Derived.BigRegion
import Derived.Laws.NewBlocks
namespace Go.Proofs.Ytjcobejaldfibaa
open Go.RowKit
set_option linter.unusedVariables false
set_option linter.unusedSimpArgs false

def Nd.half (N : Nd) : Nat := N.keys.length / 2
def Nd.left (N : Nd) : Nd := if N.leaf then ⟨true, N.keys.take N.half, N.vals.take N.half, [], 0⟩ else ⟨false, N.keys.take N.half, [], N.kids.take (N.half + 1), 0⟩
def Nd.right (N : Nd) : Nd := if N.leaf then ⟨true, N.keys.drop N.half, N.vals.drop N.half, [], N.next⟩ else ⟨false, N.keys.drop (N.half + 1), [], N.kids.drop (N.half + 1), N.next⟩
def Nd.key (N : Nd) : List UInt8 := N.keys.getD N.half []
theorem results_ctc {fn : Func} {p u q : Tmp} {ty : TypeId} (h : fn.results = #[.cell p ty, .tmp u, .cell q ty]) (tmps : Array Value) (w : World) (g g' : Nat) (t t' : TypeId) (cs cs' : Array Value) (fr fr' : Nat × Nat) (d : TypeDesc)
    (hp : tmps.getD p undef = .pointer (some ⟨g, 0, none⟩)) (hg : w.heap[g]? = some (.cells cs t fr)) (hq : tmps.getD q undef = .pointer (some ⟨g', 0, none⟩)) (hg' : w.heap[g']? = some (.cells cs' t' fr'))
    (hu : Try.prog.underlying ty = some d) (hd : d.isRow = true) (hi : (Try.prog.info? ty).map (·.size) = some cs.size) (hi' : (Try.prog.info? ty).map (·.size) = some cs'.size) :
    (results fn tmps).run Try.prog w = .ok (.tuple #[.agg cs, tmps.getD u undef, .agg cs']) w := by
  have hp' : tmps[p]?.getD undef = .pointer (some ⟨g, 0, none⟩) := by simpa using hp
  have hq' : tmps[q]?.getD undef = .pointer (some ⟨g', 0, none⟩) := by simpa using hq
  have hl := run_loadVar_mid (P := Try.prog) w g 0 ty cs.toList d (fun j v hv => by rw [Nat.zero_add, cell_row hg]; simpa using hv) hu hd (by rw [hi, Array.length_toList])
  have hl' := run_loadVar_mid (P := Try.prog) w g' 0 ty cs'.toList d (fun j v hv => by rw [Nat.zero_add, cell_row hg']; simpa using hv) hu hd (by rw [hi', Array.length_toList])
  simp [results, h, hp', hq', asAddr, hl, hl']
/-- Three boxes laid one behind the other. -/
structure Three (w W : World) (a0 a1 a2 a3 a4 : Value) : Prop where
  below : Below w.heap.size w W
  x : Box 26 W w.heap.size a0 a1 a2 a3 a4
  y : Box 26 W (w.heap.size + 1) (.bool false) (.slice none 0 0) (.slice none 0 0) (.slice none 0 0) (.int .i64 0)
  z : Box 26 W (w.heap.size + 1 + 1) (.bool false) (.slice none 0 0) (.slice none 0 0) (.slice none 0 0) (.int .i64 0)
theorem three (w : World) (a0 a1 a2 a3 a4 : Value) : Three w (((w.alloc (.cells #[a0, a1, a2, a3, a4] 26)).alloc (.cells #[.bool false, .slice none 0 0, .slice none 0 0, .slice none 0 0, .int .i64 0] 26)).alloc (.cells #[.bool false, .slice none 0 0, .slice none 0 0, .slice none 0 0, .int .i64 0] 26)) a0 a1 a2 a3 a4 := by
  have h1 := (Below.refl w.heap.size w).alloc (Nat.le_refl _) (.cells #[a0, a1, a2, a3, a4] 26)
  have h2 := h1.alloc h1.size (.cells #[.bool false, .slice none 0 0, .slice none 0 0, .slice none 0 0, .int .i64 0] 26)
  have h3 := h2.alloc h2.size (.cells #[.bool false, .slice none 0 0, .slice none 0 0, .slice none 0 0, .int .i64 0] 26)
  refine ⟨h3, ((Box.new w a0 a1 a2 a3 a4).alloc _).alloc _, ?_, ?_⟩
  · have := (Box.new (t := 26) (w.alloc (.cells #[a0, a1, a2, a3, a4] 26)) (.bool false) (.slice none 0 0) (.slice none 0 0) (.slice none 0 0) (.int .i64 0)).alloc (.cells #[.bool false, .slice none 0 0, .slice none 0 0, .slice none 0 0, .int .i64 0] 26)
    rwa [show (w.alloc (.cells #[a0, a1, a2, a3, a4] 26)).heap.size = w.heap.size + 1 by simp] at this
  · have := Box.new (t := 26) ((w.alloc (.cells #[a0, a1, a2, a3, a4] 26)).alloc (.cells #[.bool false, .slice none 0 0, .slice none 0 0, .slice none 0 0, .int .i64 0] 26)) (.bool false) (.slice none 0 0) (.slice none 0 0) (.slice none 0 0) (.int .i64 0)
    rwa [show ((w.alloc (.cells #[a0, a1, a2, a3, a4] 26)).alloc (.cells #[.bool false, .slice none 0 0, .slice none 0 0, .slice none 0 0, .int .i64 0] 26)).heap.size = w.heap.size + 1 + 1 by simp] at this
theorem NdOwn.keep {base : Nat} {w w' : World} {N : Nd} {vk vv vi : Value} (h : NdOwn base w N vk vv vi) (hs : ∀ k, base ≤ k → w'.heap[k]? = w.heap[k]?) : NdOwn base w' N vk vv vi := by
  obtain ⟨us, a1, a2⟩ := h.keys.out
  obtain ⟨us', b1, b2⟩ := h.vals.out
  exact ⟨⟨us, a1.stay (fun k C fr hk _ => hs k hk), owns_stay a2 (fun k hk => hs k (a2.lt k hk).1)⟩, ⟨us', b1.stay (fun k C fr hk _ => hs k hk), owns_stay b2 (fun k hk => hs k (b2.lt k hk).1)⟩, owns_stay h.kids (fun k hk => hs k (h.kids.lt k hk).1), h.apart⟩
theorem one_of_owns {w : World} {base : Nat} {e : TypeId} {size : Nat} {v : Value} {n : Nat} {xs : List Value} (h : w.ownsRow base e size v n xs) : v.oneCell' = true := by
  obtain ⟨ao, c, rfl⟩ := owns_len h
  rfl
theorem owns_one {base : Nat} {w : World} {v : Value} {L : List (List UInt8)} (h : TsOwn base w v L) : v.oneCell' = true := let ⟨_, _, h2⟩ := h.out; one_of_owns h2
theorem Try.isAgg22 : ∀ w, (isAgg 22).run Try.prog w = .ok false w := fun w => by kernel_rfl
theorem Try.isAgg24 : ∀ w, (isAgg 24).run Try.prog w = .ok false w := fun w => by kernel_rfl
theorem Try.isAgg28 : ∀ w, (isAgg 28).run Try.prog w = .ok false w := fun w => by kernel_rfl
theorem Try.isAgg3 : ∀ w, (isAgg 3).run Try.prog w = .ok false w := fun w => by kernel_rfl
theorem Try.isAgg4 : ∀ w, (isAgg 4).run Try.prog w = .ok false w := fun w => by kernel_rfl
theorem run_index22 (w : World) (b o n cap i : Nat) (h : i < n) : (Instr.indexAt 22 (.slice (some ⟨b, o, none⟩) n cap) (.int .i64 (i : Int))).run Try.prog w = .ok (.pointer (some ⟨b, o + i, none⟩)) w := by
  have hu := Try.underlying22
  have hs : ∀ w, (sizeOf 28).run Try.prog w = .ok 1 w := fun w => by kernel_rfl
  simp [go_sem, hu, hs, h]
theorem load26 {w : World} {b : Nat} {c0 c1 c2 c3 c4 : Value} (h : Box 26 w b c0 c1 c2 c3 c4) : (Instr.loadAt 26 (.pointer (some ⟨b, 0, none⟩))).run Try.prog w = .ok (.agg #[c0, c1, c2, c3, c4]) w :=
  run_loadAt_mid w b 0 26 [c0, c1, c2, c3, c4] _ (fun j v hv => by rw [Nat.zero_add, cell_row h.heap]; simpa using hv) Try.underlying26 rfl Try.size26
theorem store26 {w : World} {b : Nat} {c0 c1 c2 c3 c4 : Value} (h : Box 26 w b c0 c1 c2 c3 c4) (v0 v1 v2 v3 v4 : Value) (h0 : v0.oneCell' = true) (h1 : v1.oneCell' = true) (h2 : v2.oneCell' = true) (h3 : v3.oneCell' = true) (h4 : v4.oneCell' = true) :
    (Instr.storeAt 26 (.pointer (some ⟨b, 0, none⟩)) (.agg #[v0, v1, v2, v3, v4])).run Try.prog w = .ok () (w.setRow b #[v0, v1, v2, v3, v4]) :=
  run_storeAt_in w b 0 26 26 #[c0, c1, c2, c3, c4] [v0, v1, v2, v3, v4] h.heap (by simp) Try.size26 (by intro v hv; simp at hv; rcases hv with rfl | rfl | rfl | rfl | rfl <;> assumption)
theorem op_call1_to {P : Program} {ops : Array Oper} {Q : Exit → Act → World → Prop} {o : Oper} {a : Act} {w : World} {K : Act → World → Prop} {i : Nat} {R : Ending → World → Prop} (dst f : Nat) (hi : ops[i]? = some o)
    (hd : o.dst = some dst) (hw : Region.wanted o (yielded ops a.tmps) = true) (x : Operand) (ts : Array TypeId) (hop : o.op = Op.call { callee := Callee.value (Operand.func f), args := #[x], argTypes := ts })
    (vx : Value) (hx : a.eval x = vx) (hcf : ∀ args w, (callFunc f args).run P w = .ok (.enter f args) w) (hc : Calls P f #[vx] w R)
    (hK : ∀ e w', R e w' → ∃ v, e = .returned v ∧ K (a.put (some dst) v) w') : wpOp P ops Q i K a w := by
  refine wpOp_step hi (fun K' hK' => ?_)
  rw [if_pos hw]
  have hrun : (execOp a.eval o).run P w = .ok (.enter f #[vx]) w := by
    have hff : a.eval (.func f) = .func (.func f) #[] #[] := rfl
    unfold execOp
    simp [hop, resolve, hff, Deferred.ofValue, invoke, hx]
    exact hcf _ _
  unfold Oper.wp
  rw [hrun, Oper.upon_enter]
  refine hc.mono ?_
  intro e w' hR
  obtain ⟨v, rfl, hW⟩ := hK e w' hR
  show K' (a.put o.dst v) w'
  rw [hd]
  exact hK' _ _ hW
theorem box_setRow {t : TypeId} {w : World} {b : Nat} {c0 c1 c2 c3 c4 : Value} (h : Box t w b c0 c1 c2 c3 c4) (v0 v1 v2 v3 v4 : Value) : Box t (w.setRow b #[v0, v1, v2, v3, v4]) b v0 v1 v2 v3 v4 := ⟨setRow_heap _ _ _ _ _ _ h.heap⟩
theorem box_setRow_other {t : TypeId} {w : World} {b g : Nat} {c0 c1 c2 c3 c4 : Value} (h : Box t w b c0 c1 c2 c3 c4) (cs : Array Value) (hg : b ≠ g) : Box t (w.setRow g cs) b c0 c1 c2 c3 c4 := ⟨(setRow_other w g b cs hg).trans h.heap⟩
/-- Where Split stands: its three boxes, and the cell of the middle key. -/
structure SpSt (w W : World) (x1 : Value) (y0 y1 y2 y3 y4 z0 z1 z2 z3 z4 : Value) (gk ok : Nat) (kv : Value) : Prop where
  below : Below w.heap.size w W
  x : ∃ x0 x2 x3 x4, Box 26 W w.heap.size x0 x1 x2 x3 x4
  y : Box 26 W (w.heap.size + 1) y0 y1 y2 y3 y4
  z : Box 26 W (w.heap.size + 1 + 1) z0 z1 z2 z3 z4
  old : gk < w.heap.size
  s2 : W.cell? ⟨gk, ok, none⟩ = some kv
theorem SpSt.s1 {w W : World} {x1 y0 y1 y2 y3 y4 z0 z1 z2 z3 z4 : Value} {gk ok : Nat} {kv : Value} (h : SpSt w W x1 y0 y1 y2 y3 y4 z0 z1 z2 z3 z4 gk ok kv) : W.cell? ⟨w.heap.size, 1, none⟩ = some x1 := let ⟨_, _, _, _, hx⟩ := h.x; hx.cells.k1
theorem SpSt.room {w W : World} {x1 y0 y1 y2 y3 y4 z0 z1 z2 z3 z4 : Value} {gk ok : Nat} {kv : Value} (h : SpSt w W x1 y0 y1 y2 y3 y4 z0 z1 z2 z3 z4 gk ok kv) : w.heap.size + 1 + 1 + 1 ≤ W.heap.size := h.z.lt
theorem SpSt.next {w W W' : World} {x1 y0 y1 y2 y3 y4 z0 z1 z2 z3 z4 : Value} {gk ok : Nat} {kv : Value} (h : SpSt w W x1 y0 y1 y2 y3 y4 z0 z1 z2 z3 z4 gk ok kv) (hb : Below W.heap.size W W') : SpSt w W' x1 y0 y1 y2 y3 y4 z0 z1 z2 z3 z4 gk ok kv :=
  ⟨h.below.trans (hb.mono h.below.size), let ⟨a, b, c, d, hx⟩ := h.x; ⟨a, b, c, d, hx.belowW hb⟩, h.y.belowW hb, h.z.belowW hb, h.old, (hb.cell (World.block_lt_of_cell? W _ h.s2)).trans h.s2⟩
theorem SpSt.drewN {w W : World} {x1 y0 y1 y2 y3 y4 z0 z1 z2 z3 z4 : Value} {gk ok : Nat} {kv : Value} (h : SpSt w W x1 y0 y1 y2 y3 y4 z0 z1 z2 z3 z4 gk ok kv) (m : Nat) : SpSt w (W.drewN m) x1 y0 y1 y2 y3 y4 z0 z1 z2 z3 z4 gk ok kv := h.next (below_drewN _ _ m)
structure SplitEnd (w : World) (L : Nd) (k : List UInt8) (R : Nd) (e : Ending) (w' : World) : Prop where
  out : ∃ ak av ai uk bk bv bi, e = .returned (.tuple #[.agg #[.bool L.leaf, ak, av, ai, .int .i64 L.next], uk, .agg #[.bool R.leaf, bk, bv, bi, .int .i64 R.next]]) ∧ Below w.heap.size w w' ∧ NdOwn w.heap.size w' L ak av ai ∧ w'.ownsRow w.heap.size 5 1 uk k.length (secCells k) ∧ NdOwn w.heap.size w' R bk bv bi
theorem split_tail {w U : World} {x1 y0 y1 y2 y3 y4 z0 z1 z2 z3 z4 : Value} {gk ok : Nat} {kv : Value} {L R : Nd} {k : List UInt8} {lk lv li uk rk rv ri : Value} (st : SpSt w U x1 y0 y1 y2 y3 y4 z0 z1 z2 z3 z4 gk ok kv)
    (h1 : NdOwn (w.heap.size + 1 + 1 + 1) U L lk lv li) (h7 : U.ownsRow (w.heap.size + 1 + 1 + 1) 5 1 uk k.length (secCells k)) (h9 : NdOwn (w.heap.size + 1 + 1 + 1) U R rk rv ri) :
    Box 26 (U.setRow (w.heap.size + 1) #[.bool L.leaf, lk, lv, li, .int .i64 L.next]) (w.heap.size + 1 + 1) z0 z1 z2 z3 z4 ∧
    ((U.setRow (w.heap.size + 1) #[.bool L.leaf, lk, lv, li, .int .i64 L.next]).setRow (w.heap.size + 1 + 1) #[.bool R.leaf, rk, rv, ri, .int .i64 R.next]).heap[w.heap.size + 1]? = some (.cells #[.bool L.leaf, lk, lv, li, .int .i64 L.next] 26 (0, 0)) ∧
    ((U.setRow (w.heap.size + 1) #[.bool L.leaf, lk, lv, li, .int .i64 L.next]).setRow (w.heap.size + 1 + 1) #[.bool R.leaf, rk, rv, ri, .int .i64 R.next]).heap[w.heap.size + 1 + 1]? = some (.cells #[.bool R.leaf, rk, rv, ri, .int .i64 R.next] 26 (0, 0)) ∧
    (U.setRow (w.heap.size + 1) #[.bool L.leaf, lk, lv, li, .int .i64 L.next]).cell? ⟨w.heap.size, 1, none⟩ = some x1 ∧
    (U.setRow (w.heap.size + 1) #[.bool L.leaf, lk, lv, li, .int .i64 L.next]).cell? ⟨gk, ok, none⟩ = some kv ∧
    ((U.setRow (w.heap.size + 1) #[.bool L.leaf, lk, lv, li, .int .i64 L.next]).setRow (w.heap.size + 1 + 1) #[.bool R.leaf, rk, rv, ri, .int .i64 R.next]).cell? ⟨w.heap.size, 1, none⟩ = some x1 ∧
    ((U.setRow (w.heap.size + 1) #[.bool L.leaf, lk, lv, li, .int .i64 L.next]).setRow (w.heap.size + 1 + 1) #[.bool R.leaf, rk, rv, ri, .int .i64 R.next]).cell? ⟨gk, ok, none⟩ = some kv ∧
    SplitEnd w L k R (.returned (.tuple #[.agg #[.bool L.leaf, lk, lv, li, .int .i64 L.next], uk, .agg #[.bool R.leaf, rk, rv, ri, .int .i64 R.next]])) ((U.setRow (w.heap.size + 1) #[.bool L.leaf, lk, lv, li, .int .i64 L.next]).setRow (w.heap.size + 1 + 1) #[.bool R.leaf, rk, rv, ri, .int .i64 R.next]) := by
  obtain ⟨_, _, _, _, hx⟩ := st.x
  have hz1 := box_setRow_other st.z #[.bool L.leaf, lk, lv, li, .int .i64 L.next] (g := w.heap.size + 1) (by omega)
  have hx1 := box_setRow_other hx #[.bool L.leaf, lk, lv, li, .int .i64 L.next] (g := w.heap.size + 1) (by omega)
  have hx2 := box_setRow_other hx1 #[.bool R.leaf, rk, rv, ri, .int .i64 R.next] (g := w.heap.size + 1 + 1) (by omega)
  have hb1 := below_setRow st.below (g := w.heap.size + 1) (by omega) #[.bool L.leaf, lk, lv, li, .int .i64 L.next]
  have hb2 := below_setRow hb1 (g := w.heap.size + 1 + 1) (by omega) #[.bool R.leaf, rk, rv, ri, .int .i64 R.next]
  have hold := st.old
  have hkeep : ∀ q, w.heap.size + 1 + 1 + 1 ≤ q → ((U.setRow (w.heap.size + 1) #[.bool L.leaf, lk, lv, li, .int .i64 L.next]).setRow (w.heap.size + 1 + 1) #[.bool R.leaf, rk, rv, ri, .int .i64 R.next]).heap[q]? = U.heap[q]? := fun q hq =>
    (setRow_other _ _ q _ (by omega)).trans (setRow_other _ _ q _ (by omega))
  have hc1 : (U.setRow (w.heap.size + 1) #[.bool L.leaf, lk, lv, li, .int .i64 L.next]).cell? ⟨gk, ok, none⟩ = some kv := (World.cell?_of_block (setRow_other _ _ gk _ (by omega))).trans st.s2
  refine ⟨hz1, (box_setRow_other (box_setRow st.y _ _ _ _ _) _ (by omega)).heap, (box_setRow hz1 _ _ _ _ _).heap, hx1.cells.k1, hc1, hx2.cells.k1, (World.cell?_of_block (setRow_other _ _ gk _ (by omega))).trans hc1, ⟨lk, lv, li, uk, rk, rv, ri, rfl, hb2, (h1.keep hkeep).mono (by omega), owns_mono (owns_stay h7 (fun q hq => hkeep q (h7.lt q hq).1)) (by omega), (h9.keep hkeep).mono (by omega)⟩⟩
theorem fits_part {N : Nd} (h : Fits N) (lf : Bool) (i j m : Nat) (I : List Int) (x : Int) (K V : List (List UInt8)) (hK : K = N.keys.take i ∨ K = N.keys.drop i) (hV : V = N.vals.take j ∨ V = N.vals.drop j) (hI : I.length ≤ N.kids.length) : Fits ⟨lf, K, V, I, x⟩ := by
  have k1 := h.keys
  have k2 := h.vals
  have k3 := h.kids
  refine ⟨?_, ?_, ?_, ?_, ?_⟩
  · rcases hK with rfl | rfl <;> simp <;> omega
  · rcases hV with rfl | rfl <;> simp <;> omega
  · show 8 * I.length ≤ _; omega
  · rcases hK with rfl | rfl
    · exact fun k hk => h.key k (List.mem_of_mem_take hk)
    · exact fun k hk => h.key k (List.mem_of_mem_drop hk)
  · rcases hV with rfl | rfl
    · exact fun k hk => h.val k (List.mem_of_mem_take hk)
    · exact fun k hk => h.val k (List.mem_of_mem_drop hk)
theorem Box.drew {t : TypeId} {w : World} {b : Nat} {c0 c1 c2 c3 c4 : Value} (h : Box t w b c0 c1 c2 c3 c4) : Box t w.drew b c0 c1 c2 c3 c4 := ⟨h.heap⟩
theorem Box.setOther {t : TypeId} {w : World} {b g : Nat} {c0 c1 c2 c3 c4 : Value} (h : Box t w b c0 c1 c2 c3 c4) (v0 v1 v2 v3 v4 : Value) (hg : b ≠ g) :
    Box t (((((w.setCell ⟨g, 0, none⟩ v0).setCell ⟨g, 1, none⟩ v1).setCell ⟨g, 2, none⟩ v2).setCell ⟨g, 3, none⟩ v3).setCell ⟨g, 4, none⟩ v4) b c0 c1 c2 c3 c4 :=
  ((((h.apart g 0 v0 hg).apart g 1 v1 hg).apart g 2 v2 hg).apart g 3 v3 hg).apart g 4 v4 hg
theorem below_drew {B : Nat} {w w' : World} (h : Below B w w') : Below B w w'.drew := ⟨h.os, h.tape, h.output, h.size, h.block⟩
set_option maxHeartbeats 1000000 in
theorem split_leaf {w : World} {N : Nd} {vk vv vi : Value} (h : NdAt w N vk vv vi) (hf : Fits N) (hh : N.half ≠ 0) (hm : N.matched = true) (hl : N.leaf = true) :
    Calls Try.prog 13 #[.agg #[.bool true, vk, vv, vi, .int .i64 N.next]] w (SplitEnd w N.left N.key N.right) := by
  have HM : Hid (∀ W, Below w.heap.size w W → Calls Try.prog 27 #[.agg #[.bool true, vk, vv, vi, .int .i64 N.next]] W fun e w' => e = .returned (.bool true) ∧ Below W.heap.size W w') := fun W hW => by
    have := matched_any (h.belowW hW) hf
    rw [hm, hl] at this
    exact this
  obtain ⟨ak, ck, rfl, hk1, hk2⟩ := h.keys.len
  obtain ⟨av, cv, rfl, hv1, hv2⟩ := h.vals.len
  obtain ⟨ai, ci, rfl, hi1, hi2⟩ := h.kids.len
  have H := hide h
  have HF := hide hf
  have hhl : N.half ≤ N.keys.length := Nat.div_le_self _ _
  have hvl : N.vals.length = N.keys.length := by simp [Nd.matched, hl] at hm; exact hm.1
  have hhd : ((N.keys.length : Int)).tdiv 2 = (N.half : Int) := by rw [Int.tdiv_eq_ediv_of_nonneg (by omega)]; unfold Nd.half; omega
  have hwr : wrap64 (N.half : Int) = (N.half : Int) := by unfold wrap64; have := hf.keys; have := hhl; omega
  have HVL := hide hvl
  have hh0 : ¬ ((N.half : Int) = 0) := by omega
  have hck : ∀ W, (Instr.sliceAt 22 (.slice ak N.keys.length ck) none (some (.int .i64 (N.half : Int))) none).run Try.prog W = .ok (.slice ak N.half ck) W := fun W => cutT_to W _ _ _ _ (by omega)
  have hcv : ∀ W, (Instr.sliceAt 22 (.slice av N.vals.length cv) none (some (.int .i64 (N.half : Int))) none).run Try.prog W = .ok (.slice av N.half cv) W := fun W => cutT_to W _ _ _ _ (by omega)
  have hck2 : ∀ W, (Instr.sliceAt 22 (.slice ak N.keys.length ck) (some (.int .i64 (N.half : Int))) none none).run Try.prog W = .ok (.slice (cutAt ak ck N.half) (N.keys.length - N.half) (ck - N.half)) W := fun W => cutT_from W _ _ _ _ (by omega)
  have hcv2 : ∀ W, (Instr.sliceAt 22 (.slice av N.vals.length cv) (some (.int .i64 (N.half : Int))) none none).run Try.prog W = .ok (.slice (cutAt av cv N.half) (N.vals.length - N.half) (cv - N.half)) W := fun W => cutT_from W _ _ _ _ (by omega)
  have H3 := hide (three w (.bool true) (.slice ak N.keys.length ck) (.slice av N.vals.length cv) (.slice ai N.kids.length ci) (.int .i64 N.next))
  have HLF := hide hl
  have HKD := hide (h.keys.from N.half hhl)
  have HVD := hide (h.vals.from N.half (by omega))
  have hlt : N.half < N.keys.length := by unfold Nd.half at hh ⊢; omega
  clear h hf hm hk2 hv2 hi2 hi1 hvl
  generalize hnk : N.keys.length = nk at *
  generalize hnv : N.vals.length = nv at *
  generalize hni : N.kids.length = ni at *
  generalize hhf : N.half = hf at *
  generalize hx : N.next = x at *
  have HNK := hide hnk
  have HHF := hide hhf
  have HNV := hide hnv
  have HX := hide hx
  clear hnk hnv hni hhf hx hl
  generalize cutAt ak ck hf = bk at *
  generalize cutAt av cv hf = bv at *
  go_enter Try.func13, Try.ntmps13
  go_upto_region 1 with fail
  generalize (((w.alloc (.cells #[.bool true, .slice ak nk ck, .slice av nv cv, .slice ai ni ci, .int .i64 x] 26)).alloc (.cells #[.bool false, .slice none 0 0, .slice none 0 0, .slice none 0 0, .int .i64 0] 26)).alloc (.cells #[.bool false, .slice none 0 0, .slice none 0 0, .slice none 0 0, .int .i64 0] 26)) = W0 at *
  obtain ⟨k0, k1, k2, k3, k4, f0, f1, f2, f3, f4⟩ := H3.out.x.cells
  go_wp2_with fail
  refine (HM.out W0 H3.out.below).mono ?_
  rintro e W1 ⟨rfl, hb1⟩
  clear k0 k1 k2 k3 k4 f0 f1 f2 f3 f4
  obtain ⟨k0, k1, k2, k3, k4, f0, f1, f2, f3, f4⟩ := (H3.out.x.belowW hb1).cells
  obtain ⟨j0, j1, j2, j3, j4, g0, g1, g2, g3, g4⟩ := (H3.out.y.belowW hb1).cells
  have l0 := (H3.out.x.belowW hb1).lt
  have l1 := (H3.out.y.belowW hb1).lt
  have l2 := (H3.out.z.belowW hb1).lt
  have HX1 := hide (H3.out.x.belowW hb1)
  have HY1 := hide (H3.out.y.belowW hb1)
  have HZ1 := hide (H3.out.z.belowW hb1)
  have HB1 := hide (H3.out.below.trans (hb1.mono H3.out.below.size))
  clear hb1
  go_upto_region 5 with fail
  go_region
  have HX2 := hide ((HX1.out.setOther (.bool true) (.slice ak hf ck) (.slice av hf cv) (.slice none 0 0) (.int .i64 0) (show w.heap.size ≠ w.heap.size + 1 by omega)).drew)
  have HY2 := hide ((HY1.out.setAll (.bool true) (.slice ak hf ck) (.slice av hf cv) (.slice none 0 0) (.int .i64 0)).drew)
  have HZ2 := hide ((HZ1.out.setOther (.bool true) (.slice ak hf ck) (.slice av hf cv) (.slice none 0 0) (.int .i64 0) (show w.heap.size + 1 + 1 ≠ w.heap.size + 1 by omega)).drew)
  have HB2 := hide (below_drew (below_setAll HB1.out (w.heap.size + 1) (.bool true) (.slice ak hf ck) (.slice av hf cv) (.slice none 0 0) (.int .i64 0) (by omega) HB1.out.size))
  clear k0 k1 k2 k3 k4 f0 f1 f2 f3 f4 j0 j1 j2 j3 j4 g0 g1 g2 g3 g4 l0 l1 l2
  go_upto_region 6 with fail
  generalize hW : (((((W1.setCell ⟨w.heap.size + 1, 0, none⟩ (.bool true)).setCell ⟨w.heap.size + 1, 1, none⟩ (.slice ak hf ck)).setCell ⟨w.heap.size + 1, 2, none⟩ (.slice av hf cv)).setCell ⟨w.heap.size + 1, 3, none⟩ (.slice none 0 0)).setCell ⟨w.heap.size + 1, 4, none⟩ (.int .i64 0)).drew = W2 at *
  clear hW
  obtain ⟨k0, k1, k2, k3, k4, f0, f1, f2, f3, f4⟩ := HX2.out.cells
  obtain ⟨j0, j1, j2, j3, j4, g0, g1, g2, g3, g4⟩ := HZ2.out.cells
  have l0 := HX2.out.lt
  have l1 := HY2.out.lt
  have l2 := HZ2.out.lt
  go_region
  have HX3 := hide ((HX2.out.setOther (.bool true) (.slice bk (nk - hf) (ck - hf)) (.slice bv (nv - hf) (cv - hf)) (.slice none 0 0) (.int .i64 x) (show w.heap.size ≠ w.heap.size + 1 + 1 by omega)).drew)
  have HZ3 := hide ((HZ2.out.setAll (.bool true) (.slice bk (nk - hf) (ck - hf)) (.slice bv (nv - hf) (cv - hf)) (.slice none 0 0) (.int .i64 x)).drew)
  have HY3 := hide ((HY2.out.setOther (.bool true) (.slice bk (nk - hf) (ck - hf)) (.slice bv (nv - hf) (cv - hf)) (.slice none 0 0) (.int .i64 x) (show w.heap.size + 1 ≠ w.heap.size + 1 + 1 by omega)).drew)
  have HB3 := hide (below_drew (below_setAll HB2.out (w.heap.size + 1 + 1) (.bool true) (.slice bk (nk - hf) (ck - hf)) (.slice bv (nv - hf) (cv - hf)) (.slice none 0 0) (.int .i64 x) (by omega) HB2.out.size))
  clear k0 k1 k2 k3 k4 f0 f1 f2 f3 f4 j0 j1 j2 j3 j4 g0 g1 g2 g3 g4 l0 l1 l2
  go_upto_region 9 with fail
  generalize hW : (((((W2.setCell ⟨w.heap.size + 1 + 1, 0, none⟩ (.bool true)).setCell ⟨w.heap.size + 1 + 1, 1, none⟩ (.slice bk (nk - hf) (ck - hf))).setCell ⟨w.heap.size + 1 + 1, 2, none⟩ (.slice bv (nv - hf) (cv - hf))).setCell ⟨w.heap.size + 1 + 1, 3, none⟩ (.slice none 0 0)).setCell ⟨w.heap.size + 1 + 1, 4, none⟩ (.int .i64 x)).drew = W3 at *
  clear hW
  obtain ⟨gk, ok, ka, kc, hak, hkc, hks, _, _⟩ := H.out.keys.get hf (by rw [HNK.out]; exact hlt)
  subst hak
  have HCK : Hid (∀ W, Below w.heap.size w W → w.heap.size + 1 + 1 + 1 ≤ W.heap.size → Calls Try.prog 29 #[.slice ka (N.keys.getD hf []).length kc] W fun e w' => ∃ v', e = .returned v' ∧ Below W.heap.size W w' ∧ w'.ownsRow (w.heap.size + 1 + 1 + 1) 5 1 v' (N.keys.getD hf []).length (secCells (N.keys.getD hf []))) := fun W hW hr => (clone_any (hks.belowW hW) (HF.out.key _ (by have := HNK.out; simp [this, hlt]))).mono (fun e w' ⟨v', q1, q2⟩ => ⟨v', q1, q2.below, owns_mono q2.own hr⟩)
  have st : SpSt w W3 (.slice (some ⟨gk, ok, none⟩) nk ck) (.bool true) (.slice (some ⟨gk, ok, none⟩) hf ck) (.slice av hf cv) (.slice none 0 0) (.int .i64 0) (.bool true) (.slice bk (nk - hf) (ck - hf)) (.slice bv (nv - hf) (cv - hf)) (.slice none 0 0) (.int .i64 x) gk (ok + hf) (.slice ka (N.keys.getD hf []).length kc) := ⟨HB3.out, ⟨_, _, _, _, HX3.out⟩, HY3.out, HZ3.out, World.block_lt_of_cell? w _ hkc, (HB3.out.cell (World.block_lt_of_cell? w _ hkc)).trans hkc⟩
  generalize hkey : N.keys.getD hf [] = key at *
  have HKEY := hide hkey
  clear hkey hks hkc
  have HNL : Hid (N.left = ⟨true, N.keys.take hf, N.vals.take hf, [], 0⟩) := by rw [Hid, Nd.left, HHF.out, HLF.out]; rfl
  have HNK2 : Hid (N.key = key) := by rw [Hid, Nd.key, HHF.out]; exact HKEY.out
  have HCL : Hid (∀ W, Below w.heap.size w W → w.heap.size + 1 + 1 + 1 ≤ W.heap.size → Calls Try.prog 26 #[.agg #[.bool true, .slice (some ⟨gk, ok, none⟩) hf ck, .slice av hf cv, .slice none 0 0, .int .i64 0]] W fun e w' => ∃ lk lv li, e = .returned (.agg #[.bool true, lk, lv, li, .int .i64 0]) ∧ Below W.heap.size W w' ∧ NdOwn (w.heap.size + 1 + 1 + 1) w' ⟨true, N.keys.take hf, N.vals.take hf, [], 0⟩ lk lv li) := fun W hW hr => (copied_any (N := ⟨true, N.keys.take hf, N.vals.take hf, [], 0⟩) ⟨(H.out.keys.to hf (by rw [HNK.out]; omega)).belowW hW, (H.out.vals.to hf (by have := HVL.out; have := HNV.out; omega)).belowW hW, (InAt.nil w).belowW hW⟩ (fits_part HF.out true hf hf 0 [] 0 _ _ (.inl rfl) (.inl rfl) (by simp))).mono (fun e w' ⟨p, q, r, e1, e2, e3⟩ => ⟨p, q, r, e1, e2, e3.mono hr⟩)
  have HNR : Hid (N.right = ⟨true, N.keys.drop hf, N.vals.drop hf, [], x⟩) := by rw [Hid, Nd.right, HHF.out, HLF.out, HX.out]; rfl
  have HCR : Hid (∀ W, Below w.heap.size w W → w.heap.size + 1 + 1 + 1 ≤ W.heap.size → Calls Try.prog 26 #[.agg #[.bool true, .slice bk (nk - hf) (ck - hf), .slice bv (nv - hf) (cv - hf), .slice none 0 0, .int .i64 x]] W fun e w' => ∃ rk rv ri, e = .returned (.agg #[.bool true, rk, rv, ri, .int .i64 x]) ∧ Below W.heap.size W w' ∧ NdOwn (w.heap.size + 1 + 1 + 1) w' ⟨true, N.keys.drop hf, N.vals.drop hf, [], x⟩ rk rv ri) := fun W hW hr => (copied_any (N := ⟨true, N.keys.drop hf, N.vals.drop hf, [], x⟩) ⟨HKD.out.belowW hW, HVD.out.belowW hW, (InAt.nil w).belowW hW⟩ (fits_part HF.out true hf hf 0 [] x _ _ (.inr rfl) (.inr rfl) (by simp))).mono (fun e w' ⟨p, q, r, e1, e2, e3⟩ => ⟨p, q, r, e1, e2, e3.mono hr⟩)
  refine wp_region_held_drew (S := fun w' => w'.cell? ⟨w.heap.size, 1, none⟩ = some (.slice (some ⟨gk, ok, none⟩) nk ck) ∧ w'.cell? ⟨gk, ok + hf, none⟩ = some (.slice ka key.length kc)) (by kernel_rfl) ⟨st.s1, st.s2⟩ (fun hH => ?_)
  refine take_to 2 67 (.pointer (some ⟨w.heap.size, 1, none⟩)) rfl (by kernel_rfl) (by kernel_rfl) (by kernel_rfl) (fun _ _ _ h => h) rfl (by rfl) (fun w hw => by rfl) hH ?_
  simp only [Act.put, List.setIfInBounds_toArray, List.set_cons_zero, List.set_cons_succ]
  refine take_to 3 68 (.slice (some ⟨gk, ok, none⟩) nk ck) rfl (by kernel_rfl) (by kernel_rfl) (by kernel_rfl) (fun _ _ _ h => h) rfl (by rfl) (fun w hw => op_load _ _ 22 (.tmp 67) rfl (.pointer (some ⟨_, 1, none⟩)) _ rfl (run_loadAny w _ 1 22 _ Try.isAgg22 hw.1)) hH ?_
  simp only [Act.put, List.setIfInBounds_toArray, List.set_cons_zero, List.set_cons_succ]
  refine take_to 4 69 (.int .i64 (hf : Int)) rfl (by kernel_rfl) (by kernel_rfl) (by kernel_rfl) (fun _ _ _ h => h) rfl (by rfl) (fun w hw => by rfl) hH ?_
  simp only [Act.put, List.setIfInBounds_toArray, List.set_cons_zero, List.set_cons_succ]
  refine take_to 5 70 (.pointer (some ⟨gk, ok + hf, none⟩)) rfl (by kernel_rfl) (by kernel_rfl) (by kernel_rfl) (fun _ _ _ h => h) rfl (by rfl) (fun w hw => op_index _ _ 22 (.tmp 68) (.tmp 69) rfl _ _ _ rfl rfl (run_index22 w gk ok nk ck hf hlt)) hH ?_
  simp only [Act.put, List.setIfInBounds_toArray, List.set_cons_zero, List.set_cons_succ]
  refine take_to 6 71 (.slice ka key.length kc) rfl (by kernel_rfl) (by kernel_rfl) (by kernel_rfl) (fun _ _ _ h => h) rfl (by rfl) (fun w hw => op_load _ _ 28 (.tmp 70) rfl (.pointer (some ⟨_, _, none⟩)) _ rfl (run_loadAny w _ _ 28 _ Try.isAgg28 hw.2)) hH ?_
  simp only [Act.put, List.setIfInBounds_toArray, List.set_cons_zero, List.set_cons_succ]
  have st0 := st.drewN 1
  clear hH
  refine wpAnyH_all (rs := [0, 8]) (by kernel_rfl) (by simp) ?_
  intro n hn
  rcases (by simpa using hn : n = 0 ∨ n = 8) with rfl | rfl
  · refine op_to 65 (.agg #[.bool true, .slice (some ⟨gk, ok, none⟩) hf ck, .slice av hf cv, .slice none 0 0, .int .i64 0]) (W3.drewN 1) rfl rfl (by rfl) (op_load _ _ 26 (.tmp 2) rfl (.pointer (some ⟨_, 0, none⟩)) _ rfl (load26 st0.y)) ⟨⟨st0.s1, st0.s2⟩, ?_⟩
    simp only [Act.put, List.setIfInBounds_toArray, List.set_cons_zero, List.set_cons_succ]
    refine wpAnyH_all (rs := [1, 8]) (by kernel_rfl) (by simp) ?_
    intro n hn
    rcases (by simpa using hn : n = 1 ∨ n = 8) with rfl | rfl
    · refine op_call1_to 66 26 rfl rfl (by rfl) (.tmp 65) _ rfl _ rfl Try.enters26 (HCL.out (W3.drewN 1) st0.below st0.room) ?_
      rintro e U2 ⟨lk, lv, li, rfl, hb, ho⟩
      have st2 := st0.next hb
      have ho12 := ho
      clear hb ho
      refine ⟨_, rfl, ⟨st2.s1, st2.s2⟩, ?_⟩
      simp only [Act.put, List.setIfInBounds_toArray, List.set_cons_zero, List.set_cons_succ]
      refine wpAnyH_all (rs := [7, 8]) (by kernel_rfl) (by simp) ?_
      intro n hn
      rcases (by simpa using hn : n = 7 ∨ n = 8) with rfl | rfl
      · refine op_call1_to 72 29 rfl rfl (by rfl) (.tmp 71) _ rfl _ rfl Try.enters29 (HCK.out U2 st2.below st2.room) ?_
        rintro e U3 ⟨uk, rfl, hb, ho⟩
        have st3 := st2.next hb
        have ho13 := ho12.belowW hb
        have ho73 := ho
        clear hb ho
        refine ⟨_, rfl, ⟨st3.s1, st3.s2⟩, ?_⟩
        simp only [Act.put, List.setIfInBounds_toArray, List.set_cons_zero, List.set_cons_succ]
        refine step_to 8 73 (.agg #[.bool true, .slice bk (nk - hf) (ck - hf), .slice bv (nv - hf) (cv - hf), .slice none 0 0, .int .i64 x]) U3 rfl (by kernel_rfl) rfl (by rfl) (op_load _ _ 26 (.tmp 4) rfl (.pointer (some ⟨_, 0, none⟩)) _ rfl (load26 st3.z)) ⟨st3.s1, st3.s2⟩ ?_
        simp only [Act.put, List.setIfInBounds_toArray, List.set_cons_zero, List.set_cons_succ]
        refine step_call1_to 9 74 26 rfl (by kernel_rfl) rfl (by rfl) (.tmp 73) _ rfl _ rfl Try.enters26 (HCR.out U3 st3.below st3.room) ?_
        rintro e U5 ⟨rk, rv, ri, rfl, hb, ho⟩
        have st5 := st3.next hb
        have ho15 := ho13.belowW hb
        have ho75 := owns_below ho73 hb (Nat.le_refl _)
        have ho95 := ho
        clear hb ho
        refine ⟨_, rfl, ⟨st5.s1, st5.s2⟩, ?_⟩
        simp only [Act.put, List.setIfInBounds_toArray, List.set_cons_zero, List.set_cons_succ]
        obtain ⟨q0, q1, q2, qs1, qs2, qs3, qs4, q3⟩ := split_tail st5 ho15 ho75 ho95
        refine step_store_to 10 (U5.setRow (w.heap.size + 1) #[.bool true, lk, lv, li, .int .i64 0]) rfl (by kernel_rfl) rfl (by rfl) 26 (.tmp 2) (.tmp 66) rfl (.pointer (some ⟨w.heap.size + 1, 0, none⟩)) (.agg #[.bool true, lk, lv, li, .int .i64 0]) rfl rfl (store26 st5.y _ _ _ _ _ (by rfl) (owns_one ho15.keys) (owns_one ho15.vals) (one_of_owns ho15.kids) (by rfl)) ⟨qs1, qs2⟩ ?_
        refine step_to 11 3 uk (U5.setRow (w.heap.size + 1) #[.bool true, lk, lv, li, .int .i64 0]) rfl (by kernel_rfl) rfl (by rfl) (by rfl) ⟨qs1, qs2⟩ ?_
        simp only [Act.put, List.setIfInBounds_toArray, List.set_cons_zero, List.set_cons_succ]
        refine step_store_to 12 ((U5.setRow (w.heap.size + 1) #[.bool true, lk, lv, li, .int .i64 0]).setRow (w.heap.size + 1 + 1) #[.bool true, rk, rv, ri, .int .i64 x]) rfl (by kernel_rfl) rfl (by rfl) 26 (.tmp 4) (.tmp 74) rfl (.pointer (some ⟨w.heap.size + 1 + 1, 0, none⟩)) (.agg #[.bool true, rk, rv, ri, .int .i64 x]) rfl rfl (store26 q0 _ _ _ _ _ (by rfl) (owns_one ho95.keys) (owns_one ho95.vals) (one_of_owns ho95.kids) (by rfl)) ⟨qs3, qs4⟩ ?_
        refine wpAnyH_done (by kernel_rfl) ?_ _
        go_wp2
        refine bodyPost_ret (v := .tuple #[.agg #[.bool true, lk, lv, li, .int .i64 0], uk, .agg #[.bool true, rk, rv, ri, .int .i64 x]]) (results_ctc Try.results13 _ _ (w.heap.size + 1) (w.heap.size + 1 + 1) 26 26 #[.bool true, lk, lv, li, .int .i64 0] #[.bool true, rk, rv, ri, .int .i64 x] (0, 0) (0, 0) _ rfl q1 rfl q2 Try.underlying26 rfl Try.size26 Try.size26) rfl ?_
        rw [HNL.out, HNK2.out, HNR.out]
        exact q3
      · refine op_to 73 (.agg #[.bool true, .slice bk (nk - hf) (ck - hf), .slice bv (nv - hf) (cv - hf), .slice none 0 0, .int .i64 x]) U2 rfl rfl (by rfl) (op_load _ _ 26 (.tmp 4) rfl (.pointer (some ⟨_, 0, none⟩)) _ rfl (load26 st2.z)) ⟨⟨st2.s1, st2.s2⟩, ?_⟩
        simp only [Act.put, List.setIfInBounds_toArray, List.set_cons_zero, List.set_cons_succ]
        refine step_call1_to 7 72 29 rfl (by kernel_rfl) rfl (by rfl) (.tmp 71) _ rfl _ rfl Try.enters29 (HCK.out U2 st2.below st2.room) ?_
        rintro e U10 ⟨uk, rfl, hb, ho⟩
        have st10 := st2.next hb
        have ho110 := ho12.belowW hb
        have ho710 := ho
        clear hb ho
        refine ⟨_, rfl, ⟨st10.s1, st10.s2⟩, ?_⟩
        simp only [Act.put, List.setIfInBounds_toArray, List.set_cons_zero, List.set_cons_succ]
        refine step_call1_to 9 74 26 rfl (by kernel_rfl) rfl (by rfl) (.tmp 73) _ rfl _ rfl Try.enters26 (HCR.out U10 st10.below st10.room) ?_
        rintro e U11 ⟨rk, rv, ri, rfl, hb, ho⟩
        have st11 := st10.next hb
        have ho111 := ho110.belowW hb
        have ho711 := owns_below ho710 hb (Nat.le_refl _)
        have ho911 := ho
        clear hb ho
        refine ⟨_, rfl, ⟨st11.s1, st11.s2⟩, ?_⟩
        simp only [Act.put, List.setIfInBounds_toArray, List.set_cons_zero, List.set_cons_succ]
        obtain ⟨q0, q1, q2, qs1, qs2, qs3, qs4, q3⟩ := split_tail st11 ho111 ho711 ho911
        refine step_store_to 10 (U11.setRow (w.heap.size + 1) #[.bool true, lk, lv, li, .int .i64 0]) rfl (by kernel_rfl) rfl (by rfl) 26 (.tmp 2) (.tmp 66) rfl (.pointer (some ⟨w.heap.size + 1, 0, none⟩)) (.agg #[.bool true, lk, lv, li, .int .i64 0]) rfl rfl (store26 st11.y _ _ _ _ _ (by rfl) (owns_one ho111.keys) (owns_one ho111.vals) (one_of_owns ho111.kids) (by rfl)) ⟨qs1, qs2⟩ ?_
        refine step_to 11 3 uk (U11.setRow (w.heap.size + 1) #[.bool true, lk, lv, li, .int .i64 0]) rfl (by kernel_rfl) rfl (by rfl) (by rfl) ⟨qs1, qs2⟩ ?_
        simp only [Act.put, List.setIfInBounds_toArray, List.set_cons_zero, List.set_cons_succ]
        refine step_store_to 12 ((U11.setRow (w.heap.size + 1) #[.bool true, lk, lv, li, .int .i64 0]).setRow (w.heap.size + 1 + 1) #[.bool true, rk, rv, ri, .int .i64 x]) rfl (by kernel_rfl) rfl (by rfl) 26 (.tmp 4) (.tmp 74) rfl (.pointer (some ⟨w.heap.size + 1 + 1, 0, none⟩)) (.agg #[.bool true, rk, rv, ri, .int .i64 x]) rfl rfl (store26 q0 _ _ _ _ _ (by rfl) (owns_one ho911.keys) (owns_one ho911.vals) (one_of_owns ho911.kids) (by rfl)) ⟨qs3, qs4⟩ ?_
        refine wpAnyH_done (by kernel_rfl) ?_ _
        go_wp2
        refine bodyPost_ret (v := .tuple #[.agg #[.bool true, lk, lv, li, .int .i64 0], uk, .agg #[.bool true, rk, rv, ri, .int .i64 x]]) (results_ctc Try.results13 _ _ (w.heap.size + 1) (w.heap.size + 1 + 1) 26 26 #[.bool true, lk, lv, li, .int .i64 0] #[.bool true, rk, rv, ri, .int .i64 x] (0, 0) (0, 0) _ rfl q1 rfl q2 Try.underlying26 rfl Try.size26 Try.size26) rfl ?_
        rw [HNL.out, HNK2.out, HNR.out]
        exact q3
    · refine op_to 73 (.agg #[.bool true, .slice bk (nk - hf) (ck - hf), .slice bv (nv - hf) (cv - hf), .slice none 0 0, .int .i64 x]) (W3.drewN 1) rfl rfl (by rfl) (op_load _ _ 26 (.tmp 4) rfl (.pointer (some ⟨_, 0, none⟩)) _ rfl (load26 st0.z)) ⟨⟨st0.s1, st0.s2⟩, ?_⟩
      simp only [Act.put, List.setIfInBounds_toArray, List.set_cons_zero, List.set_cons_succ]
      refine step_call1_to 1 66 26 rfl (by kernel_rfl) rfl (by rfl) (.tmp 65) _ rfl _ rfl Try.enters26 (HCL.out (W3.drewN 1) st0.below st0.room) ?_
      rintro e U16 ⟨lk, lv, li, rfl, hb, ho⟩
      have st16 := st0.next hb
      have ho116 := ho
      clear hb ho
      refine ⟨_, rfl, ⟨st16.s1, st16.s2⟩, ?_⟩
      simp only [Act.put, List.setIfInBounds_toArray, List.set_cons_zero, List.set_cons_succ]
      refine step_call1_to 7 72 29 rfl (by kernel_rfl) rfl (by rfl) (.tmp 71) _ rfl _ rfl Try.enters29 (HCK.out U16 st16.below st16.room) ?_
      rintro e U17 ⟨uk, rfl, hb, ho⟩
      have st17 := st16.next hb
      have ho117 := ho116.belowW hb
      have ho717 := ho
      clear hb ho
      refine ⟨_, rfl, ⟨st17.s1, st17.s2⟩, ?_⟩
      simp only [Act.put, List.setIfInBounds_toArray, List.set_cons_zero, List.set_cons_succ]
      refine step_call1_to 9 74 26 rfl (by kernel_rfl) rfl (by rfl) (.tmp 73) _ rfl _ rfl Try.enters26 (HCR.out U17 st17.below st17.room) ?_
      rintro e U18 ⟨rk, rv, ri, rfl, hb, ho⟩
      have st18 := st17.next hb
      have ho118 := ho117.belowW hb
      have ho718 := owns_below ho717 hb (Nat.le_refl _)
      have ho918 := ho
      clear hb ho
      refine ⟨_, rfl, ⟨st18.s1, st18.s2⟩, ?_⟩
      simp only [Act.put, List.setIfInBounds_toArray, List.set_cons_zero, List.set_cons_succ]
      obtain ⟨q0, q1, q2, qs1, qs2, qs3, qs4, q3⟩ := split_tail st18 ho118 ho718 ho918
      refine step_store_to 10 (U18.setRow (w.heap.size + 1) #[.bool true, lk, lv, li, .int .i64 0]) rfl (by kernel_rfl) rfl (by rfl) 26 (.tmp 2) (.tmp 66) rfl (.pointer (some ⟨w.heap.size + 1, 0, none⟩)) (.agg #[.bool true, lk, lv, li, .int .i64 0]) rfl rfl (store26 st18.y _ _ _ _ _ (by rfl) (owns_one ho118.keys) (owns_one ho118.vals) (one_of_owns ho118.kids) (by rfl)) ⟨qs1, qs2⟩ ?_
      refine step_to 11 3 uk (U18.setRow (w.heap.size + 1) #[.bool true, lk, lv, li, .int .i64 0]) rfl (by kernel_rfl) rfl (by rfl) (by rfl) ⟨qs1, qs2⟩ ?_
      simp only [Act.put, List.setIfInBounds_toArray, List.set_cons_zero, List.set_cons_succ]
      refine step_store_to 12 ((U18.setRow (w.heap.size + 1) #[.bool true, lk, lv, li, .int .i64 0]).setRow (w.heap.size + 1 + 1) #[.bool true, rk, rv, ri, .int .i64 x]) rfl (by kernel_rfl) rfl (by rfl) 26 (.tmp 4) (.tmp 74) rfl (.pointer (some ⟨w.heap.size + 1 + 1, 0, none⟩)) (.agg #[.bool true, rk, rv, ri, .int .i64 x]) rfl rfl (store26 q0 _ _ _ _ _ (by rfl) (owns_one ho918.keys) (owns_one ho918.vals) (one_of_owns ho918.kids) (by rfl)) ⟨qs3, qs4⟩ ?_
      refine wpAnyH_done (by kernel_rfl) ?_ _
      go_wp2
      refine bodyPost_ret (v := .tuple #[.agg #[.bool true, lk, lv, li, .int .i64 0], uk, .agg #[.bool true, rk, rv, ri, .int .i64 x]]) (results_ctc Try.results13 _ _ (w.heap.size + 1) (w.heap.size + 1 + 1) 26 26 #[.bool true, lk, lv, li, .int .i64 0] #[.bool true, rk, rv, ri, .int .i64 x] (0, 0) (0, 0) _ rfl q1 rfl q2 Try.underlying26 rfl Try.size26 Try.size26) rfl ?_
      rw [HNL.out, HNK2.out, HNR.out]
      exact q3
  · refine op_to 73 (.agg #[.bool true, .slice bk (nk - hf) (ck - hf), .slice bv (nv - hf) (cv - hf), .slice none 0 0, .int .i64 x]) (W3.drewN 1) rfl rfl (by rfl) (op_load _ _ 26 (.tmp 4) rfl (.pointer (some ⟨_, 0, none⟩)) _ rfl (load26 st0.z)) ⟨⟨st0.s1, st0.s2⟩, ?_⟩
    simp only [Act.put, List.setIfInBounds_toArray, List.set_cons_zero, List.set_cons_succ]
    refine step_to 0 65 (.agg #[.bool true, .slice (some ⟨gk, ok, none⟩) hf ck, .slice av hf cv, .slice none 0 0, .int .i64 0]) (W3.drewN 1) rfl (by kernel_rfl) rfl (by rfl) (op_load _ _ 26 (.tmp 2) rfl (.pointer (some ⟨_, 0, none⟩)) _ rfl (load26 st0.y)) ⟨st0.s1, st0.s2⟩ ?_
    simp only [Act.put, List.setIfInBounds_toArray, List.set_cons_zero, List.set_cons_succ]
    refine step_call1_to 1 66 26 rfl (by kernel_rfl) rfl (by rfl) (.tmp 65) _ rfl _ rfl Try.enters26 (HCL.out (W3.drewN 1) st0.below st0.room) ?_
    rintro e U24 ⟨lk, lv, li, rfl, hb, ho⟩
    have st24 := st0.next hb
    have ho124 := ho
    clear hb ho
    refine ⟨_, rfl, ⟨st24.s1, st24.s2⟩, ?_⟩
    simp only [Act.put, List.setIfInBounds_toArray, List.set_cons_zero, List.set_cons_succ]
    refine step_call1_to 7 72 29 rfl (by kernel_rfl) rfl (by rfl) (.tmp 71) _ rfl _ rfl Try.enters29 (HCK.out U24 st24.below st24.room) ?_
    rintro e U25 ⟨uk, rfl, hb, ho⟩
    have st25 := st24.next hb
    have ho125 := ho124.belowW hb
    have ho725 := ho
    clear hb ho
    refine ⟨_, rfl, ⟨st25.s1, st25.s2⟩, ?_⟩
    simp only [Act.put, List.setIfInBounds_toArray, List.set_cons_zero, List.set_cons_succ]
    refine step_call1_to 9 74 26 rfl (by kernel_rfl) rfl (by rfl) (.tmp 73) _ rfl _ rfl Try.enters26 (HCR.out U25 st25.below st25.room) ?_
    rintro e U26 ⟨rk, rv, ri, rfl, hb, ho⟩
    have st26 := st25.next hb
    have ho126 := ho125.belowW hb
    have ho726 := owns_below ho725 hb (Nat.le_refl _)
    have ho926 := ho
    clear hb ho
    refine ⟨_, rfl, ⟨st26.s1, st26.s2⟩, ?_⟩
    simp only [Act.put, List.setIfInBounds_toArray, List.set_cons_zero, List.set_cons_succ]
    obtain ⟨q0, q1, q2, qs1, qs2, qs3, qs4, q3⟩ := split_tail st26 ho126 ho726 ho926
    refine step_store_to 10 (U26.setRow (w.heap.size + 1) #[.bool true, lk, lv, li, .int .i64 0]) rfl (by kernel_rfl) rfl (by rfl) 26 (.tmp 2) (.tmp 66) rfl (.pointer (some ⟨w.heap.size + 1, 0, none⟩)) (.agg #[.bool true, lk, lv, li, .int .i64 0]) rfl rfl (store26 st26.y _ _ _ _ _ (by rfl) (owns_one ho126.keys) (owns_one ho126.vals) (one_of_owns ho126.kids) (by rfl)) ⟨qs1, qs2⟩ ?_
    refine step_to 11 3 uk (U26.setRow (w.heap.size + 1) #[.bool true, lk, lv, li, .int .i64 0]) rfl (by kernel_rfl) rfl (by rfl) (by rfl) ⟨qs1, qs2⟩ ?_
    simp only [Act.put, List.setIfInBounds_toArray, List.set_cons_zero, List.set_cons_succ]
    refine step_store_to 12 ((U26.setRow (w.heap.size + 1) #[.bool true, lk, lv, li, .int .i64 0]).setRow (w.heap.size + 1 + 1) #[.bool true, rk, rv, ri, .int .i64 x]) rfl (by kernel_rfl) rfl (by rfl) 26 (.tmp 4) (.tmp 74) rfl (.pointer (some ⟨w.heap.size + 1 + 1, 0, none⟩)) (.agg #[.bool true, rk, rv, ri, .int .i64 x]) rfl rfl (store26 q0 _ _ _ _ _ (by rfl) (owns_one ho926.keys) (owns_one ho926.vals) (one_of_owns ho926.kids) (by rfl)) ⟨qs3, qs4⟩ ?_
    refine wpAnyH_done (by kernel_rfl) ?_ _
    go_wp2
    refine bodyPost_ret (v := .tuple #[.agg #[.bool true, lk, lv, li, .int .i64 0], uk, .agg #[.bool true, rk, rv, ri, .int .i64 x]]) (results_ctc Try.results13 _ _ (w.heap.size + 1) (w.heap.size + 1 + 1) 26 26 #[.bool true, lk, lv, li, .int .i64 0] #[.bool true, rk, rv, ri, .int .i64 x] (0, 0) (0, 0) _ rfl q1 rfl q2 Try.underlying26 rfl Try.size26 Try.size26) rfl ?_
    rw [HNL.out, HNK2.out, HNR.out]
    exact q3
end Go.Proofs.Ytjcobejaldfibaa
