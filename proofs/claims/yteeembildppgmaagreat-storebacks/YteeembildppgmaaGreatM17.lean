/- A part of it: ERec EAt EDec. -/
import Derived.Test.YteeembildppgmaaGreatM0
import Derived.Test.YteeembildppgmaaGreatM16
import Derived.ScopeJumps
import Derived.Laws.CopyOwn
namespace Go.Proofs.YteeembildppgmaaGreat.Enc
open Go.RowKit
set_option linter.unusedVariables false
set_option linter.unusedSimpArgs false
def recCells (R : Rc) (vb va vt vd : Value) : Array Value :=
 #[.int .i64 R.kind, .int .i64 R.txn, .int .i64 R.prev, .int .i64 R.next, .int .i64 R.page, .int .i64 R.off, vb, va, vt, vd, .int .i64 R.count]
def zeroCells11 : Array Value := #[.int .i64 0, .int .i64 0, .int .i64 0, .int .i64 0, .int .i64 0, .int .i64 0, .slice none 0 0, .slice none 0 0, .slice none 0 0, .slice none 0 0, .int .i64 0]
theorem recCells_zero : recCells Rc.zero (.slice none 0 0) (.slice none 0 0) (.slice none 0 0) (.slice none 0 0) = zeroCells11 := rfl
def RecVal (w : World) (V : Value) (R : Rc) : Prop :=
 ∃ vb va vt vd, V = .agg (recCells R vb va vt vd) ∧ Sl w vb R.before ∧ Sl w va R.after ∧ Row w vt R.txns.length (txCells R.txns) ∧ Row w vd R.dirty.length (dtCells R.dirty)
def RecOwn (base : Nat) (w : World) (V : Value) (R : Rc) : Prop :=
 ∃ vb va vt vd, V = .agg (recCells R vb va vt vd) ∧ w.ownsRow base 5 1 vb R.before.length (secCells R.before) ∧ w.ownsRow base 5 1 va R.after.length (secCells R.after) ∧ w.ownsRow base 140 3 vt R.txns.length (txCells R.txns) ∧ w.ownsRow base 142 2 vd R.dirty.length (dtCells R.dirty)
theorem RecOwn.val {base : Nat} {w : World} {V : Value} {R : Rc} (h : RecOwn base w V R) : RecVal w V R := by
 obtain ⟨vb, va, vt, vd, e, h1, h2, h3, h4⟩ := h
 exact ⟨vb, va, vt, vd, e, Row.of_owns h1, Row.of_owns h2, Row.of_owns h3, Row.of_owns h4⟩
theorem RecVal.below {B : Nat} {w w' : World} {V : Value} {R : Rc} (h : RecVal w V R) (hb : Below B w w') (hB : w.heap.size ≤ B) : RecVal w' V R := by
 obtain ⟨vb, va, vt, vd, e, h1, h2, h3, h4⟩ := h
 exact ⟨vb, va, vt, vd, e, Row.below h1 hb hB, Row.below h2 hb hB, h3.below hb hB, h4.below hb hB⟩
theorem RecOwn.below {B base : Nat} {w w' : World} {V : Value} {R : Rc} (h : RecOwn base w V R) (hb : Below B w w') (hB : w.heap.size ≤ B) : RecOwn base w' V R := by
 obtain ⟨vb, va, vt, vd, e, h1, h2, h3, h4⟩ := h
 exact ⟨vb, va, vt, vd, e, owns_below h1 hb hB, owns_below h2 hb hB, owns_below h3 hb hB, owns_below h4 hb hB⟩
theorem RecOwn.zero (base : Nat) (w : World) : RecOwn base w (.agg zeroCells11) Rc.zero :=
 ⟨_, _, _, _, by rw [recCells_zero], World.ownsRow_nil _ _ _ _, World.ownsRow_nil _ _ _ _, World.ownsRow_nil _ _ _ _, World.ownsRow_nil _ _ _ _⟩
theorem Row.len {w : World} {v : Value} {n : Nat} {xs : List Value} (h : Row w v n xs) : ∃ ao c, v = .slice ao n c ∧ n ≤ c ∧ c ≤ maxLen := let ⟨ao, c, e, h1, h2, _⟩ := h; ⟨ao, c, e, h1, h2⟩

set_option maxHeartbeats 400000 in
theorem size_any {w : World} {V : Value} {R : Rc} (h : RecVal w V R) (hs : R.size ≤ 1000000000000) :
 Calls Tryz.prog 29 #[V] w fun e w' => e = .returned (.int .i64 (R.size : Nat)) ∧ w' = w.alloc (.cells V.cells 69) := by
 obtain ⟨vb, va, vt, vd, rfl, h1, h2, h3, h4⟩ := h
 obtain ⟨ab, cb, rfl, b1, b2⟩ := h1.len
 obtain ⟨aa, ca, rfl, a1, a2⟩ := h2.len
 obtain ⟨at', ct, rfl, t1, t2⟩ := h3.len
 obtain ⟨ad, cd, rfl, d1, d2⟩ := h4.len
 clear h1 h2 h3 h4
 have hs' : 96 + R.before.length + R.after.length + 24 * R.txns.length + 16 * R.dirty.length ≤ 1000000000000 := hs
 have HS := hide hs'
 have l1 : (R.before.length : Int) ≤ 1000000000000 := by omega
 have l2 : (R.after.length : Int) ≤ 1000000000000 := by omega
 have l3 : (R.txns.length : Int) ≤ 1000000000000 := by omega
 have l4 : (R.dirty.length : Int) ≤ 1000000000000 := by omega
 have HR : Hid (R.size = 96 + R.before.length + R.after.length + 24 * R.txns.length + 16 * R.dirty.length) := by show _ = _; rfl
 clear hs hs' b1 a1 t1 d1 b2 a2 t2 d2
 unfold recCells
 generalize R.before.length = nb at *
 generalize R.after.length = na at *
 generalize R.txns.length = nt at *
 generalize R.dirty.length = nd at *
 go_enter Tryz.func29, Tryz.ntmps29
 go_wp2
 go_ret
 rw [HR.out]
 exact ⟨by congr 2, rfl⟩
end Go.Proofs.YteeembildppgmaaGreat.Enc
namespace Go.Proofs.YteeembildppgmaaGreat.Enc
open Go.RowKit
set_option linter.unusedVariables false
set_option linter.unusedSimpArgs false
theorem Exit.jump_ret {l : Nat} {J : Act → World → Prop} {Q : Exit → Act → World → Prop} {a : Act} {w : World} : Exit.jump l J Q .ret a w = Q .ret a w := rfl
theorem wp_scope_forward {P : Program} {Q : Exit → Act → World → Prop} {a : Act} {w : World} {c rest : Code} (l : Nat) (hf : findLabel c l = some rest)
 (first : c.wp P (Exit.jump l (fun a w => rest.wp P (Exit.noGoto Q) a w) Q) a w) : (Code.scope c).wp P Q a w := by
 refine wp_scope_jumps l _ (fun _ _ => 0) hf first (fun a w hJ => ?_)
 intro b k cs
 obtain ⟨e, a', w', hq, harr⟩ := hJ b k cs
 exact ⟨e, a', w', by cases e <;> first | exact hq | exact hq.elim, harr⟩
theorem results_rec {fn : Func} {p u v : Tmp} {ty : TypeId} (h : fn.results = #[.cell p ty, .tmp u, .tmp v]) (tmps : Array Value) (w : World) (g : Nat) (t : TypeId) (cs : Array Value) (fr : Nat × Nat) (d : TypeDesc)
 (hp : tmps.getD p undef = .pointer (some ⟨g, 0, none⟩)) (hg : w.heap[g]? = some (.cells cs t fr))
 (hu : Tryz.prog.underlying ty = some d) (hd : d.isRow = true) (hi : (Tryz.prog.info? ty).map (·.size) = some cs.size) :
 (results fn tmps).run Tryz.prog w = .ok (.tuple #[.agg cs, tmps.getD u undef, tmps.getD v undef]) w := by
 have hp' : tmps[p]?.getD undef = .pointer (some ⟨g, 0, none⟩) := by simpa using hp
 have hl := run_loadVar_mid (P := Tryz.prog) w g 0 ty cs.toList d (fun j v hv => by rw [Nat.zero_add, cell_row hg]; simpa using hv) hu hd (by rw [hi, Array.length_toList])
 simp [results, h, hp', asAddr, hl]
def DecEnd (w : World) (bs : List UInt8) (e : Ending) (w' : World) : Prop :=
 Below w.heap.size w w' ∧ match dec bs with
 | none => e = .returned (.tuple #[.agg zeroCells11, .int .i64 0, .bool false])
 | some R => ∃ V, e = .returned (.tuple #[V, .int .i64 (R.size : Nat), .bool true]) ∧ RecOwn w.heap.size w' V R
theorem Tryz.size69 {cs : Array Value} (h : cs.size = 11) : (Tryz.prog.info? 69).map (·.size) = some cs.size := by rw [h]; kernel_rfl
theorem one_zero11 : zeroCells11.all (·.oneCell') = true := by simp [zeroCells11, Value.oneCell']
theorem Tryz.built69 : Tryz.prog.built 69 [] = some zeroCells11 := by kernel_rfl
theorem wpList_build_is {P : Program} {ops : Array Oper} {rest : List Oper} {o : Oper} {a : Act} {w : World} {Q : Exit → Act → World → Prop} (hg : o.guard = none) (t : TypeId) (parts : Array (Nat × Operand)) (ho : o.op = .build t parts)
 (cells : Array Value) (hf : P.built t (parts.map fun (i, x) => (i, a.eval x)).toList = some cells)
 (h : wpList P ops Q rest (a.put o.dst (.agg cells)) w) : wpList P ops Q (o :: rest) a w :=
 wpList_build hg t parts ho (by rw [hf]; rfl) (by rw [hf]; exact h)


structure At (w wk : World) (r : List UInt8) (R : Rc) (vb va vt vd : Value) : Prop where
 below : Below w.heap.size w wk
 rd : ∃ v, wk.heap[w.heap.size + 1]? = some (.cells #[v] 179 (0, 0)) ∧ Sl w v r
 cell : wk.heap[w.heap.size]? = some (.cells (recCells R vb va vt vd) 69 (0, 0))
 ob : wk.ownsRow w.heap.size 5 1 vb R.before.length (secCells R.before)
 oa : wk.ownsRow w.heap.size 5 1 va R.after.length (secCells R.after)
 ot : wk.ownsRow w.heap.size 140 3 vt R.txns.length (txCells R.txns)
 od : wk.ownsRow w.heap.size 142 2 vd R.dirty.length (dtCells R.dirty)
def Bad (w w' : World) : Prop := Below w.heap.size w w' ∧ ∃ C', w'.heap[w.heap.size]? = some (.cells C' 69 (0, 0)) ∧ C'.size = 11
theorem below_off {w a b : World} (h : Below w.heap.size w a) (ho : Off [w.heap.size + 1, w.heap.size] a b) : Below w.heap.size w b :=
 h.trans (ho.below h.size (fun k hk => by simp at hk; omega))
theorem At.keep {w a b : World} {r : List UInt8} {R : Rc} {vb va vt vd : Value} (h : At w a r R vb va vt vd) (ho : Off [w.heap.size + 1, w.heap.size] a b) {e : TypeId} {size n : Nat} {v : Value} {xs : List Value}
 (hv : a.ownsRow w.heap.size e size v n xs) (h1 : (179 : TypeId) ≠ e) (h2 : (69 : TypeId) ≠ e) : b.ownsRow w.heap.size e size v n xs := by
 obtain ⟨u, hu, _⟩ := h.rd
 exact owns_off hv ho (fun k hk => by
  simp at hk
  rcases hk with rfl | rfl
  · exact owns_ne hv hu h1
  · exact owns_ne hv h.cell h2)
theorem At.size {w a : World} {r : List UInt8} {R : Rc} {vb va vt vd : Value} (h : At w a r R vb va vt vd) : w.heap.size + 1 < a.heap.size := by
 obtain ⟨u, hu, _⟩ := h.rd
 exact lt_of_heap hu
theorem At.alloc {w a : World} {r : List UInt8} {R : Rc} {vb va vt vd : Value} (h : At w a r R vb va vt vd) (o : Obj) : At w (a.alloc o) r R vb va vt vd := by
 obtain ⟨u, hu, hs⟩ := h.rd
 have hl := h.size
 have hb : Below a.heap.size a (a.alloc o) := (Below.refl _ _).alloc (Nat.le_refl _) _
 exact ⟨h.below.alloc h.below.size _, ⟨u, by rw [Below.heap_alloc _ _ _ hl]; exact hu, hs⟩, by rw [Below.heap_alloc _ _ _ (by omega)]; exact h.cell, owns_below h.ob hb (Nat.le_refl _), owns_below h.oa hb (Nat.le_refl _), owns_below h.ot hb (Nat.le_refl _), owns_below h.od hb (Nat.le_refl _)⟩
theorem At.bytes0 {w a : World} {r p r' : List UInt8} {R : Rc} {va vt vd : Value} (h : At w a r R (.slice none 0 0) va vt vd) (hn : getPiece r = some (p, r')) (hl : r.length ≤ 1000000000000) :
 Calls Tryz.prog 127 #[.pointer (some ⟨w.heap.size + 1, 0, none⟩), .pointer (some ⟨w.heap.size, 6, none⟩)] a fun e w' => e = .returned (.bool true) ∧ ∃ vb, At w w' r' { R with before := p } vb va vt vd := by
 obtain ⟨u, hu, hs⟩ := h.rd
 refine (bytes_ok h.below (by omega) (Nat.le_refl _) (by omega) hu hs h.cell rfl hn (by have := getPiece_len hn; omega)).mono ?_
 rintro e w' ⟨rfl, hO, ⟨vp, hp, hq⟩, v', hv', hs'⟩
 exact ⟨rfl, vp, ⟨below_off h.below hO, ⟨v', hv', hs'⟩, hq, owns_mono hp h.below.size, h.keep hO h.oa (by decide) (by decide), h.keep hO h.ot (by decide) (by decide), h.keep hO h.od (by decide) (by decide)⟩⟩
theorem At.bytes1 {w a : World} {r p r' : List UInt8} {R : Rc} {vb vt vd : Value} (h : At w a r R vb (.slice none 0 0) vt vd) (hn : getPiece r = some (p, r')) (hl : r.length ≤ 1000000000000) :
 Calls Tryz.prog 127 #[.pointer (some ⟨w.heap.size + 1, 0, none⟩), .pointer (some ⟨w.heap.size, 7, none⟩)] a fun e w' => e = .returned (.bool true) ∧ ∃ va, At w w' r' { R with after := p } vb va vt vd := by
 obtain ⟨u, hu, hs⟩ := h.rd
 refine (bytes_ok h.below (by omega) (Nat.le_refl _) (by omega) hu hs h.cell rfl hn (by have := getPiece_len hn; omega)).mono ?_
 rintro e w' ⟨rfl, hO, ⟨vp, hp, hq⟩, v', hv', hs'⟩
 exact ⟨rfl, vp, ⟨below_off h.below hO, ⟨v', hv', hs'⟩, hq, h.keep hO h.ob (by decide) (by decide), owns_mono hp h.below.size, h.keep hO h.ot (by decide) (by decide), h.keep hO h.od (by decide) (by decide)⟩⟩
theorem At.noBytes {w a : World} {r : List UInt8} {R : Rc} {vb va vt vd : Value} (h : At w a r R vb va vt vd) (o : Nat) (hC : (recCells R vb va vt vd)[o]? = some (.slice none 0 0)) (hn : getPiece r = none) :
 Calls Tryz.prog 127 #[.pointer (some ⟨w.heap.size + 1, 0, none⟩), .pointer (some ⟨w.heap.size, o, none⟩)] a fun e w' => e = .returned (.bool false) ∧ Bad w w' := by
 obtain ⟨u, hu, hs⟩ := h.rd
 refine (bytes_no h.below (by omega) (Nat.le_refl _) (by omega) hu hs h.cell hC hn).mono ?_
 rintro e w' ⟨rfl, hO, C', hq, hsz⟩
 exact ⟨rfl, below_off h.below hO, C', hq, hsz⟩
theorem At.txns {w a : World} {r r' : List UInt8} {l : List (Int × Int × Int)} {R : Rc} {vb va vd : Value} (h : At w a r R vb va (.slice none 0 0) vd) (hn : getList getTx r = some (l, r')) (hl : r.length ≤ 1000000000000) :
 Calls Tryz.prog 128 #[.pointer (some ⟨w.heap.size + 1, 0, none⟩), .pointer (some ⟨w.heap.size, 8, none⟩)] a fun e w' => e = .returned (.bool true) ∧ ∃ vt, At w w' r' { R with txns := l } vb va vt vd := by
 obtain ⟨u, hu, hs⟩ := h.rd
 refine (txns_any h.below (by omega) (Nat.le_refl _) (by omega) hu hs h.cell (o := 8) rfl (by decide) hl).mono ?_
 rintro e w' ⟨hO, hE⟩
 rw [hn] at hE
 obtain ⟨rfl, ⟨vp, hp, hq⟩, v', hv', hs'⟩ := hE
 exact ⟨rfl, vp, ⟨below_off h.below hO, ⟨v', hv', hs'⟩, hq, h.keep hO h.ob (by decide) (by decide), h.keep hO h.oa (by decide) (by decide), owns_mono hp h.below.size, h.keep hO h.od (by decide) (by decide)⟩⟩
theorem At.noTxns {w a : World} {r : List UInt8} {R : Rc} {vb va vd : Value} (h : At w a r R vb va (.slice none 0 0) vd) (hn : getList getTx r = none) (hl : r.length ≤ 1000000000000) :
 Calls Tryz.prog 128 #[.pointer (some ⟨w.heap.size + 1, 0, none⟩), .pointer (some ⟨w.heap.size, 8, none⟩)] a fun e w' => e = .returned (.bool false) ∧ Bad w w' := by
 obtain ⟨u, hu, hs⟩ := h.rd
 refine (txns_any h.below (by omega) (Nat.le_refl _) (by omega) hu hs h.cell (o := 8) rfl (by decide) hl).mono ?_
 rintro e w' ⟨hO, hE⟩
 rw [hn] at hE
 obtain ⟨rfl, C', hq, hsz⟩ := hE
 exact ⟨rfl, below_off h.below hO, C', hq, hsz⟩
theorem At.dirty {w a : World} {r r' : List UInt8} {l : List (Int × Int)} {R : Rc} {vb va vt : Value} (h : At w a r R vb va vt (.slice none 0 0)) (hn : getList getDt r = some (l, r')) (hl : r.length ≤ 1000000000000) :
 Calls Tryz.prog 129 #[.pointer (some ⟨w.heap.size + 1, 0, none⟩), .pointer (some ⟨w.heap.size, 9, none⟩)] a fun e w' => e = .returned (.bool true) ∧ ∃ vd, At w w' r' { R with dirty := l } vb va vt vd := by
 obtain ⟨u, hu, hs⟩ := h.rd
 refine (dirty_any h.below (by omega) (Nat.le_refl _) (by omega) hu hs h.cell (o := 9) rfl (by decide) hl).mono ?_
 rintro e w' ⟨hO, hE⟩
 rw [hn] at hE
 obtain ⟨rfl, ⟨vp, hp, hq⟩, v', hv', hs'⟩ := hE
 exact ⟨rfl, vp, ⟨below_off h.below hO, ⟨v', hv', hs'⟩, hq, h.keep hO h.ob (by decide) (by decide), h.keep hO h.oa (by decide) (by decide), h.keep hO h.ot (by decide) (by decide), owns_mono hp h.below.size⟩⟩
theorem At.noDirty {w a : World} {r : List UInt8} {R : Rc} {vb va vt : Value} (h : At w a r R vb va vt (.slice none 0 0)) (hn : getList getDt r = none) (hl : r.length ≤ 1000000000000) :
 Calls Tryz.prog 129 #[.pointer (some ⟨w.heap.size + 1, 0, none⟩), .pointer (some ⟨w.heap.size, 9, none⟩)] a fun e w' => e = .returned (.bool false) ∧ Bad w w' := by
 obtain ⟨u, hu, hs⟩ := h.rd
 refine (dirty_any h.below (by omega) (Nat.le_refl _) (by omega) hu hs h.cell (o := 9) rfl (by decide) hl).mono ?_
 rintro e w' ⟨hO, hE⟩
 rw [hn] at hE
 obtain ⟨rfl, C', hq, hsz⟩ := hE
 exact ⟨rfl, below_off h.below hO, C', hq, hsz⟩
theorem At.into {w a : World} {r : List UInt8} {R : Rc} {vb va vt vd : Value} (h : At w a r R vb va vt vd) (o k : Nat) (hk : o + k ≤ 11) :
 Into (a.alloc (.cells (ptrs w.heap.size o k) 159)) (w.heap.size + 1) w.heap.size a.heap.size o k (recCells R vb va vt vd) 69 := by
 have hl := h.size
 exact ⟨by rw [Below.heap_alloc _ _ _ (by omega)]; exact h.cell, ⟨159, heap_alloc_new _ _⟩, by omega, by omega, by omega, hk, by omega⟩
theorem At.head {w a : World} {r r' : List UInt8} {l : List Int} (h : At w a r Rc.zero (.slice none 0 0) (.slice none 0 0) (.slice none 0 0) (.slice none 0 0)) (hn : getNums 6 r = some (l, r')) :
 Calls Tryz.prog 126 #[.pointer (some ⟨w.heap.size + 1, 0, none⟩), .slice (some ⟨a.heap.size, 0, none⟩) 6 6] (a.alloc (.cells (ptrs w.heap.size 0 6) 159)) fun e w' => e = .returned (.bool true) ∧ At w w' r' (Rc.ofHead l) (.slice none 0 0) (.slice none 0 0) (.slice none 0 0) (.slice none 0 0) := by
 obtain ⟨u, hu, hs⟩ := (h.alloc (.cells (ptrs w.heap.size 0 6) 159)).rd
 have h' := h.alloc (.cells (ptrs w.heap.size 0 6) 159)
 refine (numbers_ok h'.below (by omega) (Nat.le_refl _) hu hs (h.into 0 6 (by omega)) hn).mono ?_
 rintro e w' ⟨rfl, hO, hq, v', hv', hs'⟩
 refine ⟨rfl, ?_⟩
 have hl := (getNums_len 6 hn).2
 match l, hl with
 | [x0, x1, x2, x3, x4, x5], _ =>
   exact ⟨below_off h'.below hO, ⟨v', hv', hs'⟩, hq, World.ownsRow_nil _ _ _ _, World.ownsRow_nil _ _ _ _, World.ownsRow_nil _ _ _ _, World.ownsRow_nil _ _ _ _⟩
theorem At.noNums {w a : World} {r : List UInt8} {R : Rc} {vb va vt vd : Value} (h : At w a r R vb va vt vd) (o k : Nat) (hk : o + k ≤ 11) (hn : getNums k r = none) :
 Calls Tryz.prog 126 #[.pointer (some ⟨w.heap.size + 1, 0, none⟩), .slice (some ⟨a.heap.size, 0, none⟩) k k] (a.alloc (.cells (ptrs w.heap.size o k) 159)) fun e w' => e = .returned (.bool false) ∧ Bad w w' := by
 have h' := h.alloc (.cells (ptrs w.heap.size o k) 159)
 obtain ⟨u, hu, hs⟩ := h'.rd
 refine (numbers_no h'.below (by omega) (Nat.le_refl _) hu hs (h.into o k hk) hn).mono ?_
 rintro e w' ⟨rfl, hO, C', hq, hsz⟩
 exact ⟨rfl, below_off h'.below hO, C', hq, hsz⟩
theorem At.count {w a : World} {r r' : List UInt8} {n : Int} {R : Rc} {vb va vt vd : Value} (h : At w a r R vb va vt vd) (hn : getNum r = some (n, r')) :
 Calls Tryz.prog 126 #[.pointer (some ⟨w.heap.size + 1, 0, none⟩), .slice (some ⟨a.heap.size, 0, none⟩) 1 1] (a.alloc (.cells (ptrs w.heap.size 10 1) 159)) fun e w' => e = .returned (.bool true) ∧ At w w' r' { R with count := n } vb va vt vd := by
 have h' := h.alloc (.cells (ptrs w.heap.size 10 1) 159)
 obtain ⟨u, hu, hs⟩ := h'.rd
 have hn1 : getNums 1 r = some ([n], r') := by simp [getNums, hn]
 refine (numbers_ok h'.below (by omega) (Nat.le_refl _) hu hs (h.into 10 1 (by omega)) hn1).mono ?_
 rintro e w' ⟨rfl, hO, hq, v', hv', hs'⟩
 exact ⟨rfl, below_off h'.below hO, ⟨v', hv', hs'⟩, hq, h'.keep hO h'.ob (by decide) (by decide), h'.keep hO h'.oa (by decide) (by decide), h'.keep hO h'.ot (by decide) (by decide), h'.keep hO h'.od (by decide) (by decide)⟩
theorem none_count {r : List UInt8} (h : getNum r = none) : getNums 1 r = none := by simp [getNums, h]
end Go.Proofs.YteeembildppgmaaGreat.Enc
namespace Go.Proofs.YteeembildppgmaaGreat.Enc
open Go.RowKit
set_option linter.unusedVariables false
set_option linter.unusedSimpArgs false
theorem step_call1_to {P : Program} {ops : Array Oper} {Q : Exit → Act → World → Prop} {md : Region.Mode} {S : World → Prop} {o : Oper} {fuel : Nat} {listed : Array Bool} {a : Act} {w : World} {R : Ending → World → Prop} (j dst f : Nat) (hj : ops[j]? = some o)
 (hr : Region.ready md ops listed = [j]) (hd : o.dst = some dst) (hw : Region.wanted o (yielded ops a.tmps) = true) (x : Operand) (ts : Array TypeId) (hop : o.op = Op.call { callee := Callee.value (Operand.func f), args := #[x], argTypes := ts })
 (vx : Value) (hx : a.eval x = vx) (hcf : ∀ args w, (callFunc f args).run P w = .ok (.enter f args) w) (hc : Calls P f #[vx] w R)
 (hK : ∀ e w', R e w' → ∃ v, e = .returned v ∧ S w' ∧ wpAnyH P md ops Q S fuel (listed.setIfInBounds j true) (a.put (some dst) v) w') : wpAnyH P md ops Q S (fuel + 1) listed a w := by
 refine step_by j hj hr (fun K hK' => ?_)
 rw [if_pos hw]
 have hrun : (execOp a.eval o).run P w = .ok (.enter f #[vx]) w := by
  have hff : a.eval (.func f) = .func (.func f) #[] #[] := rfl
  unfold execOp
  simp [hop, resolve, hff, Deferred.ofValue, invoke, hx]
  exact hcf _ _
 unfold Oper.wp
 rw [hrun, Oper.upon_enter]
 refine hc.mono ?_
 intro e w' hR
 obtain ⟨v, rfl, hS, hW⟩ := hK e w' hR
 show K (a.put o.dst v) w'
 rw [hd]
 exact hK' _ _ hS hW
theorem Tryz.enters29 (args : Array Value) (w : World) : (callFunc 29 args).run Tryz.prog w = .ok (.enter 29 args) w := by kernel_rfl
theorem At.val {w a : World} {r : List UInt8} {R : Rc} {vb va vt vd : Value} (h : At w a r R vb va vt vd) : RecOwn w.heap.size a (.agg (recCells R vb va vt vd)) R := ⟨vb, va, vt, vd, rfl, h.ob, h.oa, h.ot, h.od⟩
theorem At.bad {w a : World} {r : List UInt8} {R : Rc} {vb va vt vd : Value} (h : At w a r R vb va vt vd) : Bad w a := ⟨h.below, _, h.cell, rfl⟩
theorem run_load69 (w : World) (q : Nat) (C : Array Value) (hC : C.size = 11) (h : w.heap[q]? = some (.cells C 69 (0, 0))) : (Instr.loadAt 69 (.pointer (some ⟨q, 0, none⟩))).run Tryz.prog w = .ok (.agg C) w := by
 have := run_loadAt_mid (P := Tryz.prog) w q 0 69 C.toList _ (fun j v hv => by rw [Nat.zero_add, cell_row h]; simpa using hv) Tryz.underlying69 rfl (by rw [Array.length_toList]; exact Tryz.size69 hC)
 simpa using this
theorem run_store69 (w : World) (q : Nat) (old C : Array Value) (hC : C.size = 11) (hO : old.size = 11) (h1 : C.all (·.oneCell') = true) (h : w.heap[q]? = some (.cells old 69 (0, 0))) : (Instr.storeAt 69 (.pointer (some ⟨q, 0, none⟩)) (.agg C)).run Tryz.prog w = .ok () (w.setRow q C) := by
 have := run_storeVar_row (P := Tryz.prog) w q 69 69 old C h (Tryz.size69 hC) (by omega) h1
 simp [Instr.storeAt, Instr.sureAddr, this]
theorem one_own {w : World} {base : Nat} {e : TypeId} {size n : Nat} {v : Value} {xs : List Value} (h : w.ownsRow base e size v n xs) : v.oneCell' = true := by
 obtain ⟨ao, c, rfl⟩ := owns_len h; rfl
theorem At.one {w a : World} {r : List UInt8} {R : Rc} {vb va vt vd : Value} (h : At w a r R vb va vt vd) : (recCells R vb va vt vd).all (·.oneCell') = true := by
 have h1 := one_own h.ob
 have h2 := one_own h.oa
 have h3 := one_own h.ot
 have h4 := one_own h.od
 simp [recCells, h1, h2, h3, h4]
 simp [Value.oneCell']

set_option maxHeartbeats 4000000 in
set_option maxRecDepth 100000 in
theorem decode_any {w : World} {v : Value} {bs : List UInt8} (hb : Sl w v bs) (hlen : bs.length ≤ 1000000000000) :
 Calls Tryz.prog 100 #[v] w fun e w' => DecEnd w bs e w' := by
 obtain ⟨ao, c, rfl, hc1, hc2⟩ := hb.len
 have hB1 : Below w.heap.size w ((w.alloc (.cells zeroCells11 69)).alloc (.cells #[.slice ao bs.length c] 179)) := ((Below.refl _ w).alloc (Nat.le_refl _) _).alloc (by simp) _
 have hR1 : ((w.alloc (.cells zeroCells11 69)).alloc (.cells #[.slice ao bs.length c] 179)).heap[w.heap.size + 1]? = some (.cells #[.slice ao bs.length c] 179 (0, 0)) := by
  have h := heap_alloc_new (w.alloc (.cells zeroCells11 69)) (.cells #[.slice ao bs.length c] 179)
  rw [show (w.alloc (.cells zeroCells11 69)).heap.size = w.heap.size + 1 by simp] at h
  exact h
 have hQ1 : ((w.alloc (.cells zeroCells11 69)).alloc (.cells #[.slice ao bs.length c] 179)).heap[w.heap.size]? = some (.cells zeroCells11 69 (0, 0)) := by
  rw [Below.heap_alloc _ _ _ (by simp)]
  exact heap_alloc_new _ _
 unfold zeroCells11 at hB1 hR1 hQ1
 cases hp : getPiece bs with
 | none =>
   have HD : Hid (dec bs = none) := by show _ = _; simp [dec, hp]
   have HC := hide (bound_no hB1 (by omega) hR1 hb hp)
   have HB1 := hide hB1
   have HQ1 := hide hQ1
   clear hp hb hB1 hR1 hQ1 hlen hc1 hc2
   generalize bs.length = L at *
   go_enter Tryz.func100, Tryz.ntmps100
   go_wp2
   refine wp_scope_forward 0 rfl ?_
   go_wp2_with fail
   refine HC.out.mono ?_
   rintro e w1 ⟨rfl, hO⟩
   have hbad : Bad w w1 := ⟨HB1.out.trans (hO.below HB1.out.size (fun k hk => by simp at hk; omega)), _, (hO.block _ (by simp; omega) (by simp)).trans HQ1.out, rfl⟩
   clear hO HC HB1 HQ1
   obtain ⟨hbe, C', hq, hsz⟩ := hbad
   have HBE := hide hbe
   have HQ := hide hq
   have HSZ := hide hsz
   clear hbe hq hsz
   go_wp2
   go_step3
   refine ⟨rfl, ?_⟩
   go_wp2_with (first
    | (refine wpList_build_is rfl 69 _ rfl zeroCells11 Tryz.built69 ?_)
    | (refine wpList_store_row rfl 69 _ _ rfl w.heap.size zeroCells11 rfl rfl 69 _ HQ.out (Tryz.size69 rfl) HSZ.out one_zero11 ?_))
   rw [Exit.noGoto_ret]
   refine bodyPost_ret (v := .tuple #[.agg zeroCells11, .int .i64 0, .bool false]) (results_rec Tryz.results100 _ _ w.heap.size 69 zeroCells11 (0, 0) _ rfl (setRow_heap _ _ _ _ _ _ HQ.out) Tryz.underlying69 rfl (Tryz.size69 rfl)) rfl ?_
   refine ⟨below_setRow HBE.out (Nat.le_refl _) _, ?_⟩
   rw [HD.out]
 | some x =>
   obtain ⟨own, rb⟩ := x
   have hown : own.length ≤ 1000000000000 := by have := getPiece_len hp; omega
   have HP := hide hp
   have HLEN : Hid (∀ R, dec bs = some R → R.size ≤ 1000000000000) := fun R hR => Nat.le_trans (dec_le hR) hlen
   have HC := hide (bound_ok hB1 (by omega) hR1 hb hp)
   have HB1 := hide hB1
   have HQ1 := hide hQ1
   clear hp hb hB1 hR1 hQ1 hlen hc1 hc2
   generalize bs.length = L at *
   go_enter Tryz.func100, Tryz.ntmps100
   go_wp2
   refine wp_scope_forward 0 rfl ?_
   go_wp2_with fail
   refine HC.out.mono ?_
   rintro e w1 ⟨rfl, v1, hR1, hs1, hO⟩
   have A1 : At w w1 own Rc.zero (.slice none 0 0) (.slice none 0 0) (.slice none 0 0) (.slice none 0 0) := ⟨HB1.out.trans (hO.below HB1.out.size (fun k hk => by simp at hk; omega)), ⟨v1, hR1, hs1⟩, (hO.block _ (by simp; omega) (by simp)).trans HQ1.out, World.ownsRow_nil _ _ _ _, World.ownsRow_nil _ _ _ _, World.ownsRow_nil _ _ _ _, World.ownsRow_nil _ _ _ _⟩
   have HDE : Hid (dec bs = atHead own) := by show _ = _; simp [dec, HP.out]
   clear hO HC HB1 HQ1 hR1 hs1 HP
   cases h2 : getNums 6 own with
   | none =>
     have HD : Hid (dec bs = none) := by show _ = _; rw [HDE.out]; simp [atHead, h2]
     have HC := hide (A1.noNums 0 6 (by omega) h2)
     clear A1 h2 HDE
     go_wp2_with fail
     refine HC.out.mono ?_
     rintro e w2 ⟨rfl, hbad⟩
     clear HC
     obtain ⟨hbe, C', hq, hsz⟩ := hbad
     have HBE := hide hbe
     have HQ := hide hq
     have HSZ := hide hsz
     clear hbe hq hsz
     go_wp2
     go_step3
     refine ⟨rfl, ?_⟩
     go_wp2_with (first
      | (refine wpList_build_is rfl 69 _ rfl zeroCells11 Tryz.built69 ?_)
      | (refine wpList_store_row rfl 69 _ _ rfl w.heap.size zeroCells11 rfl rfl 69 _ HQ.out (Tryz.size69 rfl) HSZ.out one_zero11 ?_))
     rw [Exit.noGoto_ret]
     refine bodyPost_ret (v := .tuple #[.agg zeroCells11, .int .i64 0, .bool false]) (results_rec Tryz.results100 _ _ w.heap.size 69 zeroCells11 (0, 0) _ rfl (setRow_heap _ _ _ _ _ _ HQ.out) Tryz.underlying69 rfl (Tryz.size69 rfl)) rfl ?_
     refine ⟨below_setRow HBE.out (Nat.le_refl _) _, ?_⟩
     rw [HD.out]
   | some x2 =>
     obtain ⟨l, r2⟩ := x2
     have hr2 : r2.length ≤ 1000000000000 := by have := getNums_len 6 h2; omega
     have HDE2 : Hid (dec bs = atBefore (Rc.ofHead l) r2) := by show _ = _; rw [HDE.out]; simp [atHead, h2]
     have HC := hide (A1.head h2)
     clear A1 h2 HDE hown
     go_wp2_with fail
     refine HC.out.mono ?_
     rintro e w2 ⟨rfl, A2⟩
     clear HC
     cases h3 : getPiece r2 with
     | none =>
       have HD : Hid (dec bs = none) := by show _ = _; rw [HDE2.out]; simp [atBefore, h3]
       have HC := hide (A2.noBytes 6 rfl h3)
       clear A2 h3 HDE2
       go_wp2_with fail
       refine HC.out.mono ?_
       rintro e w3 ⟨rfl, hbad⟩
       clear HC
       obtain ⟨hbe, C', hq, hsz⟩ := hbad
       have HBE := hide hbe
       have HQ := hide hq
       have HSZ := hide hsz
       clear hbe hq hsz
       go_wp2
       go_step3
       refine ⟨rfl, ?_⟩
       go_wp2_with (first
        | (refine wpList_build_is rfl 69 _ rfl zeroCells11 Tryz.built69 ?_)
        | (refine wpList_store_row rfl 69 _ _ rfl w.heap.size zeroCells11 rfl rfl 69 _ HQ.out (Tryz.size69 rfl) HSZ.out one_zero11 ?_))
       rw [Exit.noGoto_ret]
       refine bodyPost_ret (v := .tuple #[.agg zeroCells11, .int .i64 0, .bool false]) (results_rec Tryz.results100 _ _ w.heap.size 69 zeroCells11 (0, 0) _ rfl (setRow_heap _ _ _ _ _ _ HQ.out) Tryz.underlying69 rfl (Tryz.size69 rfl)) rfl ?_
       refine ⟨below_setRow HBE.out (Nat.le_refl _) _, ?_⟩
       rw [HD.out]
     | some x3 =>
       obtain ⟨p3, r3⟩ := x3
       have hr3 : r3.length ≤ 1000000000000 := by have := getPiece_len h3; omega
       have HDE3 : Hid (dec bs = atAfter { Rc.ofHead l with before := p3 } r3) := by show _ = _; rw [HDE2.out]; simp [atBefore, h3]
       have HC := hide (A2.bytes0 h3 hr2)
       clear A2 h3 HDE2 hr2
       go_wp2_with fail
       refine HC.out.mono ?_
       rintro e w3 ⟨rfl, vb, A3⟩
       clear HC
       generalize ({ Rc.ofHead l with before := p3 } : Rc) = R3 at *
       cases h4 : getPiece r3 with
       | none =>
         have HD : Hid (dec bs = none) := by show _ = _; rw [HDE3.out]; simp [atAfter, h4]
         have HC := hide (A3.noBytes 7 rfl h4)
         clear A3 h4 HDE3
         go_wp2_with fail
         refine HC.out.mono ?_
         rintro e w4 ⟨rfl, hbad⟩
         clear HC
         obtain ⟨hbe, C', hq, hsz⟩ := hbad
         have HBE := hide hbe
         have HQ := hide hq
         have HSZ := hide hsz
         clear hbe hq hsz
         go_wp2
         go_step3
         refine ⟨rfl, ?_⟩
         go_wp2_with (first
          | (refine wpList_build_is rfl 69 _ rfl zeroCells11 Tryz.built69 ?_)
          | (refine wpList_store_row rfl 69 _ _ rfl w.heap.size zeroCells11 rfl rfl 69 _ HQ.out (Tryz.size69 rfl) HSZ.out one_zero11 ?_))
         rw [Exit.noGoto_ret]
         refine bodyPost_ret (v := .tuple #[.agg zeroCells11, .int .i64 0, .bool false]) (results_rec Tryz.results100 _ _ w.heap.size 69 zeroCells11 (0, 0) _ rfl (setRow_heap _ _ _ _ _ _ HQ.out) Tryz.underlying69 rfl (Tryz.size69 rfl)) rfl ?_
         refine ⟨below_setRow HBE.out (Nat.le_refl _) _, ?_⟩
         rw [HD.out]
       | some x4 =>
         obtain ⟨p4, r4⟩ := x4
         have hr4 : r4.length ≤ 1000000000000 := by have := getPiece_len h4; omega
         have HDE4 : Hid (dec bs = atTxns { R3 with after := p4 } r4) := by show _ = _; rw [HDE3.out]; simp [atAfter, h4]
         have HC := hide (A3.bytes1 h4 hr3)
         clear A3 h4 HDE3 hr3
         go_wp2_with fail
         refine HC.out.mono ?_
         rintro e w4 ⟨rfl, va, A4⟩
         clear HC
         generalize ({ R3 with after := p4 } : Rc) = R4 at *
         cases h5 : getList getTx r4 with
         | none =>
           have HD : Hid (dec bs = none) := by show _ = _; rw [HDE4.out]; simp [atTxns, h5]
           have HC := hide (A4.noTxns h5 hr4)
           clear A4 h5 HDE4
           go_wp2_with fail
           refine HC.out.mono ?_
           rintro e w5 ⟨rfl, hbad⟩
           clear HC
           obtain ⟨hbe, C', hq, hsz⟩ := hbad
           have HBE := hide hbe
           have HQ := hide hq
           have HSZ := hide hsz
           clear hbe hq hsz
           go_wp2
           go_step3
           refine ⟨rfl, ?_⟩
           go_wp2_with (first
            | (refine wpList_build_is rfl 69 _ rfl zeroCells11 Tryz.built69 ?_)
            | (refine wpList_store_row rfl 69 _ _ rfl w.heap.size zeroCells11 rfl rfl 69 _ HQ.out (Tryz.size69 rfl) HSZ.out one_zero11 ?_))
           rw [Exit.noGoto_ret]
           refine bodyPost_ret (v := .tuple #[.agg zeroCells11, .int .i64 0, .bool false]) (results_rec Tryz.results100 _ _ w.heap.size 69 zeroCells11 (0, 0) _ rfl (setRow_heap _ _ _ _ _ _ HQ.out) Tryz.underlying69 rfl (Tryz.size69 rfl)) rfl ?_
           refine ⟨below_setRow HBE.out (Nat.le_refl _) _, ?_⟩
           rw [HD.out]
         | some x5 =>
           obtain ⟨l5, r5⟩ := x5
           have hr5 : r5.length ≤ 1000000000000 := by have := getList_len (fun _ _ _ => getTx_len) h5; omega
           have HDE5 : Hid (dec bs = atDirty { R4 with txns := l5 } r5) := by show _ = _; rw [HDE4.out]; simp [atTxns, h5]
           have HC := hide (A4.txns h5 hr4)
           clear A4 h5 HDE4 hr4
           go_wp2_with fail
           refine HC.out.mono ?_
           rintro e w5 ⟨rfl, vt, A5⟩
           clear HC
           generalize ({ R4 with txns := l5 } : Rc) = R5 at *
           cases h6 : getList getDt r5 with
           | none =>
             have HD : Hid (dec bs = none) := by show _ = _; rw [HDE5.out]; simp [atDirty, h6]
             have HC := hide (A5.noDirty h6 hr5)
             clear A5 h6 HDE5
             go_wp2_with fail
             refine HC.out.mono ?_
             rintro e w6 ⟨rfl, hbad⟩
             clear HC
             obtain ⟨hbe, C', hq, hsz⟩ := hbad
             have HBE := hide hbe
             have HQ := hide hq
             have HSZ := hide hsz
             clear hbe hq hsz
             go_wp2
             go_step3
             refine ⟨rfl, ?_⟩
             go_wp2_with (first
              | (refine wpList_build_is rfl 69 _ rfl zeroCells11 Tryz.built69 ?_)
              | (refine wpList_store_row rfl 69 _ _ rfl w.heap.size zeroCells11 rfl rfl 69 _ HQ.out (Tryz.size69 rfl) HSZ.out one_zero11 ?_))
             rw [Exit.noGoto_ret]
             refine bodyPost_ret (v := .tuple #[.agg zeroCells11, .int .i64 0, .bool false]) (results_rec Tryz.results100 _ _ w.heap.size 69 zeroCells11 (0, 0) _ rfl (setRow_heap _ _ _ _ _ _ HQ.out) Tryz.underlying69 rfl (Tryz.size69 rfl)) rfl ?_
             refine ⟨below_setRow HBE.out (Nat.le_refl _) _, ?_⟩
             rw [HD.out]
           | some x6 =>
             obtain ⟨l6, r6⟩ := x6
             have HDE6 : Hid (dec bs = atCount { R5 with dirty := l6 } r6) := by show _ = _; rw [HDE5.out]; simp [atDirty, h6]
             have HC := hide (A5.dirty h6 hr5)
             clear A5 h6 HDE5 hr5
             go_wp2_with fail
             refine HC.out.mono ?_
             rintro e w6 ⟨rfl, vd, A6⟩
             clear HC
             generalize ({ R5 with dirty := l6 } : Rc) = R6 at *
             cases h7 : getNum r6 with
             | none =>
               have HD : Hid (dec bs = none) := by show _ = _; rw [HDE6.out]; simp [atCount, h7]
               have HC := hide (A6.noNums 10 1 (by omega) (none_count h7))
               clear A6 h7 HDE6
               go_wp2_with fail
               refine HC.out.mono ?_
               rintro e w7 ⟨rfl, hbad⟩
               clear HC
               obtain ⟨hbe, C', hq, hsz⟩ := hbad
               have HBE := hide hbe
               have HQ := hide hq
               have HSZ := hide hsz
               clear hbe hq hsz
               go_wp2
               go_step3
               refine ⟨rfl, ?_⟩
               go_wp2_with (first
                | (refine wpList_build_is rfl 69 _ rfl zeroCells11 Tryz.built69 ?_)
                | (refine wpList_store_row rfl 69 _ _ rfl w.heap.size zeroCells11 rfl rfl 69 _ HQ.out (Tryz.size69 rfl) HSZ.out one_zero11 ?_))
               rw [Exit.noGoto_ret]
               refine bodyPost_ret (v := .tuple #[.agg zeroCells11, .int .i64 0, .bool false]) (results_rec Tryz.results100 _ _ w.heap.size 69 zeroCells11 (0, 0) _ rfl (setRow_heap _ _ _ _ _ _ HQ.out) Tryz.underlying69 rfl (Tryz.size69 rfl)) rfl ?_
               refine ⟨below_setRow HBE.out (Nat.le_refl _) _, ?_⟩
               rw [HD.out]
             | some x7 =>
               obtain ⟨n7, r7⟩ := x7
               have HDE7 : Hid (dec bs = if r7 = [] then some { R6 with count := n7 } else none) := by show _ = _; rw [HDE6.out]; simp [atCount, h7]
               have HC := hide (A6.count h7)
               clear A6 h7 HDE6
               go_wp2_with fail
               refine HC.out.mono ?_
               rintro e w7 ⟨rfl, A7⟩
               clear HC
               generalize ({ R6 with count := n7 } : Rc) = R7 at *
               obtain ⟨u7, hu7, hs7⟩ := A7.rd
               obtain ⟨a7, c7, rfl, q1, q2⟩ := hs7.len
               have k7 : w7.cell? ⟨w.heap.size + 1, 0, none⟩ = some (.slice a7 r7.length c7) := by rw [cell_row hu7]; rfl
               simp only [maxLen] at q2
               by_cases hz : r7 = []
               · have HD : Hid (dec bs = some R7) := by show _ = _; rw [HDE7.out, if_pos hz]
                 subst hz
                 have HSZ := hide (HLEN.out _ HD.out)
                 have HA := hide A7
                 clear A7 hu7 hs7 HDE7 HLEN
                 go_wp2
                 refine wp_region_held_drew (S := fun w' => w'.heap[w.heap.size]? = some (.cells (recCells R7 vb va vt vd) 69 (0, 0))) (by kernel_rfl) HA.out.cell (fun hH => ?_)
                 have L28 : ∀ W : World, W.heap[w.heap.size]? = some (.cells (recCells R7 vb va vt vd) 69 (0, 0)) → (do pure (Next.value (← Instr.loadAt 69 (.pointer (some ⟨w.heap.size, 0, none⟩)))) : Sem Next).run Tryz.prog W = .ok (.value (.agg (recCells R7 vb va vt vd))) W := fun W hW => by
                  rw [Sem.run_bind, run_load69 W _ _ rfl hW]; rfl
                 refine take_to 0 39 (.agg (recCells R7 vb va vt vd)) rfl (by kernel_rfl) (by kernel_rfl) (by kernel_rfl) (fun _ _ _ h => h) rfl (by rfl) (fun W hW => L28 W hW) hH ?_
                 simp only [Act.put, zA, zB, zC]
                 refine take_to 1 40 (.agg (recCells R7 vb va vt vd)) rfl (by kernel_rfl) (by kernel_rfl) (by kernel_rfl) (fun _ _ _ h => h) rfl (by rfl) (fun W hW => L28 W hW) hH ?_
                 simp only [Act.put, zA, zB, zC]
                 have hBd : Below w7.heap.size w7 w7.drew := (Below.refl _ w7).drew
                 refine step_call1_to 2 41 29 rfl (by kernel_rfl) rfl (by rfl) (.tmp 40) _ rfl (.agg (recCells R7 vb va vt vd)) rfl Tryz.enters29 (size_any (HA.out.val.val.below hBd (Nat.le_refl _)) HSZ.out) (fun e w8 h8 => ?_)
                 obtain ⟨rfl, rfl⟩ := h8
                 have hq8 : (w7.drew.alloc (.cells (Value.agg (recCells R7 vb va vt vd)).cells 69)).heap[w.heap.size]? = some (.cells (recCells R7 vb va vt vd) 69 (0, 0)) := by
                  rw [Below.heap_alloc _ _ _ (by have := HA.out.size; show _ < w7.heap.size; omega)]; exact HA.out.cell
                 refine ⟨_, rfl, hq8, ?_⟩
                 have hB8 : Below w7.heap.size w7 (w7.drew.alloc (.cells (Value.agg (recCells R7 vb va vt vd)).cells 69)) := hBd.alloc (Nat.le_refl _) _
                 simp only [Act.put, zA, zB, zC]
                 have HQ8 := hide hq8
                 have HB8 := hide hB8
                 clear hq8 hB8
                 generalize w7.drew.alloc (.cells (Value.agg (recCells R7 vb va vt vd)).cells 69) = w8 at *
                 have hq9 := setRow_heap w8 w.heap.size _ (recCells R7 vb va vt vd) _ _ HQ8.out
                 have hsame : ∀ k, (w8.setRow w.heap.size (recCells R7 vb va vt vd)).heap[k]? = w8.heap[k]? := fun k => by
                  by_cases hk : k = w.heap.size
                  · rw [hk, hq9, HQ8.out]
                  · exact setRow_other _ _ _ _ hk
                 have HB9 : Hid (Below w7.heap.size w7 (w8.setRow w.heap.size (recCells R7 vb va vt vd))) := ⟨HB8.out.os, HB8.out.tape, HB8.out.output, by have := HB8.out.size; simpa [World.setRow] using this, fun k hk => (hsame k).trans (HB8.out.block k hk)⟩
                 refine step_store_to 3 _ rfl (by kernel_rfl) rfl (by rfl) 69 (.tmp 2) (.tmp 39) rfl (.pointer (some ⟨w.heap.size, 0, none⟩)) (.agg (recCells R7 vb va vt vd)) rfl rfl (run_store69 w8 _ _ _ rfl rfl HA.out.one HQ8.out) hq9 ?_
                 refine step_to 4 3 (.int .i64 (R7.size : Nat)) _ rfl (by kernel_rfl) rfl (by rfl) rfl hq9 ?_
                 simp only [Act.put, zA, zB, zC]
                 refine step_to 5 4 (.bool true) _ rfl (by kernel_rfl) rfl (by rfl) rfl hq9 ?_
                 simp only [Act.put, zA, zB, zC]
                 refine wpAnyH_done (by kernel_rfl) ?_ _
                 have HQ9 := hide hq9
                 clear hq9 hsame L28 hH
                 generalize w8.setRow w.heap.size (recCells R7 vb va vt vd) = w9 at *
                 go_wp2
                 rw [Exit.jump_ret]
                 refine bodyPost_ret (v := .tuple #[.agg (recCells R7 vb va vt vd), .int .i64 (R7.size : Nat), .bool true]) (results_rec Tryz.results100 _ _ w.heap.size 69 (recCells R7 vb va vt vd) (0, 0) _ rfl HQ9.out Tryz.underlying69 rfl (Tryz.size69 rfl)) rfl ?_
                 refine ⟨HA.out.below.trans (HB9.out.mono HA.out.below.size), ?_⟩
                 rw [HD.out]
                 exact ⟨_, rfl, HA.out.val.below HB9.out (Nat.le_refl _)⟩
               · have HD : Hid (dec bs = none) := by show _ = _; rw [HDE7.out, if_neg hz]
                 have hl7 : (0 : Int) < (r7.length : Int) := by
                  have := List.length_pos_iff.2 hz
                  omega
                 have hbad := A7.bad
                 clear A7 hu7 hs7 HDE7 hz
                 generalize r7.length = L7 at *
                 obtain ⟨hbe, C', hq, hsz⟩ := hbad
                 have HBE := hide hbe
                 have HQ := hide hq
                 have HSZ := hide hsz
                 clear hbe hq hsz
                 go_wp2
                 go_step3
                 refine ⟨rfl, ?_⟩
                 go_wp2_with (first
                  | (refine wpList_build_is rfl 69 _ rfl zeroCells11 Tryz.built69 ?_)
                  | (refine wpList_store_row rfl 69 _ _ rfl w.heap.size zeroCells11 rfl rfl 69 _ HQ.out (Tryz.size69 rfl) HSZ.out one_zero11 ?_))
                 rw [Exit.noGoto_ret]
                 refine bodyPost_ret (v := .tuple #[.agg zeroCells11, .int .i64 0, .bool false]) (results_rec Tryz.results100 _ _ w.heap.size 69 zeroCells11 (0, 0) _ rfl (setRow_heap _ _ _ _ _ _ HQ.out) Tryz.underlying69 rfl (Tryz.size69 rfl)) rfl ?_
                 refine ⟨below_setRow HBE.out (Nat.le_refl _) _, ?_⟩
                 rw [HD.out]
end Go.Proofs.YteeembildppgmaaGreat.Enc
