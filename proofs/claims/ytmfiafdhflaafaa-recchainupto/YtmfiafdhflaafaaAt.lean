/- Decode's steps, as one law each. -/
import Derived.Test.YtmfiafdhflaafaaRec
import Derived.Laws.CopyOwn
namespace Go.Proofs.Ytmfiafdhflaafaa
open Go.RowKit
set_option linter.unusedVariables false
set_option linter.unusedSimpArgs false

theorem Exit.jump_ret {l : Nat} {J : Act → World → Prop} {Q : Exit → Act → World → Prop} {a : Act} {w : World} : Exit.jump l J Q .ret a w = Q .ret a w := rfl
/-- A scope in which the run jumps, if at all, forward to one label: what stands behind the label is walked from the jump's own frame. -/
theorem wp_scope_forward {P : Program} {Q : Exit → Act → World → Prop} {a : Act} {w : World} {c rest : Code} (l : Nat) (hf : findLabel c l = some rest)
    (first : c.wp P (Exit.jump l (fun a w => rest.wp P (Exit.noGoto Q) a w) Q) a w) : (Code.scope c).wp P Q a w := by
  refine wp_scope_jumps l _ (fun _ _ => 0) hf first (fun a w hJ => ?_)
  intro b k cs
  obtain ⟨e, a', w', hq, harr⟩ := hJ b k cs
  exact ⟨e, a', w', by cases e <;> first | exact hq | exact hq.elim, harr⟩
theorem results_rec {fn : Func} {p u v : Tmp} {ty : TypeId} (h : fn.results = #[.cell p ty, .tmp u, .tmp v]) (tmps : Array Value) (w : World) (g : Nat) (t : TypeId) (cs : Array Value) (fr : Nat × Nat) (d : TypeDesc)
    (hp : tmps.getD p undef = .pointer (some ⟨g, 0, none⟩)) (hg : w.heap[g]? = some (.cells cs t fr))
    (hu : Try.prog.underlying ty = some d) (hd : d.isRow = true) (hi : (Try.prog.info? ty).map (·.size) = some cs.size) :
    (results fn tmps).run Try.prog w = .ok (.tuple #[.agg cs, tmps.getD u undef, tmps.getD v undef]) w := by
  have hp' : tmps[p]?.getD undef = .pointer (some ⟨g, 0, none⟩) := by simpa using hp
  have hl := run_loadVar_mid (P := Try.prog) w g 0 ty cs.toList d (fun j v hv => by rw [Nat.zero_add, cell_row hg]; simpa using hv) hu hd (by rw [hi, Array.length_toList])
  simp [results, h, hp', asAddr, hl]
def DecEnd (w : World) (bs : List UInt8) (e : Ending) (w' : World) : Prop :=
  Below w.heap.size w w' ∧ match dec bs with
  | none => e = .returned (.tuple #[.agg zeroCells11, .int .i64 0, .bool false])
  | some R => ∃ V, e = .returned (.tuple #[V, .int .i64 (R.size : Nat), .bool true]) ∧ RecOwn w.heap.size w' V R
theorem Try.size28 {cs : Array Value} (h : cs.size = 11) : (Try.prog.info? 28).map (·.size) = some cs.size := by rw [h]; kernel_rfl
theorem one_zero11 : zeroCells11.all (·.oneCell') = true := by simp [zeroCells11, Value.oneCell']
theorem Try.built28 : Try.prog.built 28 [] = some zeroCells11 := by kernel_rfl
theorem wpList_build_is {P : Program} {ops : Array Oper} {rest : List Oper} {o : Oper} {a : Act} {w : World} {Q : Exit → Act → World → Prop} (hg : o.guard = none) (t : TypeId) (parts : Array (Nat × Operand)) (ho : o.op = .build t parts)
    (cells : Array Value) (hf : P.built t (parts.map fun (i, x) => (i, a.eval x)).toList = some cells)
    (h : wpList P ops Q rest (a.put o.dst (.agg cells)) w) : wpList P ops Q (o :: rest) a w :=
  wpList_build hg t parts ho (by rw [hf]; rfl) (by rw [hf]; exact h)


/-- Where Decode is: the reader in its block, the record in its own, w the world at the call. -/
structure At (w wk : World) (r : List UInt8) (R : Rc) (vb va vt vd : Value) : Prop where
  below : Below w.heap.size w wk
  rd : ∃ v, wk.heap[w.heap.size + 1]? = some (.cells #[v] 50 (0, 0)) ∧ Sl w v r
  cell : wk.heap[w.heap.size]? = some (.cells (recCells R vb va vt vd) 28 (0, 0))
  ob : wk.ownsRow w.heap.size 5 1 vb R.before.length (secCells R.before)
  oa : wk.ownsRow w.heap.size 5 1 va R.after.length (secCells R.after)
  ot : wk.ownsRow w.heap.size 43 3 vt R.txns.length (txCells R.txns)
  od : wk.ownsRow w.heap.size 45 2 vd R.dirty.length (dtCells R.dirty)
/-- .. where it was wrong. -/
def Bad (w w' : World) : Prop := Below w.heap.size w w' ∧ ∃ C', w'.heap[w.heap.size]? = some (.cells C' 28 (0, 0)) ∧ C'.size = 11
theorem below_off {w a b : World} (h : Below w.heap.size w a) (ho : Off [w.heap.size + 1, w.heap.size] a b) : Below w.heap.size w b :=
  h.trans (ho.below h.size (fun k hk => by simp at hk; omega))
theorem At.keep {w a b : World} {r : List UInt8} {R : Rc} {vb va vt vd : Value} (h : At w a r R vb va vt vd) (ho : Off [w.heap.size + 1, w.heap.size] a b) {e : TypeId} {size n : Nat} {v : Value} {xs : List Value}
    (hv : a.ownsRow w.heap.size e size v n xs) (h1 : (50 : TypeId) ≠ e) (h2 : (28 : TypeId) ≠ e) : b.ownsRow w.heap.size e size v n xs := by
  obtain ⟨u, hu, _⟩ := h.rd
  exact owns_off hv ho (fun k hk => by
    simp at hk
    rcases hk with rfl | rfl
    · exact owns_ne hv hu h1
    · exact owns_ne hv h.cell h2)
theorem At.size {w a : World} {r : List UInt8} {R : Rc} {vb va vt vd : Value} (h : At w a r R vb va vt vd) : w.heap.size + 1 < a.heap.size := by
  obtain ⟨u, hu, _⟩ := h.rd
  exact lt_of_heap hu
theorem At.alloc {w a : World} {r : List UInt8} {R : Rc} {vb va vt vd : Value} (h : At w a r R vb va vt vd) (o : Obj) : At w (a.alloc o) r R vb va vt vd := by
  obtain ⟨u, hu, hs⟩ := h.rd
  have hl := h.size
  have hb : Below a.heap.size a (a.alloc o) := (Below.refl _ _).alloc (Nat.le_refl _) _
  exact ⟨h.below.alloc h.below.size _, ⟨u, by rw [Below.heap_alloc _ _ _ hl]; exact hu, hs⟩, by rw [Below.heap_alloc _ _ _ (by omega)]; exact h.cell, owns_below h.ob hb (Nat.le_refl _), owns_below h.oa hb (Nat.le_refl _), owns_below h.ot hb (Nat.le_refl _), owns_below h.od hb (Nat.le_refl _)⟩
theorem At.bytes0 {w a : World} {r p r' : List UInt8} {R : Rc} {va vt vd : Value} (h : At w a r R (.slice none 0 0) va vt vd) (hn : getPiece r = some (p, r')) (hl : r.length ≤ 1000000000000) :
    Calls Try.prog 22 #[.pointer (some ⟨w.heap.size + 1, 0, none⟩), .pointer (some ⟨w.heap.size, 6, none⟩)] a fun e w' => e = .returned (.bool true) ∧ ∃ vb, At w w' r' { R with before := p } vb va vt vd := by
  obtain ⟨u, hu, hs⟩ := h.rd
  refine (bytes_ok h.below (by omega) (Nat.le_refl _) (by omega) hu hs h.cell rfl hn (by have := getPiece_len hn; omega)).mono ?_
  rintro e w' ⟨rfl, hO, ⟨vp, hp, hq⟩, v', hv', hs'⟩
  exact ⟨rfl, vp, ⟨below_off h.below hO, ⟨v', hv', hs'⟩, hq, owns_mono hp h.below.size, h.keep hO h.oa (by decide) (by decide), h.keep hO h.ot (by decide) (by decide), h.keep hO h.od (by decide) (by decide)⟩⟩
theorem At.bytes1 {w a : World} {r p r' : List UInt8} {R : Rc} {vb vt vd : Value} (h : At w a r R vb (.slice none 0 0) vt vd) (hn : getPiece r = some (p, r')) (hl : r.length ≤ 1000000000000) :
    Calls Try.prog 22 #[.pointer (some ⟨w.heap.size + 1, 0, none⟩), .pointer (some ⟨w.heap.size, 7, none⟩)] a fun e w' => e = .returned (.bool true) ∧ ∃ va, At w w' r' { R with after := p } vb va vt vd := by
  obtain ⟨u, hu, hs⟩ := h.rd
  refine (bytes_ok h.below (by omega) (Nat.le_refl _) (by omega) hu hs h.cell rfl hn (by have := getPiece_len hn; omega)).mono ?_
  rintro e w' ⟨rfl, hO, ⟨vp, hp, hq⟩, v', hv', hs'⟩
  exact ⟨rfl, vp, ⟨below_off h.below hO, ⟨v', hv', hs'⟩, hq, h.keep hO h.ob (by decide) (by decide), owns_mono hp h.below.size, h.keep hO h.ot (by decide) (by decide), h.keep hO h.od (by decide) (by decide)⟩⟩
theorem At.noBytes {w a : World} {r : List UInt8} {R : Rc} {vb va vt vd : Value} (h : At w a r R vb va vt vd) (o : Nat) (hC : (recCells R vb va vt vd)[o]? = some (.slice none 0 0)) (hn : getPiece r = none) :
    Calls Try.prog 22 #[.pointer (some ⟨w.heap.size + 1, 0, none⟩), .pointer (some ⟨w.heap.size, o, none⟩)] a fun e w' => e = .returned (.bool false) ∧ Bad w w' := by
  obtain ⟨u, hu, hs⟩ := h.rd
  refine (bytes_no h.below (by omega) (Nat.le_refl _) (by omega) hu hs h.cell hC hn).mono ?_
  rintro e w' ⟨rfl, hO, C', hq, hsz⟩
  exact ⟨rfl, below_off h.below hO, C', hq, hsz⟩
theorem At.txns {w a : World} {r r' : List UInt8} {l : List (Int × Int × Int)} {R : Rc} {vb va vd : Value} (h : At w a r R vb va (.slice none 0 0) vd) (hn : getList getTx r = some (l, r')) (hl : r.length ≤ 1000000000000) :
    Calls Try.prog 23 #[.pointer (some ⟨w.heap.size + 1, 0, none⟩), .pointer (some ⟨w.heap.size, 8, none⟩)] a fun e w' => e = .returned (.bool true) ∧ ∃ vt, At w w' r' { R with txns := l } vb va vt vd := by
  obtain ⟨u, hu, hs⟩ := h.rd
  refine (txns_any h.below (by omega) (Nat.le_refl _) (by omega) hu hs h.cell (o := 8) rfl (by decide) hl).mono ?_
  rintro e w' ⟨hO, hE⟩
  rw [hn] at hE
  obtain ⟨rfl, ⟨vp, hp, hq⟩, v', hv', hs'⟩ := hE
  exact ⟨rfl, vp, ⟨below_off h.below hO, ⟨v', hv', hs'⟩, hq, h.keep hO h.ob (by decide) (by decide), h.keep hO h.oa (by decide) (by decide), owns_mono hp h.below.size, h.keep hO h.od (by decide) (by decide)⟩⟩
theorem At.noTxns {w a : World} {r : List UInt8} {R : Rc} {vb va vd : Value} (h : At w a r R vb va (.slice none 0 0) vd) (hn : getList getTx r = none) (hl : r.length ≤ 1000000000000) :
    Calls Try.prog 23 #[.pointer (some ⟨w.heap.size + 1, 0, none⟩), .pointer (some ⟨w.heap.size, 8, none⟩)] a fun e w' => e = .returned (.bool false) ∧ Bad w w' := by
  obtain ⟨u, hu, hs⟩ := h.rd
  refine (txns_any h.below (by omega) (Nat.le_refl _) (by omega) hu hs h.cell (o := 8) rfl (by decide) hl).mono ?_
  rintro e w' ⟨hO, hE⟩
  rw [hn] at hE
  obtain ⟨rfl, C', hq, hsz⟩ := hE
  exact ⟨rfl, below_off h.below hO, C', hq, hsz⟩
theorem At.dirty {w a : World} {r r' : List UInt8} {l : List (Int × Int)} {R : Rc} {vb va vt : Value} (h : At w a r R vb va vt (.slice none 0 0)) (hn : getList getDt r = some (l, r')) (hl : r.length ≤ 1000000000000) :
    Calls Try.prog 24 #[.pointer (some ⟨w.heap.size + 1, 0, none⟩), .pointer (some ⟨w.heap.size, 9, none⟩)] a fun e w' => e = .returned (.bool true) ∧ ∃ vd, At w w' r' { R with dirty := l } vb va vt vd := by
  obtain ⟨u, hu, hs⟩ := h.rd
  refine (dirty_any h.below (by omega) (Nat.le_refl _) (by omega) hu hs h.cell (o := 9) rfl (by decide) hl).mono ?_
  rintro e w' ⟨hO, hE⟩
  rw [hn] at hE
  obtain ⟨rfl, ⟨vp, hp, hq⟩, v', hv', hs'⟩ := hE
  exact ⟨rfl, vp, ⟨below_off h.below hO, ⟨v', hv', hs'⟩, hq, h.keep hO h.ob (by decide) (by decide), h.keep hO h.oa (by decide) (by decide), h.keep hO h.ot (by decide) (by decide), owns_mono hp h.below.size⟩⟩
theorem At.noDirty {w a : World} {r : List UInt8} {R : Rc} {vb va vt : Value} (h : At w a r R vb va vt (.slice none 0 0)) (hn : getList getDt r = none) (hl : r.length ≤ 1000000000000) :
    Calls Try.prog 24 #[.pointer (some ⟨w.heap.size + 1, 0, none⟩), .pointer (some ⟨w.heap.size, 9, none⟩)] a fun e w' => e = .returned (.bool false) ∧ Bad w w' := by
  obtain ⟨u, hu, hs⟩ := h.rd
  refine (dirty_any h.below (by omega) (Nat.le_refl _) (by omega) hu hs h.cell (o := 9) rfl (by decide) hl).mono ?_
  rintro e w' ⟨hO, hE⟩
  rw [hn] at hE
  obtain ⟨rfl, C', hq, hsz⟩ := hE
  exact ⟨rfl, below_off h.below hO, C', hq, hsz⟩
/-- Numbers, by pointers that lie in a new block. -/
theorem At.into {w a : World} {r : List UInt8} {R : Rc} {vb va vt vd : Value} (h : At w a r R vb va vt vd) (o k : Nat) (hk : o + k ≤ 11) :
    Into (a.alloc (.cells (ptrs w.heap.size o k) 52)) (w.heap.size + 1) w.heap.size a.heap.size o k (recCells R vb va vt vd) 28 := by
  have hl := h.size
  exact ⟨by rw [Below.heap_alloc _ _ _ (by omega)]; exact h.cell, ⟨52, heap_alloc_new _ _⟩, by omega, by omega, by omega, hk, by omega⟩
theorem At.head {w a : World} {r r' : List UInt8} {l : List Int} (h : At w a r Rc.zero (.slice none 0 0) (.slice none 0 0) (.slice none 0 0) (.slice none 0 0)) (hn : getNums 6 r = some (l, r')) :
    Calls Try.prog 21 #[.pointer (some ⟨w.heap.size + 1, 0, none⟩), .slice (some ⟨a.heap.size, 0, none⟩) 6 6] (a.alloc (.cells (ptrs w.heap.size 0 6) 52)) fun e w' => e = .returned (.bool true) ∧ At w w' r' (Rc.ofHead l) (.slice none 0 0) (.slice none 0 0) (.slice none 0 0) (.slice none 0 0) := by
  obtain ⟨u, hu, hs⟩ := (h.alloc (.cells (ptrs w.heap.size 0 6) 52)).rd
  have h' := h.alloc (.cells (ptrs w.heap.size 0 6) 52)
  refine (numbers_ok h'.below (by omega) (Nat.le_refl _) hu hs (h.into 0 6 (by omega)) hn).mono ?_
  rintro e w' ⟨rfl, hO, hq, v', hv', hs'⟩
  refine ⟨rfl, ?_⟩
  have hl := (getNums_len 6 hn).2
  match l, hl with
  | [x0, x1, x2, x3, x4, x5], _ =>
    exact ⟨below_off h'.below hO, ⟨v', hv', hs'⟩, hq, World.ownsRow_nil _ _ _ _, World.ownsRow_nil _ _ _ _, World.ownsRow_nil _ _ _ _, World.ownsRow_nil _ _ _ _⟩
theorem At.noNums {w a : World} {r : List UInt8} {R : Rc} {vb va vt vd : Value} (h : At w a r R vb va vt vd) (o k : Nat) (hk : o + k ≤ 11) (hn : getNums k r = none) :
    Calls Try.prog 21 #[.pointer (some ⟨w.heap.size + 1, 0, none⟩), .slice (some ⟨a.heap.size, 0, none⟩) k k] (a.alloc (.cells (ptrs w.heap.size o k) 52)) fun e w' => e = .returned (.bool false) ∧ Bad w w' := by
  have h' := h.alloc (.cells (ptrs w.heap.size o k) 52)
  obtain ⟨u, hu, hs⟩ := h'.rd
  refine (numbers_no h'.below (by omega) (Nat.le_refl _) hu hs (h.into o k hk) hn).mono ?_
  rintro e w' ⟨rfl, hO, C', hq, hsz⟩
  exact ⟨rfl, below_off h'.below hO, C', hq, hsz⟩
theorem At.count {w a : World} {r r' : List UInt8} {n : Int} {R : Rc} {vb va vt vd : Value} (h : At w a r R vb va vt vd) (hn : getNum r = some (n, r')) :
    Calls Try.prog 21 #[.pointer (some ⟨w.heap.size + 1, 0, none⟩), .slice (some ⟨a.heap.size, 0, none⟩) 1 1] (a.alloc (.cells (ptrs w.heap.size 10 1) 52)) fun e w' => e = .returned (.bool true) ∧ At w w' r' { R with count := n } vb va vt vd := by
  have h' := h.alloc (.cells (ptrs w.heap.size 10 1) 52)
  obtain ⟨u, hu, hs⟩ := h'.rd
  have hn1 : getNums 1 r = some ([n], r') := by simp [getNums, hn]
  refine (numbers_ok h'.below (by omega) (Nat.le_refl _) hu hs (h.into 10 1 (by omega)) hn1).mono ?_
  rintro e w' ⟨rfl, hO, hq, v', hv', hs'⟩
  exact ⟨rfl, below_off h'.below hO, ⟨v', hv', hs'⟩, hq, h'.keep hO h'.ob (by decide) (by decide), h'.keep hO h'.oa (by decide) (by decide), h'.keep hO h'.ot (by decide) (by decide), h'.keep hO h'.od (by decide) (by decide)⟩
theorem none_count {r : List UInt8} (h : getNum r = none) : getNums 1 r = none := by simp [getNums, h]
end Go.Proofs.Ytmfiafdhflaafaa
