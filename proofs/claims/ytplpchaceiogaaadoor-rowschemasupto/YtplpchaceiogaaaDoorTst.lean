/- Where a table that is being read stands. -/
import Derived.Test.YtplpchaceiogaaaDoorRdr
import Derived.Test.YtplpchaceiogaaaDoorSplit
namespace Go.Proofs.YtplpchaceiogaaaDoor
open Go.RowKit
set_option linter.unusedVariables false
set_option linter.unusedSimpArgs false
set_option maxRecDepth 100000


theorem owns_grow {w w' : World} {base e e' sz sz' n m : Nat} {u v : Value} {xs ys : List Value} (hv : w.ownsRow base e' sz' v n xs) (hu : w.ownsRow base e sz u m ys) (hg : w.grownBy w' u.ownBlock) (ht : e' ≠ e) : w'.ownsRow base e' sz' v n xs := by
  refine owns_stay hv fun k hk => ?_
  rcases hv.2 with ⟨rfl, _⟩ | ⟨g, cap, cur, rfl, _, hgb, _⟩
  · simp [Value.ownBlock] at hk
  · have : g = k := by simpa [Value.ownBlock] using hk
    subst this
    rw [hgb]
    exact grown_rec hu hg hgb ht
theorem RowB.grow {w w' : World} {base e sz m : Nat} {u : Value} {ys : List Value} {ao : Option Addr} {c : Nat} {l : List Vl} (h : RowB w ao c l) (hu : w.ownsRow base e sz u m ys) (hg : w.grownBy w' u.ownBlock) (ht : (32 : Nat) ≠ e) : RowB w' ao c l :=
  ⟨h.1, h.2.1, fun hl => by
    obtain ⟨g, o, cur, ea, hgb, hr⟩ := h.2.2 hl
    exact ⟨g, o, cur, ea, grown_rec hu hg hgb ht, hr⟩⟩
theorem Rd.grow {w w' : World} {base e sz m : Nat} {u : Value} {ys : List Value} {fb : Nat} {l : List Vl} (h : Rd w fb l) (hu : w.ownsRow base e sz u m ys) (hg : w.grownBy w' u.ownBlock) (ht : (32 : Nat) ≠ e) (ht2 : (77 : Nat) ≠ e) : Rd w' fb l := by
  obtain ⟨ao, c, h1, h2⟩ := h
  exact ⟨ao, c, grown_rec hu hg h1 ht2, h2.grow hu hg ht⟩
theorem Rd.setOther {w : World} {fb : Nat} {l : List Vl} (h : Rd w fb l) {d : Nat} {C : Array Value} {t : TypeId} {fr : Nat × Nat} (hd : w.heap[d]? = some (.cells C t fr)) (ht : t ≠ 32) (hf : fb ≠ d) (o : Nat) (v : Value) : Rd (w.setCell ⟨d, o, none⟩ v) fb l :=
  h.off (fp := [d]) ((Off.refl [d] w).setCell _ _ (.inl (by simp))) (fun k hk cur fr hh => by
    simp at hk
    subst hk
    rw [hd] at hh
    simp at hh
    exact ht hh.2.1) (by simpa using hf)
def zT : Array Value := #[.string { data := #[] }, .slice none 0 0, .slice none 0 0, .int .i64 0, .slice none 0 0]
/-- The table so far, the reader, and what is told of a schema that is none. -/
structure TsAt (w0 w : World) (rb tb fb : Nat) (nm : List UInt8) (vc : Value) (cs : List Cl) (vi : Value) (is : List Ix) (hd : Int) (vr : Value) (rs : List Int) (l : List Vl) : Prop where
  below : Below w0.heap.size w0 w
  res : w.heap[rb]? = some (.cells #[.string { data := #[] }, .slice none 0 0, .slice none 0 0, .int .i64 0, .slice none 0 0] 29 (0, 0))
  box : w.heap[tb]? = some (.cells #[.string (strOf nm), vc, vi, .int .i64 hd, vr] 29 (0, 0))
  oc : w.ownsRow w0.heap.size 24 4 vc cs.length (clsCells cs)
  oi : w.ownsRow w0.heap.size 85 3 vi is.length (ixsCells is)
  orr : w.ownsRow w0.heap.size 3 1 vr rs.length (intCells rs)
  rd : Rd w fb l
  lr : w0.heap.size ≤ rb
  lt : w0.heap.size ≤ tb
  lf : w0.heap.size ≤ fb
  ne1 : rb ≠ tb
theorem TsAt.fbox {w0 w : World} {rb tb fb : Nat} {nm : List UInt8} {vc : Value} {cs : List Cl} {vi : Value} {is : List Ix} {hd : Int} {vr : Value} {rs : List Int} {l : List Vl} (h : TsAt w0 w rb tb fb nm vc cs vi is hd vr rs l) : ∃ x, w.heap[fb]? = some (.cells #[x] 77 (0, 0)) := let ⟨ao, c, h1, _⟩ := h.rd; ⟨_, h1⟩
theorem TsAt.sep {w0 w : World} {rb tb fb : Nat} {nm : List UInt8} {vc : Value} {cs : List Cl} {vi : Value} {is : List Ix} {hd : Int} {vr : Value} {rs : List Int} {l : List Vl} (h : TsAt w0 w rb tb fb nm vc cs vi is hd vr rs l) : fb ≠ rb ∧ fb ≠ tb := by
  obtain ⟨x, hx⟩ := h.fbox
  constructor
  · intro e; subst e; have := h.res; rw [hx] at this; simp at this
  · intro e; subst e; have := h.box; rw [hx] at this; simp at this
/-- The reader went on; nothing else that was there has changed. -/
theorem TsAt.read {w0 w w' : World} {rb tb fb : Nat} {nm : List UInt8} {vc : Value} {cs : List Cl} {vi : Value} {is : List Ix} {hd : Int} {vr : Value} {rs : List Int} {l l' : List Vl} (h : TsAt w0 w rb tb fb nm vc cs vi is hd vr rs l) (ho : Off [fb] w w') (hr : Rd w' fb l') : TsAt w0 w' rb tb fb nm vc cs vi is hd vr rs l' := by
  obtain ⟨x, hx⟩ := h.fbox
  obtain ⟨s1, s2⟩ := h.sep
  exact ⟨h.below.trans (ho.below h.below.size (by simpa using h.lf)), (ho.block rb (lt_of_heap h.res) (by simpa using s1.symm)).trans h.res, (ho.block tb (lt_of_heap h.box) (by simpa using s2.symm)).trans h.box,
    owns_off h.oc ho (fun k hk => by simp at hk; subst hk; exact owns_ne h.oc hx (by decide)), owns_off h.oi ho (fun k hk => by simp at hk; subst hk; exact owns_ne h.oi hx (by decide)), owns_off h.orr ho (fun k hk => by simp at hk; subst hk; exact owns_ne h.orr hx (by decide)), hr, h.lr, h.lt, h.lf, h.ne1⟩
/-- A field of the table was read. -/
theorem TsAt.readT {w0 w w' : World} {rb tb fb : Nat} {nm nm' : List UInt8} {vc : Value} {cs : List Cl} {vi : Value} {is : List Ix} {hd hd' : Int} {vr : Value} {rs : List Int} {l l' : List Vl} (h : TsAt w0 w rb tb fb nm vc cs vi is hd vr rs l) (ho : Off [fb, tb] w w') (hr : Rd w' fb l') (hb : w'.heap[tb]? = some (.cells #[.string (strOf nm'), vc, vi, .int .i64 hd', vr] 29 (0, 0))) : TsAt w0 w' rb tb fb nm' vc cs vi is hd' vr rs l' := by
  obtain ⟨x, hx⟩ := h.fbox
  obtain ⟨s1, s2⟩ := h.sep
  exact ⟨h.below.trans (ho.below h.below.size (by intro k hk; simp at hk; rcases hk with rfl | rfl; exact h.lf; exact h.lt)), (ho.block rb (lt_of_heap h.res) (by simp; exact ⟨s1.symm, h.ne1⟩)).trans h.res, hb,
    owns_off h.oc ho (fun k hk => by simp at hk; rcases hk with rfl | rfl; exact owns_ne h.oc hx (by decide); exact owns_ne h.oc h.box (by decide)), owns_off h.oi ho (fun k hk => by simp at hk; rcases hk with rfl | rfl; exact owns_ne h.oi hx (by decide); exact owns_ne h.oi h.box (by decide)), owns_off h.orr ho (fun k hk => by simp at hk; rcases hk with rfl | rfl; exact owns_ne h.orr hx (by decide); exact owns_ne h.orr h.box (by decide)), hr, h.lr, h.lt, h.lf, h.ne1⟩
/-- A count was read, no root yet. -/
theorem TsAt.readN {w0 w w' : World} {rb tb fb nb : Nat} {nm : List UInt8} {vc : Value} {cs : List Cl} {vi : Value} {is : List Ix} {hd : Int} {l l' : List Vl} {x : Value} (h : TsAt w0 w rb tb fb nm vc cs vi is hd (.slice none 0 0) [] l) (hn : w.heap[nb]? = some (.cells #[x] 3 (0, 0))) (hnl : w0.heap.size ≤ nb) (ho : Off [fb, nb] w w') (hr : Rd w' fb l') : TsAt w0 w' rb tb fb nm vc cs vi is hd (.slice none 0 0) [] l' := by
  obtain ⟨y, hx⟩ := h.fbox
  obtain ⟨s1, s2⟩ := h.sep
  have n1 : rb ≠ nb := fun e => by subst e; have := h.res; rw [hn] at this; simp at this
  have n2 : tb ≠ nb := fun e => by subst e; have := h.box; rw [hn] at this; simp at this
  exact ⟨h.below.trans (ho.below h.below.size (by intro k hk; simp at hk; rcases hk with rfl | rfl; exact h.lf; exact hnl)), (ho.block rb (lt_of_heap h.res) (by simp; exact ⟨s1.symm, n1⟩)).trans h.res, (ho.block tb (lt_of_heap h.box) (by simp; exact ⟨s2.symm, n2⟩)).trans h.box,
    owns_off h.oc ho (fun k hk => by simp at hk; rcases hk with rfl | rfl; exact owns_ne h.oc hx (by decide); exact owns_ne h.oc hn (by decide)), owns_off h.oi ho (fun k hk => by simp at hk; rcases hk with rfl | rfl; exact owns_ne h.oi hx (by decide); exact owns_ne h.oi hn (by decide)), World.ownsRow_nil _ _ _ _, hr, h.lr, h.lt, h.lf, h.ne1⟩
theorem TsAt.alloc {w0 w : World} {rb tb fb : Nat} {nm : List UInt8} {vc : Value} {cs : List Cl} {vi : Value} {is : List Ix} {hd : Int} {vr : Value} {rs : List Int} {l : List Vl} (h : TsAt w0 w rb tb fb nm vc cs vi is hd vr rs l) (o : Obj) : TsAt w0 (w.alloc o) rb tb fb nm vc cs vi is hd vr rs l :=
  h.read ((Off.refl [fb] w).alloc o) (h.rd.off (fp := []) ((Off.refl [] w).alloc o) (fun k hk => by cases hk) (by simp))
theorem TsAt.growC {w0 w w' : World} {rb tb fb : Nat} {nm : List UInt8} {vc : Value} {cs : List Cl} {vi : Value} {is : List Ix} {hd : Int} {vr : Value} {rs : List Int} {l : List Vl} {v' : Value} (x : Cl) (h : TsAt w0 w rb tb fb nm vc cs vi is hd vr rs l)
    (ho : w'.ownsRow w0.heap.size 24 4 v' (cs.length + 1) (clsCells cs ++ clCells x)) (hg : w.grownBy w' vc.ownBlock) :
    TsAt w0 (w'.setCell ⟨tb, 1, none⟩ v') rb tb fb nm v' (cs ++ [x]) vi is hd vr rs l := by
  obtain ⟨s1, s2⟩ := h.sep
  have hb := grown_rec h.oc hg h.box (by decide)
  have hset : ∀ {e' sz' n : Nat} {v : Value} {xs : List Value}, e' ≠ 29 → w'.ownsRow w0.heap.size e' sz' v n xs → (w'.setCell ⟨tb, 1, none⟩ v').ownsRow w0.heap.size e' sz' v n xs := fun he hv =>
    owns_off (fp := [tb]) hv ((Off.refl [tb] w').setCell _ _ (.inl (by simp))) (fun k hk => by simp at hk; subst hk; exact owns_ne hv hb (Ne.symm he))
  refine ⟨?_, ?_, ?_, ?_, ?_, ?_, ?_, h.lr, h.lt, h.lf, h.ne1⟩
  · exact Below.setCell' (grown_below h.below h.oc hg) _ _ h.lt
  · exact (Below.heap_setCell _ _ _ _ h.ne1).trans (grown_rec h.oc hg h.res (by decide))
  · have := heap_set_same v' hb (o := 1)
    simpa using this
  · exact hset (by decide) (by simpa [clsCells, clCells] using ho)
  · exact hset (by decide) (owns_grow h.oi h.oc hg (by decide))
  · exact hset (by decide) (owns_grow h.orr h.oc hg (by decide))
  · exact (h.rd.grow h.oc hg (by decide) (by decide)).setOther hb (by decide) s2 _ _
theorem TsAt.growI {w0 w w' : World} {rb tb fb : Nat} {nm : List UInt8} {vc : Value} {cs : List Cl} {vi : Value} {is : List Ix} {hd : Int} {vr : Value} {rs : List Int} {l : List Vl} {v' : Value} (x : Ix) (h : TsAt w0 w rb tb fb nm vc cs vi is hd vr rs l)
    (ho : w'.ownsRow w0.heap.size 85 3 v' (is.length + 1) (ixsCells is ++ ixCells x)) (hg : w.grownBy w' vi.ownBlock) :
    TsAt w0 (w'.setCell ⟨tb, 2, none⟩ v') rb tb fb nm vc cs v' (is ++ [x]) hd vr rs l := by
  obtain ⟨s1, s2⟩ := h.sep
  have hb := grown_rec h.oi hg h.box (by decide)
  have hset : ∀ {e' sz' n : Nat} {v : Value} {xs : List Value}, e' ≠ 29 → w'.ownsRow w0.heap.size e' sz' v n xs → (w'.setCell ⟨tb, 2, none⟩ v').ownsRow w0.heap.size e' sz' v n xs := fun he hv =>
    owns_off (fp := [tb]) hv ((Off.refl [tb] w').setCell _ _ (.inl (by simp))) (fun k hk => by simp at hk; subst hk; exact owns_ne hv hb (Ne.symm he))
  refine ⟨?_, ?_, ?_, ?_, ?_, ?_, ?_, h.lr, h.lt, h.lf, h.ne1⟩
  · exact Below.setCell' (grown_below h.below h.oi hg) _ _ h.lt
  · exact (Below.heap_setCell _ _ _ _ h.ne1).trans (grown_rec h.oi hg h.res (by decide))
  · have := heap_set_same v' hb (o := 2)
    simpa using this
  · exact hset (by decide) (owns_grow h.oc h.oi hg (by decide))
  · exact hset (by decide) (by simpa [ixsCells, ixCells] using ho)
  · exact hset (by decide) (owns_grow h.orr h.oi hg (by decide))
  · exact (h.rd.grow h.oi hg (by decide) (by decide)).setOther hb (by decide) s2 _ _
theorem TsAt.growR {w0 w w' : World} {rb tb fb : Nat} {nm : List UInt8} {vc : Value} {cs : List Cl} {vi : Value} {is : List Ix} {hd : Int} {vr : Value} {rs : List Int} {l : List Vl} {v' : Value} (x : Int) (h : TsAt w0 w rb tb fb nm vc cs vi is hd vr rs l)
    (ho : w'.ownsRow w0.heap.size 3 1 v' (rs.length + 1) (intCells rs ++ [icell x])) (hg : w.grownBy w' vr.ownBlock) :
    TsAt w0 (w'.setCell ⟨tb, 4, none⟩ v') rb tb fb nm vc cs vi is hd v' (rs ++ [x]) l := by
  obtain ⟨s1, s2⟩ := h.sep
  have hb := grown_rec h.orr hg h.box (by decide)
  have hset : ∀ {e' sz' n : Nat} {v : Value} {xs : List Value}, e' ≠ 29 → w'.ownsRow w0.heap.size e' sz' v n xs → (w'.setCell ⟨tb, 4, none⟩ v').ownsRow w0.heap.size e' sz' v n xs := fun he hv =>
    owns_off (fp := [tb]) hv ((Off.refl [tb] w').setCell _ _ (.inl (by simp))) (fun k hk => by simp at hk; subst hk; exact owns_ne hv hb (Ne.symm he))
  refine ⟨?_, ?_, ?_, ?_, ?_, ?_, ?_, h.lr, h.lt, h.lf, h.ne1⟩
  · exact Below.setCell' (grown_below h.below h.orr hg) _ _ h.lt
  · exact (Below.heap_setCell _ _ _ _ h.ne1).trans (grown_rec h.orr hg h.res (by decide))
  · have := heap_set_same v' hb (o := 4)
    simpa using this
  · exact hset (by decide) (owns_grow h.oc h.orr hg (by decide))
  · exact hset (by decide) (owns_grow h.oi h.orr hg (by decide))
  · exact hset (by decide) (by simpa [intCells, icell] using ho)
  · exact (h.rd.grow h.orr hg (by decide) (by decide)).setOther hb (by decide) s2 _ _
theorem Tryd.info24 : (Tryd.prog.info? 24).map (fun i => (i.zero, i.size, i.bytes)) = some (some (.agg #[.string { data := #[] }, .int .i64 0, .bool false, .bool false]), 4, 32) := by kernel_rfl
theorem Tryd.info85 : (Tryd.prog.info? 85).map (fun i => (i.zero, i.size, i.bytes)) = some (some (.agg #[.string { data := #[] }, .int .i64 0, .bool false]), 3, 32) := by kernel_rfl
theorem wpList_append_any {ops : Array Oper} {rest : List Oper} {o : Oper} {a : Act} {w : World} {Q : Exit → Act → World → Prop} (t e sz by' : Nat) (z : Value) (ht : Tryd.prog.underlying t = some (.slice e)) (hi : (Tryd.prog.info? e).map (fun i => (i.zero, i.size, i.bytes)) = some (some z, sz, by')) (hz : z.cells.size = sz) (hsz : 0 < sz) (hby : by' ≤ 64)
    (hg : o.guard = none) (s x : Operand) (hop : o.op = Op.call { callee := Callee.builtin Builtin.append, args := #[s, x], argTypes := #[t, t] })
    (base : Nat) (u y : Value) (n : Nat) (xs news : List Value) (hs : a.eval s = u) (hy : a.eval x = y) (h : w.ownsRow base e sz u n xs) (hx : Row w y 1 news) (hl : news.length = sz) (h1 : ∀ u ∈ news, u.oneCell' = true) (hn : n ≤ 1000000000) (hb : base ≤ w.heap.size)
    (hK : ∀ u' w', w'.ownsRow base e sz u' (n + 1) (xs ++ news) → w.grownBy w' u.ownBlock → wpList Tryd.prog ops Q rest (a.put o.dst u') w') :
    wpList Tryd.prog ops Q (o :: rest) a w := by
  refine wpList_append_row hg s x t hop base e z sz by' ht hi hz hsz u n xs y 1 news hs hy h hx (by omega) h1 ?_ (by omega) hb hK
  have : (n + 1) * by' ≤ (n + 1) * 64 := Nat.mul_le_mul_left _ hby
  omega
theorem row_new (w : World) (t : TypeId) (cs : List Value) : Row (w.alloc (.cells cs.toArray t)) (.slice (some ⟨w.heap.size, 0, none⟩) 1 1) 1 cs :=
  ⟨_, 1, rfl, Nat.le_refl _, by simp only [maxLen]; omega, fun _ => ⟨w.heap.size, 0, rfl, fun j u hu => by
    rw [Nat.zero_add, cell_row (heap_alloc_new w _)]
    simpa using hu⟩⟩
theorem store_tab {W : World} {r : Nat} {C : Array Value} (h : W.heap[r]? = some (.cells C 29 (0, 0))) (hC : C.size = 5) (a b c d e : Value) (h1 : ∀ v ∈ [a, b, c, d, e], v.oneCell' = true) :
    (Instr.storeAt 29 (.pointer (some ⟨r, 0, none⟩)) (.agg [a, b, c, d, e].toArray)).run Tryd.prog W = .ok () (W.setRow r #[a, b, c, d, e]) := by
  have := run_storeAt_in (P := Tryd.prog) W r 0 29 29 _ [a, b, c, d, e] h (by simp [hC]) Tryd.size29 h1
  have hd : List.drop 5 C.toList = [] := List.drop_of_length_le (by simp [hC])
  simpa [hd] using this
theorem wpList_store_tab {ops : Array Oper} {rest : List Oper} {op : Oper} {a : Act} {w : World} {Q : Exit → Act → World → Prop} (hgd : op.guard = none) (x y : Operand) (ho : op.op = .store 29 x y) (hd : op.dst = none)
    (r : Nat) (C : Array Value) (b0 b1 b2 b3 b4 : Value) (hx : a.eval x = .pointer (some ⟨r, 0, none⟩)) (hy : a.eval y = .agg #[b0, b1, b2, b3, b4]) (hb : w.heap[r]? = some (.cells C 29 (0, 0))) (hC : C.size = 5) (h1 : ∀ v ∈ [b0, b1, b2, b3, b4], v.oneCell' = true)
    (h : wpList Tryd.prog ops Q rest a (w.setRow r #[b0, b1, b2, b3, b4])) : wpList Tryd.prog ops Q (op :: rest) a w :=
  wpList_store_in hgd 29 x y ho hd r 0 [b0, b1, b2, b3, b4] _ hx hy (store_tab hb hC b0 b1 b2 b3 b4 h1) h
end Go.Proofs.YtplpchaceiogaaaDoor
