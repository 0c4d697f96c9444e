/- Where the document's Decode stands. -/
import Derived.Test.YtjcobejaldfibaaRrd
import Derived.Test.YtjcobejaldfibaaDec
namespace Go.Proofs.Ytjcobejaldfibaa
open Go.RowKit
set_option linter.unusedVariables false
set_option linter.unusedSimpArgs false

theorem Try.info9p : ∃ i, Try.prog.info? 9 = some i ∧ i.zero = some (.string { data := #[] }) ∧ i.size = 1 ∧ i.bytes = 16 := by
  obtain ⟨i, hi, hz⟩ := Option.map_eq_some_iff.1 Try.info9
  simp only [Prod.mk.injEq] at hz
  exact ⟨i, hi, hz.1, hz.2.1, hz.2.2⟩
/-- Where an append's row lies: where it lay, or behind all that was there. -/
theorem append_whereS {w w' : World} {base n m : Nat} {ty : TypeId} {v v' x : Value} {xs news : List Value} (hown : w.ownsRow base 9 1 v n xs) (hx : Row w x m news) (hl : news.length = m) (h1 : ∀ u ∈ news, u.oneCell' = true) (h63 : (n + m) * 16 ≤ 140737488355328) (hm : 0 < m)
    (hr : (Builtin.append_ #[27, 27] ty #[v, x]).run Try.prog w = .ok v' w') : ∀ q, v'.ownBlock = some q → v.ownBlock = some q ∨ w.heap.size ≤ q := by
  obtain ⟨i0, hi0, hz0, hzs, hzb⟩ := Try.info9p
  obtain ⟨ao, c, rfl, c1, c2, hrow⟩ := hx
  obtain ⟨g', o', ea, hrng⟩ := hrow (fun e => by rw [e] at hl; simp at hl; omega)
  subst ea
  have hsrc : Src Try.prog i0.size 27 (.slice (some ⟨g', o', none⟩) m c) m news w := by
    rw [hzs]
    exact Src.ofSlice w Try.underlying27 ⟨g', o', none⟩ m c news (by omega) (fun j u hj => by rw [Addr.add_lit]; exact hrng j u hj) h1
  have grow : ∀ (b : Option Addr) (cp : Nat) (olds : List Value), cp < n + m → (Builtin.firstCells i0.size n (.slice b n cp)).run Try.prog w.drew = .ok olds.toArray w.drew → v = .slice b n cp → ∀ q, v'.ownBlock = some q → w.heap.size ≤ q := fun b cp olds hcp hold e q hq => by
    have := run_append_grow_src w 27 27 ty 9 i0 _ Try.underlying27 hi0 hz0 b n cp olds hold _ m news hsrc hcp (by omega) (by rw [hzb]; exact growslice_fits hcp h63)
    rw [e, this] at hr
    injection hr with e1 e2
    rw [← e1] at hq
    have : w.heap.size = q := by simpa [Value.ownBlock] using hq
    omega
  rcases hown.2 with ⟨rfl, rfl⟩ | ⟨g, cap, cur, rfl, hb, hg, h1', h2', h3', h4'⟩
  · intro q hq
    exact .inr (grow none 0 [] (by omega) (by rw [hzs]; exact run_firstCells_none w.drew 1 0 0 0) rfl q hq)
  · rcases Nat.lt_or_ge cap (n + m) with hlt | hge
    · intro q hq
      refine .inr (grow (some ⟨g, 0, none⟩) cap xs hlt ?_ rfl q hq)
      rw [hzs]
      refine run_firstCells_some w.drew 1 n ⟨g, 0, none⟩ n cap xs hown.1 (fun j u hj => ?_)
      rw [Addr.add_lit, Nat.zero_add]
      have hj' := (List.getElem?_eq_some_iff.1 hj).1
      rw [hown.1, Nat.mul_one] at hj'
      rw [← h4', Nat.mul_one, List.getElem?_take_of_lt hj'] at hj
      show w.cell? _ = _
      rw [cell_row hg]
      simpa using hj
    · have := run_append_room_src (P := Try.prog) w 27 27 ty 9 i0 Try.underlying27 hi0 g 0 n cap _ m news hsrc hge (fun j hj => by rw [cell_row hg]; simp [hzs]; omega) (fun j hj => frozen_row hg)
      intro q hq
      rw [this] at hr
      injection hr with e1 e2
      rw [← e1] at hq
      exact .inl hq
theorem step_append_atS {ops : Array Oper} {Q : Exit → Act → World → Prop} {md : Region.Mode} {S : World → Prop} {o : Oper} {fuel : Nat} {listed : Array Bool} {a : Act} {w : World} (j dst : Nat) (hj : ops[j]? = some o)
    (hr : Region.ready md ops listed = [j]) (hdst : o.dst = some dst) (hgd : o.guard = none) (s x : Operand) (hop : o.op = Op.call { callee := Callee.builtin Builtin.append, args := #[s, x], argTypes := #[27, 27] })
    (base : Nat) (v : Value) (n : Nat) (xs : List Value) (y : Value) (m : Nat) (news : List Value) (hs : a.eval s = v) (hy : a.eval x = y) (hown : w.ownsRow base 9 1 v n xs)
    (hx : Row w y m news) (hl : news.length = m) (h1 : ∀ u ∈ news, u.oneCell' = true) (hm : 0 < m)
    (hbytes : (n + m) * 16 ≤ 140737488355328) (hbase : base ≤ w.heap.size)
    (hK : ∀ v' w', w'.ownsRow base 9 1 v' (n + m) (xs ++ news) → w.grownBy w' v.ownBlock → (∀ q, v'.ownBlock = some q → v.ownBlock = some q ∨ w.heap.size ≤ q) → S w' ∧ wpAnyH Try.prog md ops Q S fuel (listed.setIfInBounds j true) (a.put (some dst) v') w') :
    wpAnyH Try.prog md ops Q S (fuel + 1) listed a w := by
  refine step_by j hj hr (fun K hK' => ?_)
  have hw : Region.wanted o (yielded ops a.tmps) = true := by simp [Region.wanted, hgd]
  rw [if_pos hw]
  obtain ⟨v', w', hrun, r1, r2⟩ := run_append_row (P := Try.prog) w base 27 o.type 9 (.string { data := #[] }) 1 16 Try.underlying27 Try.info9 rfl (by omega) v n xs hown y m news hx (by omega) h1 hbytes (by omega) hbase
  have r3 := append_whereS hown hx hl h1 hbytes hm hrun
  have hE : (execOp a.eval o).run Try.prog w = .ok (.value v') w' := by
    simp [execOp, hop, resolve, invoke, builtin, hs, hy, hrun, Result.andThen]
  unfold Oper.wp
  rw [hE, Oper.upon_value, hdst]
  have := hK v' w' r1 r2 r3
  exact hK' _ _ this.1 this.2
structure RSr (w W : World) (lf : Bool) (nx : Int) (k v i : Value) (s : PS) (bad : Bool) (ra : Option Addr) (rc : Nat) : Prop where
  below : Below w.heap.size w W
  y : Box 43 W w.heap.size (.bool false) (.slice none 0 0) (.slice none 0 0) (.slice none 0 0) (.int .i64 0)
  r : W.heap[w.heap.size + 1]? = some (.cells #[.slice ra s.rest.length rc, .bool bad] 78 (0, 0))
  m : Box 43 W (w.heap.size + 1 + 1) (.bool lf) k v i (.int .i64 nx)
  sl : Sl w (.slice ra s.rest.length rc) s.rest
  ok : W.ownsRow (w.heap.size + 1 + 1 + 1) 9 1 k s.keys.length (strCells s.keys)
  ov : W.ownsRow (w.heap.size + 1 + 1 + 1) 9 1 v s.vals.length (strCells s.vals)
  oi : W.ownsRow (w.heap.size + 1 + 1 + 1) 3 1 i s.kids.length (intCells s.kids)
  ap : ∀ q, k.ownBlock = some q → v.ownBlock ≠ some q
  sz : w.heap.size + 1 + 1 + 1 ≤ W.heap.size
theorem RSr.rd {w W : World} {lf : Bool} {nx : Int} {k v i : Value} {s : PS} {bad : Bool} {ra : Option Addr} {rc : Nat} (h : RSr w W lf nx k v i s bad ra rc) : RfB W (w.heap.size + 1) ra rc s.rest bad := ⟨h.r, h.sl.belowW h.below⟩
theorem owns_above {w : World} {base : Nat} {e : TypeId} {size : Nat} {u : Value} {n : Nat} {xs : List Value} (h : w.ownsRow base e size u n xs) (g o : Nat) (x : Value) (hg : g < base) : (w.setCell ⟨g, o, none⟩ x).ownsRow base e size u n xs := owns_set h g o x hg
theorem RSr.next {w W : World} {lf : Bool} {nx : Int} {k v i : Value} {s : PS} {bad : Bool} {ra : Option Addr} {rc : Nat} (h : RSr w W lf nx k v i s bad ra rc) {W' : World} (hb : Below W.heap.size W W') : RSr w W' lf nx k v i s bad ra rc :=
  ⟨h.below.trans (hb.mono h.below.size), h.y.belowW hb, (hb.block _ (lt_of_heap h.r)).trans h.r, h.m.belowW hb, h.sl, owns_below h.ok hb (Nat.le_refl _), owns_below h.ov hb (Nat.le_refl _), owns_below h.oi hb (Nat.le_refl _), h.ap, Nat.le_trans h.sz hb.size⟩
theorem RSr.setN {w W : World} {lf : Bool} {nx : Int} {k v i : Value} {s : PS} {bad : Bool} {ra : Option Addr} {rc : Nat} (h : RSr w W lf nx k v i s bad ra rc) (n : Int) : RSr w (W.setCell ⟨w.heap.size + 1 + 1, 4, none⟩ (.int .i64 n)) lf n k v i s bad ra rc :=
  ⟨below_set h.below h.below.size _ _ _ (by omega), h.y.apart _ _ _ (by omega), (set_stay _ _ _ (by omega)).trans h.r, h.m.set4 _, h.sl, owns_set h.ok _ _ _ (by omega), owns_set h.ov _ _ _ (by omega), owns_set h.oi _ _ _ (by omega), h.ap, by rw [size_set]; exact h.sz⟩
theorem RSr.setR {w W : World} {lf : Bool} {nx : Int} {k v i : Value} {s : PS} {bad : Bool} {ra : Option Addr} {rc : Nat} (h : RSr w W lf nx k v i s bad ra rc) (c : Nat) (hc : c ≤ s.rest.length) : RSr w (W.setCell ⟨w.heap.size + 1, 0, none⟩ (.slice (cutAt ra rc c) (s.rest.length - c) (rc - c))) lf nx k v i ⟨s.keys, s.vals, s.kids, s.rest.drop c⟩ bad (cutAt ra rc c) (rc - c) :=
  ⟨below_set h.below h.below.size _ _ _ (by omega), h.y.apart _ _ _ (by omega), by rw [heap_set_same (o := 0) _ h.r]; simp [List.length_drop], h.m.apart _ _ _ (by omega), by show Sl w (.slice (cutAt ra rc c) (s.rest.drop c).length (rc - c)) (s.rest.drop c); rw [List.length_drop]; exact h.sl.from c hc, owns_set h.ok _ _ _ (by omega), owns_set h.ov _ _ _ (by omega), owns_set h.oi _ _ _ (by omega), h.ap, by rw [size_set]; exact h.sz⟩
theorem RSr.setB {w W : World} {lf : Bool} {nx : Int} {k v i : Value} {s : PS} {bad : Bool} {ra : Option Addr} {rc : Nat} (h : RSr w W lf nx k v i s bad ra rc) : RSr w (W.setCell ⟨w.heap.size + 1, 1, none⟩ (.bool true)) lf nx k v i s true ra rc :=
  ⟨below_set h.below h.below.size _ _ _ (by omega), h.y.apart _ _ _ (by omega), by rw [heap_set_same (o := 1) _ h.r]; simp, h.m.apart _ _ _ (by omega), h.sl, owns_set h.ok _ _ _ (by omega), owns_set h.ov _ _ _ (by omega), owns_set h.oi _ _ _ (by omega), h.ap, by rw [size_set]; exact h.sz⟩
/-- What number makes of the reader. -/
def NOut (c : Nat) (R : List UInt8) (bad : Bool) (n : Nat) (R' : List UInt8) (bad' : Bool) : Prop :=
  (bad = false ∧ bad' = false ∧ rd c R = some (n, R')) ∨ (bad' = true ∧ n = 0 ∧ R' = R ∧ (bad = true ∨ rd c R = none))
theorem rd_some {c : Nat} {R : List UInt8} (h : c ≤ R.length) : rd c R = some (beval (R.take c), R.drop c) := by unfold rd; rw [if_pos h]
theorem rd_none {c : Nat} {R : List UInt8} (h : R.length < c) : rd c R = none := by unfold rd; rw [if_neg (by omega)]
theorem RSr.num {w W : World} {lf : Bool} {nx : Int} {k v i : Value} {s : PS} {bad : Bool} {ra : Option Addr} {rc : Nat} (h : RSr w W lf nx k v i s bad ra rc) {c : Nat} {e : Ending} {W' : World} (hE : RNumEnd W (w.heap.size + 1) ra rc s.rest bad c e W') :
    ∃ (n : Nat) (R' : List UInt8) (bad' : Bool) (ra' : Option Addr) (rc' : Nat), e = .returned (.int .i64 (n : Int)) ∧ RSr w W' lf nx k v i ⟨s.keys, s.vals, s.kids, R'⟩ bad' ra' rc' ∧ NOut c s.rest bad n R' bad' := by
  rcases hE with ⟨hb, hl, rfl, rfl⟩ | ⟨hf, rfl, rfl⟩
  · subst hb
    exact ⟨_, _, _, _, _, rfl, h.setR c hl, .inl ⟨rfl, rfl, rd_some hl⟩⟩
  · refine ⟨0, s.rest, true, _, _, rfl, h.setB, .inr ⟨rfl, rfl, rfl, ?_⟩⟩
    rcases hf with hf | hf
    · exact .inl hf
    · exact .inr (rd_none hf)
def TOut (R : List UInt8) (bad : Bool) (n : Nat) (T R' : List UInt8) (bad' : Bool) : Prop :=
  (bad = false ∧ bad' = false ∧ n ≤ R.length ∧ T = R.take n ∧ R' = R.drop n) ∨ (bad' = true ∧ T = [] ∧ R' = R ∧ (bad = true ∨ R.length < n))
theorem RSr.tak {w W : World} {lf : Bool} {nx : Int} {k v i : Value} {s : PS} {bad : Bool} {ra : Option Addr} {rc : Nat} (h : RSr w W lf nx k v i s bad ra rc) {n : Nat} {e : Ending} {W' : World} (hE : TakeEnd W (w.heap.size + 1) ra rc s.rest bad n e W') :
    ∃ (a : Option Addr) (c : Nat) (T R' : List UInt8) (bad' : Bool) (ra' : Option Addr) (rc' : Nat), e = .returned (.slice a T.length c) ∧ Sl w (.slice a T.length c) T ∧ RSr w W' lf nx k v i ⟨s.keys, s.vals, s.kids, R'⟩ bad' ra' rc' ∧ TOut s.rest bad n T R' bad' := by
  rcases hE with ⟨hb, hl, rfl, rfl⟩ | ⟨hf, rfl, rfl⟩
  · subst hb
    have hlen : (s.rest.take n).length = n := by rw [List.length_take]; omega
    exact ⟨ra, rc, s.rest.take n, _, _, _, _, by rw [hlen], by rw [hlen]; exact h.sl.to n hl, h.setR n hl, .inl ⟨rfl, rfl, hl, rfl, rfl⟩⟩
  · exact ⟨none, 0, [], s.rest, true, _, _, rfl, Sl.nil w, h.setB, .inr ⟨rfl, rfl, rfl, hf⟩⟩
/-- What the reading of a text makes of the reader. -/
def XOut (R : List UInt8) (bad : Bool) (T R' : List UInt8) (bad' : Bool) : Prop :=
  (bad = false ∧ bad' = false ∧ rdT R = some (T, R')) ∨ (bad' = true ∧ T = [] ∧ R'.length ≤ R.length ∧ (bad = true ∨ rdT R = none))
theorem xout {R R1 R2 T : List UInt8} {b0 b1 b2 : Bool} {n : Nat} (h1 : NOut 2 R b0 n R1 b1) (h2 : TOut R1 b1 n T R2 b2) : XOut R b0 T R2 b2 := by
  rcases h1 with ⟨e1, e2, hr⟩ | ⟨e1, e2, e3, hr⟩
  · have hl := rd_len hr
    rcases h2 with ⟨_, e4, hl2, e5, e6⟩ | ⟨e4, e5, e6, hf⟩
    · refine .inl ⟨e1, e4, ?_⟩
      unfold rdT
      rw [hr]
      simp only
      rw [if_pos hl2, e5, e6]
    · refine .inr ⟨e4, e5, by rw [e6]; exact hl, .inr ?_⟩
      rcases hf with hf | hf
      · rw [e2] at hf; cases hf
      · unfold rdT
        rw [hr]
        simp only
        rw [if_neg (by omega)]
  · rcases h2 with ⟨e4, _⟩ | ⟨e4, e5, e6, _⟩
    · rw [e1] at e4; cases e4
    · refine .inr ⟨e4, e5, by rw [e6, e3]; exact Nat.le_refl _, ?_⟩
      rcases hr with hr | hr
      · exact .inl hr
      · refine .inr ?_
        unfold rdT
        rw [hr]
/-- A string comes behind the keys. -/
theorem RSr.appK {w W W' : World} {lf : Bool} {nx : Int} {k v i u : Value} {s : PS} {bad : Bool} {ra : Option Addr} {rc : Nat} {T : List UInt8} (h : RSr w W lf nx k v i s bad ra rc) (ho : W'.ownsRow (w.heap.size + 1 + 1 + 1) 9 1 u (s.keys.length + 1) (strCells s.keys ++ [.string (strOf T)])) (hg : W.grownBy W' k.ownBlock) (hw : ∀ q, u.ownBlock = some q → k.ownBlock = some q ∨ W.heap.size ≤ q) :
    RSr w (W'.setCell ⟨w.heap.size + 1 + 1, 1, none⟩ u) lf nx u v i ⟨s.keys ++ [T], s.vals, s.kids, s.rest⟩ bad ra rc := by
  have hO : Oth 9 W W' := (Oth.refl _ _).grown h.ok hg
  have hB : Below w.heap.size w W' := below_off h.below ((Off.refl k.ownBlock.toList W).grown hg (fun q hq => .inl (by rw [hq]; simp))) (fun q hq => by have := (h.ok.lt q (by simpa using hq)).1; omega)
  have hm := h.m.oth hO (by decide)
  have hv : W'.ownsRow (w.heap.size + 1 + 1 + 1) 9 1 v s.vals.length (strCells s.vals) := owns_stay h.ov (fun q hq => hg.block q (h.ov.lt q hq).2 (fun e => h.ap q e.symm hq))
  refine ⟨below_set hB hB.size _ _ _ (by omega), (h.y.oth hO (by decide)).apart _ _ _ (by omega), (set_stay _ _ _ (by omega)).trans (hO _ _ _ _ (by decide) h.r), hm.set1 _, h.sl, ?_, owns_set hv _ _ _ (by omega), owns_set (owns_oth h.oi hO (by decide)) _ _ _ (by omega), fun q h1 h2 => ?_, by rw [size_set]; exact Nat.le_trans h.sz hg.size⟩
  · show (W'.setCell _ u).ownsRow _ 9 1 u (s.keys ++ [T]).length (strCells (s.keys ++ [T]))
    rw [List.length_append, strCells_append]
    exact owns_set ho _ _ _ (by omega)
  · rcases hw q h1 with h3 | h3
    · exact h.ap q h3 h2
    · have := (h.ov.lt q h2).2
      omega
theorem RSr.appV {w W W' : World} {lf : Bool} {nx : Int} {k v i u : Value} {s : PS} {bad : Bool} {ra : Option Addr} {rc : Nat} {T : List UInt8} (h : RSr w W lf nx k v i s bad ra rc) (ho : W'.ownsRow (w.heap.size + 1 + 1 + 1) 9 1 u (s.vals.length + 1) (strCells s.vals ++ [.string (strOf T)])) (hg : W.grownBy W' v.ownBlock) (hw : ∀ q, u.ownBlock = some q → v.ownBlock = some q ∨ W.heap.size ≤ q) :
    RSr w (W'.setCell ⟨w.heap.size + 1 + 1, 2, none⟩ u) lf nx k u i ⟨s.keys, s.vals ++ [T], s.kids, s.rest⟩ bad ra rc := by
  have hO : Oth 9 W W' := (Oth.refl _ _).grown h.ov hg
  have hB : Below w.heap.size w W' := below_off h.below ((Off.refl v.ownBlock.toList W).grown hg (fun q hq => .inl (by rw [hq]; simp))) (fun q hq => by have := (h.ov.lt q (by simpa using hq)).1; omega)
  have hm := h.m.oth hO (by decide)
  have hv : W'.ownsRow (w.heap.size + 1 + 1 + 1) 9 1 k s.keys.length (strCells s.keys) := owns_stay h.ok (fun q hq => hg.block q (h.ok.lt q hq).2 (fun e => h.ap q hq e.symm))
  refine ⟨below_set hB hB.size _ _ _ (by omega), (h.y.oth hO (by decide)).apart _ _ _ (by omega), (set_stay _ _ _ (by omega)).trans (hO _ _ _ _ (by decide) h.r), hm.set2 _, h.sl, owns_set hv _ _ _ (by omega), ?_, owns_set (owns_oth h.oi hO (by decide)) _ _ _ (by omega), fun q h1 h2 => ?_, by rw [size_set]; exact Nat.le_trans h.sz hg.size⟩
  · show (W'.setCell _ u).ownsRow _ 9 1 u (s.vals ++ [T]).length (strCells (s.vals ++ [T]))
    rw [List.length_append, strCells_append]
    exact owns_set ho _ _ _ (by omega)
  · rcases hw q h2 with h3 | h3
    · exact h.ap q h1 h3
    · have := (h.ok.lt q h1).2
      omega
theorem RSr.appI {w W W' : World} {lf : Bool} {nx : Int} {k v i u : Value} {s : PS} {bad : Bool} {ra : Option Addr} {rc : Nat} {x : Int} (h : RSr w W lf nx k v i s bad ra rc) (ho : W'.ownsRow (w.heap.size + 1 + 1 + 1) 3 1 u (s.kids.length + 1) (intCells s.kids ++ intCells [x])) (hg : W.grownBy W' i.ownBlock) :
    RSr w (W'.setCell ⟨w.heap.size + 1 + 1, 3, none⟩ u) lf nx k v u ⟨s.keys, s.vals, s.kids ++ [x], s.rest⟩ bad ra rc := by
  have hO : Oth 3 W W' := (Oth.refl _ _).grown h.oi hg
  have hB : Below w.heap.size w W' := below_off h.below ((Off.refl i.ownBlock.toList W).grown hg (fun q hq => .inl (by rw [hq]; simp))) (fun q hq => by have := (h.oi.lt q (by simpa using hq)).1; omega)
  have hm := h.m.oth hO (by decide)
  refine ⟨below_set hB hB.size _ _ _ (by omega), (h.y.oth hO (by decide)).apart _ _ _ (by omega), (set_stay _ _ _ (by omega)).trans (hO _ _ _ _ (by decide) h.r), hm.set3 _, h.sl, owns_set (owns_oth h.ok hO (by decide)) _ _ _ (by omega), owns_set (owns_oth h.ov hO (by decide)) _ _ _ (by omega), ?_, h.ap, by rw [size_set]; exact Nat.le_trans h.sz hg.size⟩
  show (W'.setCell _ u).ownsRow _ 3 1 u (s.kids ++ [x]).length (intCells (s.kids ++ [x]))
  rw [List.length_append, show intCells (s.kids ++ [x]) = intCells s.kids ++ intCells [x] by simp [intCells]]
  exact owns_set ho _ _ _ (by omega)
end Go.Proofs.Ytjcobejaldfibaa
