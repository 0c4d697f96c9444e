/- The fields of a schema, one by one: next, text, number, truth, count. -/
import Derived.Test.YtplpchaceiogaaaDoorTbp
import Derived.Test.YtplpchaceiogaaaDoorAwk
import Derived.BigRegion
namespace Go.Proofs.YtplpchaceiogaaaDoor
open Go.RowKit
set_option linter.unusedVariables false
set_option linter.unusedSimpArgs false
set_option maxRecDepth 100000

/-- Values in a block of their own, from a place on. -/
def RowB (w : World) (ao : Option Addr) (c : Nat) (l : List Vl) : Prop := l.length ≤ c ∧ c ≤ maxLen ∧ (l ≠ [] → ∃ g o cur, ao = some ⟨g, o, none⟩ ∧ w.heap[g]? = some (.cells cur 32 (0, 0)) ∧ ∀ j u, (vsCells l)[j]? = some u → cur[o + j]? = some u)
/-- These blocks hold no values' rows. -/
def Apart (w : World) (fp : List Nat) : Prop := ∀ k ∈ fp, ∀ cur fr, w.heap[k]? ≠ some (.cells cur 32 fr)
theorem RowB.off {w w' : World} {fp : List Nat} {ao : Option Addr} {c : Nat} {l : List Vl} (h : RowB w ao c l) (ho : Off fp w w') (ha : Apart w fp) : RowB w' ao c l :=
  ⟨h.1, h.2.1, fun hl => by
    obtain ⟨g, o, cur, e, hg, hr⟩ := h.2.2 hl
    exact ⟨g, o, cur, e, (ho.block g (lt_of_heap hg) (fun hm => ha g hm _ _ hg)).trans hg, hr⟩⟩
theorem RowB.vs {w : World} {ao : Option Addr} {c : Nat} {l : List Vl} (h : RowB w ao c l) : VsAt w (.slice ao l.length c) l :=
  ⟨ao, c, rfl, h.1, h.2.1, fun hl => by
    obtain ⟨g, o, cur, e, hg, hr⟩ := h.2.2 (fun h0 => hl (by rw [h0]; rfl))
    exact ⟨g, o, e, fun j u hu => by rw [cell_row hg]; exact hr j u hu⟩⟩
theorem RowB.of_vals {w0 w : World} {u : Value} {l : List Vl} (h : Vals w0 w u l) : ∃ ao c, u = .slice ao l.length c ∧ RowB w ao c l := by
  have h0 := h.own
  rcases h0.2 with ⟨rfl, hl⟩ | ⟨g, cap, cur, rfl, _, hg, h1, h2, h3, h4⟩
  · have hl : l = [] := List.eq_nil_of_length_eq_zero hl
    subst hl
    exact ⟨none, 0, rfl, Nat.le_refl _, Nat.zero_le _, fun h => absurd rfl h⟩
  · refine ⟨some ⟨g, 0, none⟩, cap, rfl, h1, h2, fun _ => ⟨g, 0, cur, rfl, hg, fun j u hu => ?_⟩⟩
    rw [Nat.zero_add]
    rw [← h4] at hu
    have hj := (List.getElem?_eq_some_iff.1 hu).1
    rw [List.length_take] at hj
    rw [List.getElem?_take_of_lt (by omega)] at hu
    simpa using hu
def cutV (ao : Option Addr) (c : Nat) : Option Addr := if c = 1 then ao else ao.map (·.add 4)
theorem run_cutV_from (w : World) (ao : Option Addr) (n c : Nat) (hl : 1 ≤ n) (hc : n ≤ c) :
    (Instr.sliceAt 35 (.slice ao n c) (some (.int .i64 1)) none none).run Tryd.prog w = .ok (.slice (cutV ao c) (n - 1) (c - 1)) w := by
  have hu := Tryd.underlying35
  have h2 : (1 : Int) ≤ (n : Int) := by omega
  obtain ⟨i, hi, hsz⟩ := Tryd.info32'
  simp [Instr.sliceAt, Instr.slice, run_underlying hu, Instr.sliceBounds, Instr.sliceBound, asIntOf, h2, sizeOf, typeInfo, hi, hsz, cutV]
theorem RowB.cut {w : World} {ao : Option Addr} {c : Nat} {v : Vl} {r : List Vl} (h : RowB w ao c (v :: r)) : RowB w (cutV ao c) (c - 1) r := by
  obtain ⟨h1, h2, h3⟩ := h
  rw [List.length_cons] at h1
  refine ⟨by omega, by omega, fun hr => ?_⟩
  obtain ⟨g, o, cur, e, hg, hx⟩ := h3 (by simp)
  subst e
  have hc : c ≠ 1 := by
    intro e
    have : r.length = 0 := by omega
    exact hr (List.eq_nil_of_length_eq_zero this)
  refine ⟨g, o + 4, cur, by unfold cutV; rw [if_neg hc]; simp [Addr.add_mid], hg, fun j u hu => ?_⟩
  rw [Nat.add_assoc]
  refine hx (4 + j) u ?_
  rw [vsCells_cons, show 4 + j = j + 1 + 1 + 1 + 1 by omega]
  simpa using hu
/-- The reader's box. -/
def Rd (w : World) (fb : Nat) (l : List Vl) : Prop := ∃ ao c, w.heap[fb]? = some (.cells #[.slice ao l.length c] 77 (0, 0)) ∧ RowB w ao c l
theorem Rd.off {w w' : World} {fp : List Nat} {fb : Nat} {l : List Vl} (h : Rd w fb l) (ho : Off fp w w') (ha : Apart w fp) (hf : fb ∉ fp) : Rd w' fb l := by
  obtain ⟨ao, c, h1, h2⟩ := h
  exact ⟨ao, c, (ho.block fb (lt_of_heap h1) hf).trans h1, h2.off ho ha⟩
theorem results_ct {fn : Func} {p u : Tmp} {ty : TypeId} (h : fn.results = #[.cell p ty, .tmp u]) (tmps : Array Value) (w : World) (g : Nat) (t : TypeId) (cs : Array Value) (fr : Nat × Nat) (d : TypeDesc)
    (hp : tmps.getD p undef = .pointer (some ⟨g, 0, none⟩)) (hg : w.heap[g]? = some (.cells cs t fr))
    (hu : Tryd.prog.underlying ty = some d) (hd : d.isRow = true) (hi : (Tryd.prog.info? ty).map (·.size) = some cs.size) :
    (results fn tmps).run Tryd.prog w = .ok (.tuple #[.agg cs, tmps.getD u undef]) w := by
  have hp' : tmps[p]?.getD undef = .pointer (some ⟨g, 0, none⟩) := by simpa using hp
  have hl := run_loadVar_mid (P := Tryd.prog) w g 0 ty cs.toList d (fun j v hv => by rw [Nat.zero_add, cell_row hg]; simpa using hv) hu hd (by rw [hi, Array.length_toList])
  simp [results, h, hp', asAddr, hl]
theorem setRow_heap (w : World) (b : Nat) (C D : Array Value) (t : TypeId) (fr : Nat × Nat) (h : w.heap[b]? = some (.cells C t fr)) : (w.setRow b D).heap[b]? = some (.cells D t fr) := by
  simp [World.setRow, Array.getElem?_modify, h]
theorem off_setRow {fp : List Nat} {a w : World} (h : Off fp a w) (b : Nat) (C : Array Value) (hb : b ∈ fp ∨ a.heap.size ≤ b) : Off fp a (w.setRow b C) :=
  ⟨h.os, h.tape, h.output, by have := h.size; simpa [World.setRow] using this, fun k hk hn => by
    have e : (w.setRow b C).heap[k]? = w.heap[k]? := by
      have : b ≠ k := fun e => by subst e; rcases hb with hb | hb; exact hn hb; omega
      simp [World.setRow, Array.getElem?_modify, this]
    exact e.trans (h.block k hk hn)⟩
theorem one_vcells (V : Vl) : ∀ u ∈ vcells V, u.oneCell' = true := by
  intro u hu
  simp [vcells] at hu
  rcases hu with rfl | rfl | rfl | rfl <;> rfl
theorem store_val {W : World} {r : Nat} {V0 : Vl} (h : Box W r V0) (V : Vl) :
    (Instr.storeAt 32 (.pointer (some ⟨r, 0, none⟩)) (.agg (vcells V).toArray)).run Tryd.prog W = .ok () (W.setRow r #[.int .i64 V.ty, .int .i64 V.n, .string (strOf V.t), .bool V.b]) := by
  have := run_storeAt_in (P := Tryd.prog) W r 0 32 32 _ (vcells V) h (by simp [vcells]) (by kernel_rfl) (one_vcells V)
  simpa [vcells] using this
theorem Box.after {W : World} {r : Nat} {V0 : Vl} (h : Box W r V0) (V : Vl) : Box (W.setRow r #[.int .i64 V.ty, .int .i64 V.n, .string (strOf V.t), .bool V.b]) r V := setRow_heap _ _ _ _ _ _ h
theorem wpList_store_val {ops : Array Oper} {rest : List Oper} {op : Oper} {a : Act} {w : World} {Q : Exit → Act → World → Prop} (hgd : op.guard = none) (x y : Operand) (ho : op.op = .store 32 x y) (hd : op.dst = none)
    (r : Nat) (V0 V : Vl) (hx : a.eval x = .pointer (some ⟨r, 0, none⟩)) (hy : a.eval y = .agg #[.int .i64 V.ty, .int .i64 V.n, .string (strOf V.t), .bool V.b]) (hb : Box w r V0)
    (h : wpList Tryd.prog ops Q rest a (w.setRow r #[.int .i64 V.ty, .int .i64 V.n, .string (strOf V.t), .bool V.b])) : wpList Tryd.prog ops Q (op :: rest) a w :=
  wpList_store_in hgd 32 x y ho hd r 0 (vcells V) _ hx hy (store_val hb V) h
theorem op_nil (ρ : Operand → Value) (o : Oper) (x : Operand) (ho : o.op = .nilCheck x) (a : Addr) (hx : ρ x = .pointer (some a)) {P : Program} {w : World} : (execOp ρ o).run P w = .ok (.value (.pointer (some a))) w := by
  unfold execOp
  simp [ho, hx, go_sem]
theorem op_store_to {P : Program} {ops : Array Oper} {Q : Exit → Act → World → Prop} {oi : Oper} {a : Act} {w : World} {K : Act → World → Prop} {i : Nat} (w' : World) (hi : ops[i]? = some oi)
    (hd : oi.dst = none) (hw : Region.wanted oi (yielded ops a.tmps) = true) (t : TypeId) (x y : Operand) (hop : oi.op = Op.store t x y) (px v : Value) (hx : a.eval x = px) (hy : a.eval y = v)
    (hrun : (Instr.storeAt t px v).run P w = .ok () w') (h : K a w') : wpOp P ops Q i K a w := by
  refine wpOp_step hi (fun K' hK => ?_)
  rw [if_pos hw]
  unfold Oper.wp execOp
  simp only [hop, hx, hy, Sem.run_bind, hrun, Result.andThen_ok, Sem.run_pure, Oper.upon_skip]
  rw [hd]
  exact hK _ _ h
theorem op_cutf (ρ : Operand → Value) (o : Oper) (x : Operand) (ho : o.op = .slice 35 x (some (.const (.int .i64 1))) none none) (px v : Value) (hx : ρ x = px) (hk : ρ (.const (.int .i64 1)) = .int .i64 1) {w : World} (hr : (Instr.sliceAt 35 px (some (.int .i64 1)) none none).run Tryd.prog w = .ok v w) : (execOp ρ o).run Tryd.prog w = .ok (.value v) w := by
  unfold execOp
  simp [ho, hx, hk, hr, Result.andThen]
theorem load32c {w : World} {g o : Nat} {V : Vl} (h : CellsAt w g o V) : (Instr.loadAt 32 (.pointer (some ⟨g, o, none⟩))).run Tryd.prog w = .ok (.agg #[.int .i64 V.ty, .int .i64 V.n, .string (strOf V.t), .bool V.b]) w :=
  run_loadAt_mid w g o 32 [.int .i64 V.ty, .int .i64 V.n, .string (strOf V.t), .bool V.b] _ (fun j v hv => by
    match j, hv with
    | 0, hv => simp at hv; subst hv; exact h.c0
    | 1, hv => simp at hv; subst hv; exact h.c1
    | 2, hv => simp at hv; subst hv; exact h.c2
    | 3, hv => simp at hv; subst hv; exact h.c3
    | j + 4, hv => simp at hv) Tryd.underlying32 rfl Tryd.size32
theorem heap_setRow_ne {w : World} {q k : Nat} (h : q ≠ k) (C : Array Value) : (w.setRow q C).heap[k]? = w.heap[k]? := by
  simp [World.setRow, Array.getElem?_modify, h]
theorem cellsAt_of {w w' : World} {g o : Nat} {V : Vl} (h : CellsAt w g o V) (he : w'.heap[g]? = w.heap[g]?) : CellsAt w' g o V := by
  have hc : ∀ j, w'.cell? ⟨g, j, none⟩ = w.cell? ⟨g, j, none⟩ := fun j => by simp only [World.cell?, he]
  exact ⟨(hc _).trans h.c0, (hc _).trans h.c1, (hc _).trans h.c2, (hc _).trans h.c3⟩
theorem store_one {W : World} {b : Nat} {C : Array Value} {t : TypeId} (h : W.heap[b]? = some (.cells C t (0, 0))) (o : Nat) (ho : o < C.size) (x : Option Addr) (n c : Nat) : (Instr.storeAt 35 (.pointer (some ⟨b, o, none⟩)) (.slice x n c)).run Tryd.prog W = .ok () (W.setCell ⟨b, o, none⟩ (.slice x n c)) := by
  have hc : W.cell? ⟨b, o, none⟩ = some C[o] := by rw [cell_row h]; simp [ho]
  have hf := frozen_row (o := o) h
  have ha := Tryd.isAgg35
  have hs : ∀ w, (sizeOf 35).run Tryd.prog w = .ok 1 w := fun w => by kernel_rfl
  simp [go_sem, ha, hc, hf, hs]
def NextEnd (w : World) (fb : Nat) (k : Int) (l : List Vl) (e : Ending) (w' : World) : Prop := Off [fb] w w' ∧ match takeV k l with
  | none => e = .returned (.tuple #[valOf Vl.zero, .bool false])
  | some p => e = .returned (.tuple #[valOf p.1, .bool true]) ∧ Rd w' fb p.2
set_option maxHeartbeats 8000000 in
theorem next73 {w : World} {fb : Nat} {l : List Vl} (h : Rd w fb l) (k : Int) : Calls Tryd.prog 73 #[.pointer (some ⟨fb, 0, none⟩), .int .i64 k] w (NextEnd w fb k l) := by
  obtain ⟨ao, c, hf, hr⟩ := h
  have hlen := hr.1
  have hmax := hr.2.1
  simp only [maxLen] at hmax
  obtain ⟨W, hW⟩ : ∃ W, w.alloc (.cells #[.int .i64 0, .int .i64 0, .string { data := #[] }, .bool false] 32) = W := ⟨_, rfl⟩
  have hb0 : Below w.heap.size w W := by rw [← hW]; exact (Below.refl _ _).alloc (Nat.le_refl _) _
  have hz : Box W w.heap.size Vl.zero := by rw [← hW]; exact box_new w Vl.zero
  have hf0 : W.heap[fb]? = some (.cells #[.slice ao l.length c] 77 (0, 0)) := (hb0.block fb (lt_of_heap hf)).trans hf
  have hfl := lt_of_heap hf0
  have hfb := lt_of_heap hf
  have hff : W.cell? ⟨fb, 0, none⟩ = some (.slice ao l.length c) := by rw [cell_row hf0]; rfl
  have hrl := lt_of_heap hz
  have HB0 := hide hb0
  have HZ := hide hz
  have HF := hide hf0
  have HRW := hide hr
  have HAP : Hid (Apart w [fb]) := fun k hk cur fr hh => by
    simp at hk
    subst hk
    rw [hf] at hh
    simp at hh
  have HR : Hid (RowB W ao c l) := hr.off (Off.of_below hb0 []) (fun k hk => by cases hk)
  have hgf : ∀ g cur, W.heap[g]? = some (.cells cur 32 (0, 0)) → g ≠ fb := fun g cur hg e => by
    subst e
    rw [hf0] at hg
    simp at hg
  have hqf : w.heap.size ≠ fb := by omega
  unfold NextEnd
  clear hf hb0 hz hf0 hr
  cases l with
  | nil =>
    simp only [takeV]
    have hl0 : ((0 : Nat) : Int) = 0 := rfl
    simp only [List.length_nil] at *
    go_enter Tryd.func73, Tryd.ntmps73
    go_upto_region 1 with fail
    try rw [hW]
    clear hW
    generalize hq : w.heap.size = q at *
    have HQ := hide hq
    clear hq
    go_wp2_with (refine wpList_store_val rfl (.tmp 4) (.tmp 23) rfl rfl q Vl.zero Vl.zero rfl rfl HZ.out ?_)
    refine bodyPost_ret (v := .tuple #[valOf Vl.zero, .bool false]) (results_ct Tryd.results73 _ _ q 32 _ (0, 0) _ rfl (Box.after HZ.out Vl.zero) Tryd.underlying32 rfl Tryd.size32) rfl ?_
    exact ⟨off_setRow (Off.of_below (by rw [HQ.out]; exact HB0.out) [fb]) _ _ (.inr (by rw [HQ.out]; exact Nat.le_refl _)), rfl⟩
  | cons v r =>
    obtain ⟨g, o, cur, e, hg, hx⟩ := HR.out.2.2 (by simp)
    subst e
    have k0 : W.cell? ⟨g, o, none⟩ = some (.int .i64 v.ty) := by rw [cell_row hg]; exact hx 0 _ rfl
    have HV : Hid (CellsAt W g o v) := ⟨k0, by rw [cell_row hg]; exact hx 1 _ rfl, by rw [cell_row hg]; exact hx 2 _ rfl, by rw [cell_row hg]; exact hx 3 _ rfl⟩
    have hgl := World.block_lt_of_cell? W _ k0
    have hcut : ∀ W, (Instr.sliceAt 35 (.slice (some ⟨g, o, none⟩) (v :: r).length c) (some (.int .i64 1)) none none).run Tryd.prog W = .ok (.slice (cutV (some ⟨g, o, none⟩) c) ((v :: r).length - 1) (c - 1)) W := fun W => run_cutV_from W (some ⟨g, o, none⟩) (v :: r).length c (by simp) hlen
    have HC := hide HR.out.cut
    have hidx : ∀ W, (Instr.indexAt 35 (.slice (some ⟨g, o, none⟩) (v :: r).length c) (.int .i64 0)).run Tryd.prog W = .ok (.pointer (some ⟨g, o, none⟩)) W := fun W => by
      have := run_index35 W g o (v :: r).length c 0 (by simp)
      simpa using this
    have HL : Hid ((v :: r).length - 1 = r.length) := by simp [Hid]
    have hn0 : (((v :: r).length : Nat) : Int) ≠ 0 := by simp; omega
    have hgf1 := hgf g cur hg
    have hgq : w.heap.size ≠ g := by
      obtain ⟨g', o', cur', e', hg', _⟩ := HRW.out.2.2 (by simp)
      injection e' with e'
      injection e' with e'
      have := lt_of_heap hg'
      omega
    clear hgf
    generalize hN : (v :: r).length = N at *
    have HN := hide hN
    clear hN hg hx HR
    have hnb : ((N : Int) == 0) = false := by simpa using hn0
    simp only [takeV]
    by_cases hk : v.ty = k
    · subst hk
      simp only [if_true]
      have hkb : (v.ty != v.ty) = false := by simp
      go_enter Tryd.func73, Tryd.ntmps73
      go_upto_region 1 with fail
      try rw [hW]
      clear hW hn0
      generalize hq : w.heap.size = q at *
      have HQ := hide hq
      clear hq
      go_upto_region 3 with fail
      refine wp_region_held_drew (S := fun W => CellsAt W g o v) (by kernel_rfl) (cellsAt_of HV.out rfl) (fun hH => ?_)
      refine take_to 0 24 (.pointer (some ⟨fb, 0, none⟩)) rfl (by kernel_rfl) (by kernel_rfl) (by kernel_rfl) (fun _ _ _ h => h) rfl (by rfl) (fun w hw => by rfl) hH ?_
      simp only [Act.put, List.setIfInBounds_toArray, List.set_cons_zero, List.set_cons_succ]
      refine take_to 1 25 (.pointer (some ⟨fb, 0, none⟩)) rfl (by kernel_rfl) (by kernel_rfl) (by kernel_rfl) (fun _ _ _ h => h) rfl (by rfl) (fun w hw => by rfl) hH ?_
      simp only [Act.put, List.setIfInBounds_toArray, List.set_cons_zero, List.set_cons_succ]
      refine take_to 2 26 (.pointer (some ⟨fb, 0, none⟩)) rfl (by kernel_rfl) (by kernel_rfl) (by kernel_rfl) (fun _ _ _ h => h) rfl (by rfl) (fun w hw => op_nil _ _ (.tmp 25) rfl _ rfl) hH ?_
      simp only [Act.put, List.setIfInBounds_toArray, List.set_cons_zero, List.set_cons_succ]
      refine take_to 3 27 (.pointer (some ⟨fb, 0, none⟩)) rfl (by kernel_rfl) (by kernel_rfl) (by kernel_rfl) (fun _ _ _ h => h) rfl (by rfl) (fun w hw => by rfl) hH ?_
      simp only [Act.put, List.setIfInBounds_toArray, List.set_cons_zero, List.set_cons_succ]
      refine take_to 7 31 (.pointer (some ⟨fb, 0, none⟩)) rfl (by kernel_rfl) (by kernel_rfl) (by kernel_rfl) (fun _ _ _ h => h) rfl (by rfl) (fun w hw => by rfl) hH ?_
      simp only [Act.put, List.setIfInBounds_toArray, List.set_cons_zero, List.set_cons_succ]
      refine take_to 8 32 (.pointer (some ⟨fb, 0, none⟩)) rfl (by kernel_rfl) (by kernel_rfl) (by kernel_rfl) (fun _ _ _ h => h) rfl (by rfl) (fun w hw => op_nil _ _ (.tmp 31) rfl _ rfl) hH ?_
      simp only [Act.put, List.setIfInBounds_toArray, List.set_cons_zero, List.set_cons_succ]
      refine take_to 9 33 (.pointer (some ⟨fb, 0, none⟩)) rfl (by kernel_rfl) (by kernel_rfl) (by kernel_rfl) (fun _ _ _ h => h) rfl (by rfl) (fun w hw => by rfl) hH ?_
      simp only [Act.put, List.setIfInBounds_toArray, List.set_cons_zero, List.set_cons_succ]
      refine wpAnyH_all (rs := [4, 10]) (by kernel_rfl) (by simp) ?_
      intro i hi
      simp only [List.mem_cons, List.not_mem_nil, or_false] at hi
      have hld : ∀ m, (Instr.loadAt 35 (.pointer (some ⟨fb, 0, none⟩))).run Tryd.prog (W.drewN m) = .ok (.slice (some ⟨g, o, none⟩) N c) (W.drewN m) := fun m => run_loadAny _ fb 0 35 _ Tryd.isAgg35 hff
      rcases hi with rfl | rfl
      · refine op_to 28 (.slice (some ⟨g, o, none⟩) N c) (W.drewN 1) rfl rfl (by rfl) (op_load _ _ 35 (.tmp 27) rfl (.pointer (some ⟨fb, 0, none⟩)) _ rfl (hld 1)) ⟨hH, ?_⟩
        simp only [Act.put, List.setIfInBounds_toArray, List.set_cons_zero, List.set_cons_succ]
        refine take_to 5 29 (.pointer (some ⟨g, o, none⟩)) rfl (by kernel_rfl) (by kernel_rfl) (by kernel_rfl) (fun _ _ _ h => h) rfl (by rfl) (fun w hw => op_index _ _ 35 (.tmp 28) (.const (.int .i64 0)) rfl (.slice (some ⟨g, o, none⟩) N c) (.int .i64 0) _ rfl rfl (hidx w)) hH ?_
        simp only [Act.put, List.setIfInBounds_toArray, List.set_cons_zero, List.set_cons_succ]
        refine take_to 6 30 (.agg #[.int .i64 v.ty, .int .i64 v.n, .string (strOf v.t), .bool v.b]) rfl (by kernel_rfl) (by kernel_rfl) (by kernel_rfl) (fun _ _ _ h => h) rfl (by rfl) (fun w hw => op_load _ _ 32 (.tmp 29) rfl (.pointer (some ⟨g, o, none⟩)) _ rfl (load32c hw)) hH ?_
        simp only [Act.put, List.setIfInBounds_toArray, List.set_cons_zero, List.set_cons_succ]
        refine wpAnyH_all (rs := [10, 12]) (by kernel_rfl) (by simp) ?_
        intro i hi
        simp only [List.mem_cons, List.not_mem_nil, or_false] at hi
        rcases hi with rfl | rfl
        · refine op_to 34 (.slice (some ⟨g, o, none⟩) N c) (W.drewN 1) rfl rfl (by rfl) (op_load _ _ 35 (.tmp 33) rfl (.pointer (some ⟨fb, 0, none⟩)) _ rfl (hld 1)) ⟨hH, ?_⟩
          simp only [Act.put, List.setIfInBounds_toArray, List.set_cons_zero, List.set_cons_succ]
          refine take_to 11 35 (.slice (cutV (some ⟨g, o, none⟩) c) (N - 1) (c - 1)) rfl (by kernel_rfl) (by kernel_rfl) (by kernel_rfl) (fun _ _ _ h => h) rfl (by rfl) (fun w hw => op_cutf _ _ (.tmp 34) rfl (.slice (some ⟨g, o, none⟩) N c) _ rfl rfl (hcut w)) hH ?_
          simp only [Act.put, List.setIfInBounds_toArray, List.set_cons_zero, List.set_cons_succ]
          have hB1 : Box (W.drewN 1) q Vl.zero := HZ.out
          have hW4 : CellsAt ((W.drewN 1).setRow q #[.int .i64 v.ty, .int .i64 v.n, .string (strOf v.t), .bool v.b]) g o v := cellsAt_of hH (heap_setRow_ne hgq _)
          refine step_store_to 12 _ rfl (by kernel_rfl) rfl (by rfl) 32 (.tmp 4) (.tmp 30) rfl _ _ rfl rfl (store_val hB1 v) hW4 ?_
          have hF4 : ((W.drewN 1).setRow q #[.int .i64 v.ty, .int .i64 v.n, .string (strOf v.t), .bool v.b]).heap[fb]? = some (.cells #[.slice (some ⟨g, o, none⟩) N c] 77 (0, 0)) := (heap_setRow_ne hqf _).trans HF.out
          refine take_to 13 36 (.pointer (some ⟨fb, 0, none⟩)) rfl (by kernel_rfl) (by kernel_rfl) (by kernel_rfl) (fun _ _ _ h => h) rfl (by rfl) (fun w hw => op_nil _ _ (.tmp 24) rfl _ rfl) hW4 ?_
          simp only [Act.put, List.setIfInBounds_toArray, List.set_cons_zero, List.set_cons_succ]
          refine take_to 14 37 (.pointer (some ⟨fb, 0, none⟩)) rfl (by kernel_rfl) (by kernel_rfl) (by kernel_rfl) (fun _ _ _ h => h) rfl (by rfl) (fun w hw => by rfl) hW4 ?_
          simp only [Act.put, List.setIfInBounds_toArray, List.set_cons_zero, List.set_cons_succ]
          refine step_store_to 15 _ rfl (by kernel_rfl) rfl (by rfl) 35 (.tmp 37) (.tmp 35) rfl _ _ rfl rfl (store_one hF4 0 (by simp) _ _ _) (cellsAt_of hW4 (Below.heap_setCell _ _ _ _ (fun e => hgf1 e))) ?_
          refine wpAnyH_done (by kernel_rfl) ?_ _
          generalize hW6 : ((W.drewN 1).setRow q #[.int .i64 v.ty, .int .i64 v.n, .string (strOf v.t), .bool v.b]).setCell ⟨fb, 0, none⟩ (.slice (cutV (some ⟨g, o, none⟩) c) (N - 1) (c - 1)) = W6
          have HB5 : Hid (Box W6 q v) := by rw [← hW6]; exact (Below.heap_setCell _ _ _ _ (fun e => hqf e)).trans (Box.after hB1 v)
          have HO6 : Hid (Off [fb] w W6) := by rw [← hW6]; exact (off_setRow ((Off.of_below (by rw [HQ.out]; exact HB0.out) [fb]).drewN 1) _ _ (.inr (by rw [HQ.out]; exact Nat.le_refl _))).setCell _ _ (.inl (by simp))
          have HF6 : Hid (W6.heap[fb]? = some (.cells #[.slice (cutV (some ⟨g, o, none⟩) c) r.length (c - 1)] 77 (0, 0))) := by rw [← hW6, ← HL.out]; exact heap_set_same _ hF4
          clear hW6 hF4 hW4 hB1 hH hld HF
          obtain ⟨c0, c1, c2, c3⟩ := HB5.out.cells
          go_wp2_with (refine wpList_store_val rfl (.tmp 4) (.tmp 38) rfl rfl q v v rfl rfl HB5.out ?_)
          refine bodyPost_ret (v := .tuple #[valOf v, .bool true]) (results_ct Tryd.results73 _ _ q 32 _ (0, 0) _ rfl (Box.after HB5.out v) Tryd.underlying32 rfl Tryd.size32) rfl ?_
          have hO7 := off_setRow HO6.out q #[.int .i64 v.ty, .int .i64 v.n, .string (strOf v.t), .bool v.b] (.inr (by rw [HQ.out]; exact Nat.le_refl _))
          exact ⟨hO7, rfl, _, _, (heap_setRow_ne hqf _).trans HF6.out, HRW.out.cut.off hO7 HAP.out⟩
        · have hB1 : Box (W.drewN 1) q Vl.zero := HZ.out
          have hW4 : CellsAt ((W.drewN 1).setRow q #[.int .i64 v.ty, .int .i64 v.n, .string (strOf v.t), .bool v.b]) g o v := cellsAt_of hH (heap_setRow_ne hgq _)
          refine op_store_to ((W.drewN 1).setRow q #[.int .i64 v.ty, .int .i64 v.n, .string (strOf v.t), .bool v.b]) rfl rfl (by rfl) 32 (.tmp 4) (.tmp 30) rfl _ _ rfl rfl (store_val hB1 v) ⟨hW4, ?_⟩
          have hF3 : ((W.drewN 1).setRow q #[.int .i64 v.ty, .int .i64 v.n, .string (strOf v.t), .bool v.b]).heap[fb]? = some (.cells #[.slice (some ⟨g, o, none⟩) N c] 77 (0, 0)) := (heap_setRow_ne hqf _).trans HF.out
          have hld2 : (Instr.loadAt 35 (.pointer (some ⟨fb, 0, none⟩))).run Tryd.prog ((W.drewN 1).setRow q #[.int .i64 v.ty, .int .i64 v.n, .string (strOf v.t), .bool v.b]) = .ok (.slice (some ⟨g, o, none⟩) N c) ((W.drewN 1).setRow q #[.int .i64 v.ty, .int .i64 v.n, .string (strOf v.t), .bool v.b]) := run_loadAny _ fb 0 35 _ Tryd.isAgg35 (by rw [cell_row hF3]; rfl)
          refine step_to 10 34 (.slice (some ⟨g, o, none⟩) N c) ((W.drewN 1).setRow q #[.int .i64 v.ty, .int .i64 v.n, .string (strOf v.t), .bool v.b]) rfl (by kernel_rfl) rfl (by rfl) (op_load _ _ 35 (.tmp 33) rfl (.pointer (some ⟨fb, 0, none⟩)) _ rfl hld2) hW4 ?_
          simp only [Act.put, List.setIfInBounds_toArray, List.set_cons_zero, List.set_cons_succ]
          refine take_to 11 35 (.slice (cutV (some ⟨g, o, none⟩) c) (N - 1) (c - 1)) rfl (by kernel_rfl) (by kernel_rfl) (by kernel_rfl) (fun _ _ _ h => h) rfl (by rfl) (fun w hw => op_cutf _ _ (.tmp 34) rfl (.slice (some ⟨g, o, none⟩) N c) _ rfl rfl (hcut w)) hW4 ?_
          simp only [Act.put, List.setIfInBounds_toArray, List.set_cons_zero, List.set_cons_succ]
          clear hld2 hF3
          have hF4 : ((W.drewN 1).setRow q #[.int .i64 v.ty, .int .i64 v.n, .string (strOf v.t), .bool v.b]).heap[fb]? = some (.cells #[.slice (some ⟨g, o, none⟩) N c] 77 (0, 0)) := (heap_setRow_ne hqf _).trans HF.out
          refine take_to 13 36 (.pointer (some ⟨fb, 0, none⟩)) rfl (by kernel_rfl) (by kernel_rfl) (by kernel_rfl) (fun _ _ _ h => h) rfl (by rfl) (fun w hw => op_nil _ _ (.tmp 24) rfl _ rfl) hW4 ?_
          simp only [Act.put, List.setIfInBounds_toArray, List.set_cons_zero, List.set_cons_succ]
          refine take_to 14 37 (.pointer (some ⟨fb, 0, none⟩)) rfl (by kernel_rfl) (by kernel_rfl) (by kernel_rfl) (fun _ _ _ h => h) rfl (by rfl) (fun w hw => by rfl) hW4 ?_
          simp only [Act.put, List.setIfInBounds_toArray, List.set_cons_zero, List.set_cons_succ]
          refine step_store_to 15 _ rfl (by kernel_rfl) rfl (by rfl) 35 (.tmp 37) (.tmp 35) rfl _ _ rfl rfl (store_one hF4 0 (by simp) _ _ _) (cellsAt_of hW4 (Below.heap_setCell _ _ _ _ (fun e => hgf1 e))) ?_
          refine wpAnyH_done (by kernel_rfl) ?_ _
          generalize hW6 : ((W.drewN 1).setRow q #[.int .i64 v.ty, .int .i64 v.n, .string (strOf v.t), .bool v.b]).setCell ⟨fb, 0, none⟩ (.slice (cutV (some ⟨g, o, none⟩) c) (N - 1) (c - 1)) = W6
          have HB5 : Hid (Box W6 q v) := by rw [← hW6]; exact (Below.heap_setCell _ _ _ _ (fun e => hqf e)).trans (Box.after hB1 v)
          have HO6 : Hid (Off [fb] w W6) := by rw [← hW6]; exact (off_setRow ((Off.of_below (by rw [HQ.out]; exact HB0.out) [fb]).drewN 1) _ _ (.inr (by rw [HQ.out]; exact Nat.le_refl _))).setCell _ _ (.inl (by simp))
          have HF6 : Hid (W6.heap[fb]? = some (.cells #[.slice (cutV (some ⟨g, o, none⟩) c) r.length (c - 1)] 77 (0, 0))) := by rw [← hW6, ← HL.out]; exact heap_set_same _ hF4
          clear hW6 hF4 hW4 hB1 hH hld HF
          obtain ⟨c0, c1, c2, c3⟩ := HB5.out.cells
          go_wp2_with (refine wpList_store_val rfl (.tmp 4) (.tmp 38) rfl rfl q v v rfl rfl HB5.out ?_)
          refine bodyPost_ret (v := .tuple #[valOf v, .bool true]) (results_ct Tryd.results73 _ _ q 32 _ (0, 0) _ rfl (Box.after HB5.out v) Tryd.underlying32 rfl Tryd.size32) rfl ?_
          have hO7 := off_setRow HO6.out q #[.int .i64 v.ty, .int .i64 v.n, .string (strOf v.t), .bool v.b] (.inr (by rw [HQ.out]; exact Nat.le_refl _))
          exact ⟨hO7, rfl, _, _, (heap_setRow_ne hqf _).trans HF6.out, HRW.out.cut.off hO7 HAP.out⟩
      · refine op_to 34 (.slice (some ⟨g, o, none⟩) N c) (W.drewN 1) rfl rfl (by rfl) (op_load _ _ 35 (.tmp 33) rfl (.pointer (some ⟨fb, 0, none⟩)) _ rfl (hld 1)) ⟨hH, ?_⟩
        simp only [Act.put, List.setIfInBounds_toArray, List.set_cons_zero, List.set_cons_succ]
        refine take_to 11 35 (.slice (cutV (some ⟨g, o, none⟩) c) (N - 1) (c - 1)) rfl (by kernel_rfl) (by kernel_rfl) (by kernel_rfl) (fun _ _ _ h => h) rfl (by rfl) (fun w hw => op_cutf _ _ (.tmp 34) rfl (.slice (some ⟨g, o, none⟩) N c) _ rfl rfl (hcut w)) hH ?_
        simp only [Act.put, List.setIfInBounds_toArray, List.set_cons_zero, List.set_cons_succ]
        refine step_to 4 28 (.slice (some ⟨g, o, none⟩) N c) (W.drewN 1) rfl (by kernel_rfl) rfl (by rfl) (op_load _ _ 35 (.tmp 27) rfl (.pointer (some ⟨fb, 0, none⟩)) _ rfl (hld 1)) hH ?_
        simp only [Act.put, List.setIfInBounds_toArray, List.set_cons_zero, List.set_cons_succ]
        refine take_to 5 29 (.pointer (some ⟨g, o, none⟩)) rfl (by kernel_rfl) (by kernel_rfl) (by kernel_rfl) (fun _ _ _ h => h) rfl (by rfl) (fun w hw => op_index _ _ 35 (.tmp 28) (.const (.int .i64 0)) rfl (.slice (some ⟨g, o, none⟩) N c) (.int .i64 0) _ rfl rfl (hidx w)) hH ?_
        simp only [Act.put, List.setIfInBounds_toArray, List.set_cons_zero, List.set_cons_succ]
        refine take_to 6 30 (.agg #[.int .i64 v.ty, .int .i64 v.n, .string (strOf v.t), .bool v.b]) rfl (by kernel_rfl) (by kernel_rfl) (by kernel_rfl) (fun _ _ _ h => h) rfl (by rfl) (fun w hw => op_load _ _ 32 (.tmp 29) rfl (.pointer (some ⟨g, o, none⟩)) _ rfl (load32c hw)) hH ?_
        simp only [Act.put, List.setIfInBounds_toArray, List.set_cons_zero, List.set_cons_succ]
        have hB1 : Box (W.drewN 1) q Vl.zero := HZ.out
        have hW4 : CellsAt ((W.drewN 1).setRow q #[.int .i64 v.ty, .int .i64 v.n, .string (strOf v.t), .bool v.b]) g o v := cellsAt_of hH (heap_setRow_ne hgq _)
        refine step_store_to 12 _ rfl (by kernel_rfl) rfl (by rfl) 32 (.tmp 4) (.tmp 30) rfl _ _ rfl rfl (store_val hB1 v) hW4 ?_
        have hF4 : ((W.drewN 1).setRow q #[.int .i64 v.ty, .int .i64 v.n, .string (strOf v.t), .bool v.b]).heap[fb]? = some (.cells #[.slice (some ⟨g, o, none⟩) N c] 77 (0, 0)) := (heap_setRow_ne hqf _).trans HF.out
        refine take_to 13 36 (.pointer (some ⟨fb, 0, none⟩)) rfl (by kernel_rfl) (by kernel_rfl) (by kernel_rfl) (fun _ _ _ h => h) rfl (by rfl) (fun w hw => op_nil _ _ (.tmp 24) rfl _ rfl) hW4 ?_
        simp only [Act.put, List.setIfInBounds_toArray, List.set_cons_zero, List.set_cons_succ]
        refine take_to 14 37 (.pointer (some ⟨fb, 0, none⟩)) rfl (by kernel_rfl) (by kernel_rfl) (by kernel_rfl) (fun _ _ _ h => h) rfl (by rfl) (fun w hw => by rfl) hW4 ?_
        simp only [Act.put, List.setIfInBounds_toArray, List.set_cons_zero, List.set_cons_succ]
        refine step_store_to 15 _ rfl (by kernel_rfl) rfl (by rfl) 35 (.tmp 37) (.tmp 35) rfl _ _ rfl rfl (store_one hF4 0 (by simp) _ _ _) (cellsAt_of hW4 (Below.heap_setCell _ _ _ _ (fun e => hgf1 e))) ?_
        refine wpAnyH_done (by kernel_rfl) ?_ _
        generalize hW6 : ((W.drewN 1).setRow q #[.int .i64 v.ty, .int .i64 v.n, .string (strOf v.t), .bool v.b]).setCell ⟨fb, 0, none⟩ (.slice (cutV (some ⟨g, o, none⟩) c) (N - 1) (c - 1)) = W6
        have HB5 : Hid (Box W6 q v) := by rw [← hW6]; exact (Below.heap_setCell _ _ _ _ (fun e => hqf e)).trans (Box.after hB1 v)
        have HO6 : Hid (Off [fb] w W6) := by rw [← hW6]; exact (off_setRow ((Off.of_below (by rw [HQ.out]; exact HB0.out) [fb]).drewN 1) _ _ (.inr (by rw [HQ.out]; exact Nat.le_refl _))).setCell _ _ (.inl (by simp))
        have HF6 : Hid (W6.heap[fb]? = some (.cells #[.slice (cutV (some ⟨g, o, none⟩) c) r.length (c - 1)] 77 (0, 0))) := by rw [← hW6, ← HL.out]; exact heap_set_same _ hF4
        clear hW6 hF4 hW4 hB1 hH hld HF
        obtain ⟨c0, c1, c2, c3⟩ := HB5.out.cells
        go_wp2_with (refine wpList_store_val rfl (.tmp 4) (.tmp 38) rfl rfl q v v rfl rfl HB5.out ?_)
        refine bodyPost_ret (v := .tuple #[valOf v, .bool true]) (results_ct Tryd.results73 _ _ q 32 _ (0, 0) _ rfl (Box.after HB5.out v) Tryd.underlying32 rfl Tryd.size32) rfl ?_
        have hO7 := off_setRow HO6.out q #[.int .i64 v.ty, .int .i64 v.n, .string (strOf v.t), .bool v.b] (.inr (by rw [HQ.out]; exact Nat.le_refl _))
        exact ⟨hO7, rfl, _, _, (heap_setRow_ne hqf _).trans HF6.out, HRW.out.cut.off hO7 HAP.out⟩
    · simp only [hk, if_false]
      have hkb : (v.ty != k) = true := by simpa using hk
      go_enter Tryd.func73, Tryd.ntmps73
      go_upto_region 1 with fail
      try rw [hW]
      clear hW hn0
      generalize hq : w.heap.size = q at *
      have HQ := hide hq
      clear hq
      go_wp2_with (refine wpList_store_val rfl (.tmp 4) (.tmp 23) rfl rfl q Vl.zero Vl.zero rfl rfl HZ.out ?_)
      refine bodyPost_ret (v := .tuple #[valOf Vl.zero, .bool false]) (results_ct Tryd.results73 _ _ q 32 _ (0, 0) _ rfl (Box.after HZ.out Vl.zero) Tryd.underlying32 rfl Tryd.size32) rfl ?_
      exact ⟨off_setRow (Off.of_below (by rw [HQ.out]; exact HB0.out) [fb]) _ _ (.inr (by rw [HQ.out]; exact Nat.le_refl _)), rfl⟩
def ReadEnd (w : World) (fb d : Nat) (k : Int) (get : Vl → Value) (C : Array Value) (t : TypeId) (o : Nat) (l : List Vl) (e : Ending) (w' : World) : Prop := Off [fb, d] w w' ∧ match takeV k l with
  | none => e = .returned (.bool false)
  | some p => e = .returned (.bool true) ∧ Rd w' fb p.2 ∧ w'.heap[d]? = some (.cells (C.setIfInBounds o (get p.1)) t (0, 0))
theorem apart2 {w : World} {fb d : Nat} {C D : Array Value} {t u : TypeId} {fr gr : Nat × Nat} (hf : w.heap[fb]? = some (.cells C t fr)) (hd : w.heap[d]? = some (.cells D u gr)) (ht : t ≠ 32) (hu : u ≠ 32) : Apart w [fb, d] := fun k hk cur fr hh => by
  simp at hk
  rcases hk with rfl | rfl
  · rw [hf] at hh; simp at hh; exact ht hh.2.1
  · rw [hd] at hh; simp at hh; exact hu hh.2.1
theorem Off.drop2 {w w' : World} {a b : Nat} (h : Off [a] w w') : Off [a, b] w w' := h.mono (by simp)
set_option maxHeartbeats 4000000 in
theorem text46 {w : World} {fb d o : Nat} {C : Array Value} {t : TypeId} {l : List Vl} (h : Rd w fb l) (hd : w.heap[d]? = some (.cells C t (0, 0))) (ho : o < C.size) (ht : t ≠ 32) (ht7 : t ≠ 77) :
    Calls Tryd.prog 46 #[.pointer (some ⟨fb, 0, none⟩), .pointer (some ⟨d, o, none⟩)] w (ReadEnd w fb d 2 (fun v => .string (strOf v.t)) C t o l) := by
  have HN := hide (next73 h 2)
  obtain ⟨ao, c, hf, hr⟩ := h
  have hfd : fb ≠ d := fun e => by subst e; rw [hf] at hd; simp at hd; exact ht7 hd.2.symm
  have hdl := lt_of_heap hd
  have HD := hide hd
  have HF := hide hf
  unfold ReadEnd
  unfold NextEnd at HN
  clear hf hr hd
  cases hq : takeV 2 l with
  | none =>
    simp only [hq] at HN ⊢
    have hvl : valOf Vl.zero = .agg #[.int .i64 0, .int .i64 0, .string { data := #[] }, .bool false] := rfl
    simp only [hvl] at HN
    clear hvl
    go_enter Tryd.func46, Tryd.ntmps46
    go_upto_region 2 with (go_at_call 73; refine HN.out.mono ?_; rintro e W2 ⟨hO2, rfl⟩; have HO2 := hide hO2; have hd2 : W2.heap[d]? = some (.cells C t (0, 0)) := (hO2.block d hdl (by simpa using hfd.symm)).trans HD.out; have HD2 := hide hd2; clear hO2 hd2)
    have hdl2 := lt_of_heap HD2.out
    generalize hW3 : W2.alloc _ = W3
    have hbx : Box W3 W2.heap.size Vl.zero := by rw [← hW3]; exact box_new W2 Vl.zero
    have hd3 : W3.heap[d]? = some (.cells C t (0, 0)) := by rw [← hW3]; exact (Below.heap_alloc _ _ _ hdl2).trans HD2.out
    have HO3 : Hid (Off [fb, d] w W3) := by rw [← hW3]; exact (HO2.out.drop2).alloc _
    obtain ⟨c0, c1, c2, c3⟩ : W3.cell? ⟨W2.heap.size, 0, none⟩ = some (.int .i64 0) ∧ W3.cell? ⟨W2.heap.size, 1, none⟩ = some (.int .i64 0) ∧ W3.cell? ⟨W2.heap.size, 2, none⟩ = some (.string { data := #[] }) ∧ W3.cell? ⟨W2.heap.size, 3, none⟩ = some (.bool false) := hbx.cells
    have hcd : W3.cell? ⟨d, o, none⟩ = some C[o] := by rw [cell_row hd3]; simp [ho]
    have hfz := frozen_row (o := o) hd3
    clear hW3 hbx hd3
    generalize W2.heap.size = b at *
    go_wp2
    go_ret
    exact ⟨HO3.out.setCell _ _ (.inl (by simp)), rfl⟩
  | some p =>
    simp only [hq] at HN ⊢
    obtain ⟨V, r⟩ := p
    have hvl : valOf V = .agg #[.int .i64 V.ty, .int .i64 V.n, .string (strOf V.t), .bool V.b] := rfl
    simp only [hvl] at HN ⊢
    go_enter Tryd.func46, Tryd.ntmps46
    go_upto_region 2 with (go_at_call 73; refine HN.out.mono ?_; rintro e W2 ⟨hO2, rfl, hR2⟩; have HO2 := hide hO2; have HR2 := hide hR2; have hd2 : W2.heap[d]? = some (.cells C t (0, 0)) := (hO2.block d hdl (by simpa using hfd.symm)).trans HD.out; have HD2 := hide hd2; clear hO2 hd2 hR2)
    have hdl2 := lt_of_heap HD2.out
    generalize hW3 : W2.alloc _ = W3
    have hbx : Box W3 W2.heap.size V := by rw [← hW3]; exact box_new W2 V
    have hd3 : W3.heap[d]? = some (.cells C t (0, 0)) := by rw [← hW3]; exact (Below.heap_alloc _ _ _ hdl2).trans HD2.out
    have HO3 : Hid (Off [fb, d] w W3) := by rw [← hW3]; exact (HO2.out.drop2).alloc _
    have HR3 : Hid (Rd W3 fb r) := HR2.out.off (by rw [← hW3]; exact (Off.refl [] W2).alloc _) (fun k hk => by cases hk) (by simp)
    obtain ⟨c0, c1, c2, c3⟩ := hbx.cells
    have hcd : W3.cell? ⟨d, o, none⟩ = some C[o] := by rw [cell_row hd3]; simp [ho]
    have hfz := frozen_row (o := o) hd3
    have HD3 := hide hd3
    clear hW3 hbx hd3 hvl
    generalize W2.heap.size = b at *
    go_wp2
    go_ret
    refine ⟨HO3.out.setCell _ _ (.inl (by simp)), rfl, ?_, heap_set_same _ HD3.out⟩
    exact HR3.out.off (fp := [d]) ((Off.refl [d] W3).setCell _ _ (.inl (by simp))) (fun k hk cur fr hh => by
      simp at hk
      subst hk
      rw [HD3.out] at hh
      simp at hh
      exact ht hh.2.1) (by simpa using hfd)
set_option maxHeartbeats 4000000 in
theorem num48 {w : World} {fb d o : Nat} {C : Array Value} {t : TypeId} {l : List Vl} (h : Rd w fb l) (hd : w.heap[d]? = some (.cells C t (0, 0))) (ho : o < C.size) (ht : t ≠ 32) (ht7 : t ≠ 77) :
    Calls Tryd.prog 48 #[.pointer (some ⟨fb, 0, none⟩), .pointer (some ⟨d, o, none⟩)] w (ReadEnd w fb d 1 (fun v => .int .i64 v.n) C t o l) := by
  have HN := hide (next73 h 1)
  obtain ⟨ao, c, hf, hr⟩ := h
  have hfd : fb ≠ d := fun e => by subst e; rw [hf] at hd; simp at hd; exact ht7 hd.2.symm
  have hdl := lt_of_heap hd
  have HD := hide hd
  have HF := hide hf
  unfold ReadEnd
  unfold NextEnd at HN
  clear hf hr hd
  cases hq : takeV 1 l with
  | none =>
    simp only [hq] at HN ⊢
    have hvl : valOf Vl.zero = .agg #[.int .i64 0, .int .i64 0, .string { data := #[] }, .bool false] := rfl
    simp only [hvl] at HN
    clear hvl
    go_enter Tryd.func48, Tryd.ntmps48
    go_upto_region 2 with (go_at_call 73; refine HN.out.mono ?_; rintro e W2 ⟨hO2, rfl⟩; have HO2 := hide hO2; have hd2 : W2.heap[d]? = some (.cells C t (0, 0)) := (hO2.block d hdl (by simpa using hfd.symm)).trans HD.out; have HD2 := hide hd2; clear hO2 hd2)
    have hdl2 := lt_of_heap HD2.out
    generalize hW3 : W2.alloc _ = W3
    have hbx : Box W3 W2.heap.size Vl.zero := by rw [← hW3]; exact box_new W2 Vl.zero
    have hd3 : W3.heap[d]? = some (.cells C t (0, 0)) := by rw [← hW3]; exact (Below.heap_alloc _ _ _ hdl2).trans HD2.out
    have HO3 : Hid (Off [fb, d] w W3) := by rw [← hW3]; exact (HO2.out.drop2).alloc _
    obtain ⟨c0, c1, c2, c3⟩ : W3.cell? ⟨W2.heap.size, 0, none⟩ = some (.int .i64 0) ∧ W3.cell? ⟨W2.heap.size, 1, none⟩ = some (.int .i64 0) ∧ W3.cell? ⟨W2.heap.size, 2, none⟩ = some (.string { data := #[] }) ∧ W3.cell? ⟨W2.heap.size, 3, none⟩ = some (.bool false) := hbx.cells
    have hcd : W3.cell? ⟨d, o, none⟩ = some C[o] := by rw [cell_row hd3]; simp [ho]
    have hfz := frozen_row (o := o) hd3
    clear hW3 hbx hd3
    generalize W2.heap.size = b at *
    go_wp2
    go_ret
    exact ⟨HO3.out.setCell _ _ (.inl (by simp)), rfl⟩
  | some p =>
    simp only [hq] at HN ⊢
    obtain ⟨V, r⟩ := p
    have hvl : valOf V = .agg #[.int .i64 V.ty, .int .i64 V.n, .string (strOf V.t), .bool V.b] := rfl
    simp only [hvl] at HN ⊢
    go_enter Tryd.func48, Tryd.ntmps48
    go_upto_region 2 with (go_at_call 73; refine HN.out.mono ?_; rintro e W2 ⟨hO2, rfl, hR2⟩; have HO2 := hide hO2; have HR2 := hide hR2; have hd2 : W2.heap[d]? = some (.cells C t (0, 0)) := (hO2.block d hdl (by simpa using hfd.symm)).trans HD.out; have HD2 := hide hd2; clear hO2 hd2 hR2)
    have hdl2 := lt_of_heap HD2.out
    generalize hW3 : W2.alloc _ = W3
    have hbx : Box W3 W2.heap.size V := by rw [← hW3]; exact box_new W2 V
    have hd3 : W3.heap[d]? = some (.cells C t (0, 0)) := by rw [← hW3]; exact (Below.heap_alloc _ _ _ hdl2).trans HD2.out
    have HO3 : Hid (Off [fb, d] w W3) := by rw [← hW3]; exact (HO2.out.drop2).alloc _
    have HR3 : Hid (Rd W3 fb r) := HR2.out.off (by rw [← hW3]; exact (Off.refl [] W2).alloc _) (fun k hk => by cases hk) (by simp)
    obtain ⟨c0, c1, c2, c3⟩ := hbx.cells
    have hcd : W3.cell? ⟨d, o, none⟩ = some C[o] := by rw [cell_row hd3]; simp [ho]
    have hfz := frozen_row (o := o) hd3
    have HD3 := hide hd3
    clear hW3 hbx hd3 hvl
    generalize W2.heap.size = b at *
    go_wp2
    go_ret
    refine ⟨HO3.out.setCell _ _ (.inl (by simp)), rfl, ?_, heap_set_same _ HD3.out⟩
    exact HR3.out.off (fp := [d]) ((Off.refl [d] W3).setCell _ _ (.inl (by simp))) (fun k hk cur fr hh => by
      simp at hk
      subst hk
      rw [HD3.out] at hh
      simp at hh
      exact ht hh.2.1) (by simpa using hfd)
set_option maxHeartbeats 4000000 in
theorem bool49 {w : World} {fb d o : Nat} {C : Array Value} {t : TypeId} {l : List Vl} (h : Rd w fb l) (hd : w.heap[d]? = some (.cells C t (0, 0))) (ho : o < C.size) (ht : t ≠ 32) (ht7 : t ≠ 77) :
    Calls Tryd.prog 49 #[.pointer (some ⟨fb, 0, none⟩), .pointer (some ⟨d, o, none⟩)] w (ReadEnd w fb d 3 (fun v => .bool v.b) C t o l) := by
  have HN := hide (next73 h 3)
  obtain ⟨ao, c, hf, hr⟩ := h
  have hfd : fb ≠ d := fun e => by subst e; rw [hf] at hd; simp at hd; exact ht7 hd.2.symm
  have hdl := lt_of_heap hd
  have HD := hide hd
  have HF := hide hf
  unfold ReadEnd
  unfold NextEnd at HN
  clear hf hr hd
  cases hq : takeV 3 l with
  | none =>
    simp only [hq] at HN ⊢
    have hvl : valOf Vl.zero = .agg #[.int .i64 0, .int .i64 0, .string { data := #[] }, .bool false] := rfl
    simp only [hvl] at HN
    clear hvl
    go_enter Tryd.func49, Tryd.ntmps49
    go_upto_region 2 with (go_at_call 73; refine HN.out.mono ?_; rintro e W2 ⟨hO2, rfl⟩; have HO2 := hide hO2; have hd2 : W2.heap[d]? = some (.cells C t (0, 0)) := (hO2.block d hdl (by simpa using hfd.symm)).trans HD.out; have HD2 := hide hd2; clear hO2 hd2)
    have hdl2 := lt_of_heap HD2.out
    generalize hW3 : W2.alloc _ = W3
    have hbx : Box W3 W2.heap.size Vl.zero := by rw [← hW3]; exact box_new W2 Vl.zero
    have hd3 : W3.heap[d]? = some (.cells C t (0, 0)) := by rw [← hW3]; exact (Below.heap_alloc _ _ _ hdl2).trans HD2.out
    have HO3 : Hid (Off [fb, d] w W3) := by rw [← hW3]; exact (HO2.out.drop2).alloc _
    obtain ⟨c0, c1, c2, c3⟩ : W3.cell? ⟨W2.heap.size, 0, none⟩ = some (.int .i64 0) ∧ W3.cell? ⟨W2.heap.size, 1, none⟩ = some (.int .i64 0) ∧ W3.cell? ⟨W2.heap.size, 2, none⟩ = some (.string { data := #[] }) ∧ W3.cell? ⟨W2.heap.size, 3, none⟩ = some (.bool false) := hbx.cells
    have hcd : W3.cell? ⟨d, o, none⟩ = some C[o] := by rw [cell_row hd3]; simp [ho]
    have hfz := frozen_row (o := o) hd3
    clear hW3 hbx hd3
    generalize W2.heap.size = b at *
    go_wp2
    go_ret
    exact ⟨HO3.out.setCell _ _ (.inl (by simp)), rfl⟩
  | some p =>
    simp only [hq] at HN ⊢
    obtain ⟨V, r⟩ := p
    have hvl : valOf V = .agg #[.int .i64 V.ty, .int .i64 V.n, .string (strOf V.t), .bool V.b] := rfl
    simp only [hvl] at HN ⊢
    go_enter Tryd.func49, Tryd.ntmps49
    go_upto_region 2 with (go_at_call 73; refine HN.out.mono ?_; rintro e W2 ⟨hO2, rfl, hR2⟩; have HO2 := hide hO2; have HR2 := hide hR2; have hd2 : W2.heap[d]? = some (.cells C t (0, 0)) := (hO2.block d hdl (by simpa using hfd.symm)).trans HD.out; have HD2 := hide hd2; clear hO2 hd2 hR2)
    have hdl2 := lt_of_heap HD2.out
    generalize hW3 : W2.alloc _ = W3
    have hbx : Box W3 W2.heap.size V := by rw [← hW3]; exact box_new W2 V
    have hd3 : W3.heap[d]? = some (.cells C t (0, 0)) := by rw [← hW3]; exact (Below.heap_alloc _ _ _ hdl2).trans HD2.out
    have HO3 : Hid (Off [fb, d] w W3) := by rw [← hW3]; exact (HO2.out.drop2).alloc _
    have HR3 : Hid (Rd W3 fb r) := HR2.out.off (by rw [← hW3]; exact (Off.refl [] W2).alloc _) (fun k hk => by cases hk) (by simp)
    obtain ⟨c0, c1, c2, c3⟩ := hbx.cells
    have hcd : W3.cell? ⟨d, o, none⟩ = some C[o] := by rw [cell_row hd3]; simp [ho]
    have hfz := frozen_row (o := o) hd3
    have HD3 := hide hd3
    clear hW3 hbx hd3 hvl
    generalize W2.heap.size = b at *
    go_wp2
    go_ret
    refine ⟨HO3.out.setCell _ _ (.inl (by simp)), rfl, ?_, heap_set_same _ HD3.out⟩
    exact HR3.out.off (fp := [d]) ((Off.refl [d] W3).setCell _ _ (.inl (by simp))) (fun k hk cur fr hh => by
      simp at hk
      subst hk
      rw [HD3.out] at hh
      simp at hh
      exact ht hh.2.1) (by simpa using hfd)
def CountEnd (w : World) (fb d : Nat) (l : List Vl) (e : Ending) (w' : World) : Prop := Off [fb, d] w w' ∧ match countV l with
  | none => e = .returned (.bool false)
  | some p => e = .returned (.bool true) ∧ Rd w' fb p.2 ∧ w'.heap[d]? = some (.cells #[.int .i64 (p.1 : Int)] 3 (0, 0))
set_option maxHeartbeats 4000000 in
theorem count47 {w : World} {fb d : Nat} {x : Value} {l : List Vl} (h : Rd w fb l) (hd : w.heap[d]? = some (.cells #[x] 3 (0, 0))) :
    Calls Tryd.prog 47 #[.pointer (some ⟨fb, 0, none⟩), .pointer (some ⟨d, 0, none⟩)] w (CountEnd w fb d l) := by
  have HN := hide (num48 (o := 0) h hd (by simp) (by decide) (by decide))
  unfold CountEnd
  unfold ReadEnd at HN
  clear h hd
  unfold countV
  cases hq : takeV 1 l with
  | none =>
    simp only [hq, Option.bind_none] at HN ⊢
    go_enter Tryd.func47, Tryd.ntmps47
    go_wp2_with (go_at_call 48; refine HN.out.mono ?_; rintro e W2 ⟨hO2, rfl⟩; have HO2 := hide hO2; clear hO2)
    go_ret
    exact ⟨HO2.out, rfl⟩
  | some p =>
    simp only [hq, Option.bind_some] at HN ⊢
    obtain ⟨V, r⟩ := p
    by_cases hn : V.n < 0
    · have hn' : ¬ (0 : Int) ≤ V.n := by omega
      simp only [hn, if_true] at HN ⊢
      go_enter Tryd.func47, Tryd.ntmps47
      go_wp2_with fail
      refine HN.out.mono ?_
      rintro e W2 ⟨hO2, rfl, hR2, hd2⟩
      have HO2 := hide hO2
      have hc : W2.cell? ⟨d, 0, none⟩ = some (.int .i64 V.n) := by rw [cell_row hd2]; rfl
      clear hO2 hd2 hR2 hn
      generalize V.n = n at *
      have hdn : decide ((0 : Int) ≤ n) = false := decide_eq_false (by omega)
      go_wp2
      go_ret
      exact ⟨HO2.out, by simp [hdn]⟩
    · have hn' : (0 : Int) ≤ V.n := by omega
      simp only [hn, if_false] at HN ⊢
      go_enter Tryd.func47, Tryd.ntmps47
      go_wp2_with fail
      refine HN.out.mono ?_
      rintro e W2 ⟨hO2, rfl, hR2, hd2⟩
      have HO2 := hide hO2
      have HR2 := hide hR2
      have HD2 := hide hd2
      have hc : W2.cell? ⟨d, 0, none⟩ = some (.int .i64 V.n) := by rw [cell_row hd2]; rfl
      have HTN : Hid (((V.n.toNat : Nat) : Int) = V.n) := Int.toNat_of_nonneg hn'
      clear hO2 hd2 hR2 hn
      have hdn : decide ((0 : Int) ≤ V.n) = true := decide_eq_true hn'
      go_wp2
      go_ret
      exact ⟨HO2.out, by simp [hdn], HR2.out, by rw [HTN.out]; exact HD2.out⟩
end Go.Proofs.YtplpchaceiogaaaDoor
