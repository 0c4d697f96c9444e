/- WaitPaths's walk. -/
import Derived.Test.YtaoghggbcbpapaaFrw
import Derived.Lib.SmallJoins
namespace Go.Proofs.Ytaoghggbcbpapaa
open Go.RowKit
set_option linter.unusedVariables false
set_option linter.unusedSimpArgs false

/-! ### Edges alone -/
def downs (E : List (Int × Int)) : List (Int × Int) := E.filter fun e => decide (e.2 < e.1)
theorem downs_snoc (E : List (Int × Int)) (p q : Int) : downs (E ++ [(p, q)]) = if q < p then downs E ++ [(p, q)] else downs E := by
  unfold downs
  rw [List.filter_append, List.filter_cons]
  by_cases h : q < p
  · simp [h]
  · simp [h]
theorem downs_fall (E : List (Int × Int)) : ∀ e ∈ downs E, e.2 < e.1 := fun e he => by simpa using (List.mem_filter.1 he).2
theorem downs_len (E : List (Int × Int)) : (downs E).length ≤ E.length := List.length_filter_le _ _
section
variable {M : List (Int × Int)} {u v : Int}
theorem back_no (hM : ∀ e ∈ M, e.2 < e.1) (hn : ¬ Rch (Stp (M ++ [(u, v)])) v v) (x : Int) : ¬ Rch (Stp (M ++ [(u, v)])) x x := fun r => by
  have h := up_round hM r
  exact hn (h.tail (by simp [Stp]))
structure BackIs (u v : Int) (C : List Int) : Prop where
  mid : ∀ x ∈ C, u ≤ x ∧ x ≤ v
  two : 1 < C.length
  hd : C[0]? = some u
theorem back_yes (hM : ∀ e ∈ M, e.2 < e.1) (huv : u < v) (hr : Rch (Stp (M ++ [(u, v)])) v v) {C : List Int} (hC : CycIs (M ++ [(u, v)]) u C) : BackIs u v C := by
  have h1 : Rch (Stp (M ++ [(u, v)])) v u := up_round hM hr
  have h2 : Rch (Stp (M ++ [(u, v)])) u v := Rch.one (by simp [Stp])
  have hu : u ∈ C := (hC.just u).2 ⟨h2.trans h1, h2.trans h1⟩
  have hv : v ∈ C := (hC.just v).2 ⟨h2, h1⟩
  have mid : ∀ x ∈ C, u ≤ x ∧ x ≤ v := fun x hx => by
    obtain ⟨k1, k2⟩ := (hC.just x).1 hx
    exact ⟨up_ge hM huv (Int.le_refl _) k2, up_le hM huv (by omega) k1⟩
  refine ⟨mid, ?_, ?_⟩
  · match C, hu, hv with
    | [], hu, _ => simp at hu
    | [y], hu, hv => simp at hu hv; omega
    | _ :: _ :: _, _, _ => simp
  · match C, hu, mid, hC.rise with
    | [], hu, _, _ => simp at hu
    | y :: D, hu, mid, hr =>
      rw [List.pairwise_cons] at hr
      rcases List.mem_cons.1 hu with e | e
      · subst e; rfl
      · have := hr.1 u e
        have := (mid y (by simp)).1
        omega
theorem back_vic (hM : ∀ e ∈ M, e.2 < e.1) (huv : u < v) {x : Int} {ok : Bool} (h : VicIs (M ++ [(u, v)]) v x ok) : (ok = false ∧ ¬ Rch (Stp (M ++ [(u, v)])) v v) ∨ (ok = true ∧ x = v ∧ Rch (Stp (M ++ [(u, v)])) v v) := by
  rcases h with ⟨h1, _, h2⟩ | ⟨h1, h2, h3⟩
  · exact .inl ⟨h1, h2⟩
  · have hr : Rch (Stp (M ++ [(u, v)])) v v := h2.round
    have k1 := h3 v ⟨hr, hr⟩
    have k2 := up_le hM huv (Int.le_refl _) h2.1
    exact .inr ⟨h1, by omega, hr⟩
end
theorem op_append (ρ : Operand → Value) (o : Oper) (s x : Operand) (t : TypeId) (hop : o.op = Op.call { callee := Callee.builtin Builtin.append, args := #[s, x], argTypes := #[t, t] }) {vs vx v' : Value} (hs : ρ s = vs) (hx : ρ x = vx) {P : Program} {w w' : World} (hrun : (Builtin.append_ #[t, t] o.type #[vs, vx]).run P w = .ok v' w') : (execOp ρ o).run P w = .ok (.value v') w' := by
  unfold execOp
  simp [hop, resolve, invoke, builtin, hs, hx, hrun, Result.andThen]
theorem op_bs0 (ρ : Operand → Value) (o : Oper) (ho : o.op = .buildSlice 22 0 #[]) (w : World) : (execOp ρ o).run Try.prog w = .ok (.value (.slice (some ⟨w.heap.size, 0, none⟩) 0 0)) (w.alloc (.cells #[] 24)) := by
  unfold execOp
  simp only [ho]
  kernel_rfl
theorem op_bs1 (ρ : Operand → Value) (o : Oper) (x : Operand) (ho : o.op = .buildSlice 22 1 #[(0, x)]) (p q : Int) (hx : ρ x = .agg #[.int .i64 p, .int .i64 q]) (w : World) : (execOp ρ o).run Try.prog w = .ok (.value (.slice (some ⟨w.heap.size, 0, none⟩) 1 1)) (w.alloc (.cells #[.int .i64 p, .int .i64 q] 24)) := by
  have h := run_buildS24 w p q
  unfold execOp
  simp [ho, hx, h]
/-- An append to a row of edges, as a run. -/
theorem app24 (w : World) (base : Nat) (ty : TypeId) (v : Value) (F : List (Int × Int)) (hown : w.ownsRow base 24 2 v F.length (ecells F)) (x : Value) (G : List (Int × Int)) (hx : Row w x G.length (ecells G)) (hl : F.length + G.length ≤ 1000) (hb : base ≤ w.heap.size) :
    ∃ v' w', (Builtin.append_ #[22, 22] ty #[v, x]).run Try.prog w = .ok v' w' ∧ w'.ownsRow base 24 2 v' (F ++ G).length (ecells (F ++ G)) ∧ w.grownBy w' v.ownBlock := by
  have h1 : ∀ u ∈ ecells G, u.oneCell' = true := by
    intro u hu
    unfold ecells at hu
    rw [List.mem_flatMap] at hu
    obtain ⟨e, _, he⟩ := hu
    simp at he
    rcases he with rfl | rfl <;> rfl
  obtain ⟨v', w', r1, r2, r3⟩ := run_append_row (P := Try.prog) w base 22 ty 24 (.agg #[.int .i64 0, .int .i64 0]) 2 16 Try.underlying22 Try.info24 rfl (by omega) v F.length (ecells F) hown x G.length (ecells G) hx (ecells_len G) h1 (by omega) (by omega) hb
  refine ⟨v', w', r1, ?_, r3⟩
  have e : ecells (F ++ G) = ecells F ++ ecells G := by simp [ecells]
  rw [e, List.length_append]
  exact r2
theorem run_load24 (w : World) (g o : Nat) (a b : Int) (h : w.rangeAt g o [.int .i64 a, .int .i64 b]) : (Instr.loadAt 24 (.pointer (some ⟨g, o, none⟩))).run Try.prog w = .ok (.agg #[.int .i64 a, .int .i64 b]) w := by
  have := run_loadAt_mid (P := Try.prog) w g o 24 [.int .i64 a, .int .i64 b] _ h Try.underlying24 rfl Try.size24
  simpa using this
theorem row_lt {w : World} {g n c k : Nat} {xs : List Value} (h : Row w (.slice (some ⟨g, 0, none⟩) n c) k xs) (hx : xs ≠ [] := by simp [ecells]) : g < w.heap.size := by
  obtain ⟨ao, c', e, _, _, h3⟩ := h
  injection e with e1
  obtain ⟨g', o, e2, hr⟩ := h3 hx
  rw [e2] at e1
  injection e1 with e1
  injection e1 with e1
  subst e1
  obtain ⟨y, ys, rfl⟩ := List.exists_cons_of_ne_nil hx
  have := hr 0 y rfl
  exact World.block_lt_of_cell? _ _ this
theorem row_stay {w w' : World} {g n c k : Nat} {xs : List Value} (h : Row w (.slice (some ⟨g, 0, none⟩) n c) k xs) (hb : w'.heap[g]? = w.heap[g]?) : Row w' (.slice (some ⟨g, 0, none⟩) n c) k xs := by
  obtain ⟨ao, c', e, h1, h2, h3⟩ := h
  injection e with e1 e2 e3
  subst e1 e2 e3
  refine ⟨_, _, rfl, h1, h2, fun hx => ?_⟩
  obtain ⟨g', o, e2, hr⟩ := h3 hx
  injection e2 with e2
  injection e2 with e4 e5
  subst e4 e5
  refine ⟨g, 0, rfl, fun j u hu => ?_⟩
  have := hr j u hu
  unfold World.cell? at this ⊢
  simp only at this ⊢
  rw [hb]
  exact this
theorem own_ints {w : World} {base : Nat} {v : Value} {l : List Int} (h : w.ownsRow base 3 1 v l.length (l.map icell)) (hl : l ≠ []) : ∃ g cap, v = .slice (some ⟨g, 0, none⟩) l.length cap ∧ g < w.heap.size ∧ ∀ (i : Nat) (x : Int), l[i]? = some x → w.cell? ⟨g, i, none⟩ = some (.int .i64 x) := by
  rcases own_of h with ⟨h1, h2, _⟩ | ⟨g, cap, cur, rfl, h1, h2, h3, h4, h5, h6⟩
  · exact absurd (List.eq_nil_of_length_eq_zero h2) hl
  · refine ⟨g, cap, rfl, lt_of_heap h2, fun i x hx => ?_⟩
    obtain ⟨a, c, e, hc⟩ := int_cells (Row.of_owns h)
    injection e with e1
    obtain ⟨g', o, e2, _, hcell⟩ := hc i x hx
    rw [e2] at e1
    injection e1 with e1
    injection e1 with e3 e4
    subst e3 e4
    rw [Nat.zero_add] at hcell
    exact hcell
theorem own_none (w : World) (base : Nat) (hb : base ≤ w.heap.size) : (w.alloc (.cells #[] 24)).ownsRow base 24 2 (.slice (some ⟨w.heap.size, 0, none⟩) 0 0) ([] : List (Int × Int)).length (ecells []) :=
  ⟨rfl, .inr ⟨w.heap.size, 0, #[], rfl, hb, heap_alloc_new _ _, Nat.le_refl _, by simp [maxLen], rfl, rfl⟩⟩
theorem row_one (w : World) (p q : Int) : Row (w.alloc (.cells #[.int .i64 p, .int .i64 q] 24)) (.slice (some ⟨w.heap.size, 0, none⟩) 1 1) [(p, q)].length (ecells [(p, q)]) := row_new w 24 [.int .i64 p, .int .i64 q] 1 (by omega)
theorem edge_arg {H : Type} {enc : TypeId × Value → H} {W : World} {r : Reach} {base : Nat} {held : Bool} {v : Value} {d : DataW H} {p : List MemPlace} (hv : Value.okWide Try.prog W r base 24 v) (h : DataW.Trod enc Try.prog W 0 (fun _ => true) held 24 v d p) : ∃ x y, v = .agg #[.int .i64 x, .int .i64 y] := by
  obtain ⟨v0, v1, y0, y1, n, rfl, _, _, h0, h1⟩ := Joins.open_agg2 Try.underlying24 (by kernel_rfl) (by kernel_rfl) hv h
  obtain ⟨i0, q0, _⟩ := DataW.trod_int Try.underlying3 h0
  obtain ⟨i1, q1, _⟩ := DataW.trod_int Try.underlying3 h1
  simp only [List.cons.injEq, and_true] at q0 q1
  subst q0 q1
  exact ⟨i0, i1, rfl⟩
/-- The box of an edge, which stays. -/
def BoxAt (w : World) (g : Nat) (u v : Int) : Prop := w.heap[g]? = some (.cells #[.int .i64 u, .int .i64 v] 24 (0, 0))
theorem BoxAt.c0 {w : World} {g : Nat} {u v : Int} (h : BoxAt w g u v) : w.cell? ⟨g, 0, none⟩ = some (.int .i64 u) := by rw [cell_row h]; rfl
theorem BoxAt.c1 {w : World} {g : Nat} {u v : Int} (h : BoxAt w g u v) : w.cell? ⟨g, 1, none⟩ = some (.int .i64 v) := by rw [cell_row h]; rfl
theorem BoxAt.belowW {w w' : World} {g : Nat} {u v : Int} (h : BoxAt w g u v) (hb : Below w.heap.size w w') : BoxAt w' g u v := (hb.block g (lt_of_heap h)).trans h
theorem BoxAt.range {w : World} {g : Nat} {u v : Int} (h : BoxAt w g u v) : w.rangeAt g 0 [.int .i64 u, .int .i64 v] := fun j x hx => by
  rw [Nat.zero_add, cell_row h]
  simpa using hx
theorem edges_row {w : World} {a : Option Addr} {n c : Nat} {E : List (Int × Int)} (h : EdgesAt w a E) (hn : E.length = n) (hc : n ≤ c) (hm : c ≤ maxLen) : Row w (.slice a n c) E.length (ecells E) := by
  subst hn
  refine ⟨a, c, rfl, hc, hm, fun hne => ?_⟩
  have hE : E ≠ [] := by rintro rfl; exact hne rfl
  obtain ⟨e0, h0⟩ : ∃ e, E[0]? = some e := ⟨_, List.getElem?_eq_getElem (List.length_pos_iff.2 hE)⟩
  obtain ⟨g, o, rfl, _, _⟩ := h.at' 0 e0 h0
  refine ⟨g, o, rfl, fun j x hx => ?_⟩
  have hj := (List.getElem?_eq_some_iff.1 hx).1
  rw [ecells_len] at hj
  obtain ⟨e, he⟩ : ∃ e, E[j / 2]? = some e := ⟨_, List.getElem?_eq_getElem (by omega)⟩
  obtain ⟨g', o', e1, _, hr⟩ := h.at' (j / 2) e he
  injection e1 with e1
  injection e1 with e2 e3
  subst e2 e3
  obtain ⟨k1, k2⟩ := ecells_get E (j / 2) e he
  rcases Nat.mod_two_eq_zero_or_one j with hm2 | hm2
  · have ej : j / 2 * 2 = j := by omega
    rw [ej] at k1
    rw [hx] at k1
    injection k1 with k1
    subst k1
    have := hr 0 _ rfl
    rw [show o + j / 2 * 2 + 0 = o + j by omega] at this
    exact this
  · have ej : j / 2 * 2 + 1 = j := by omega
    rw [ej] at k2
    rw [hx] at k2
    injection k2 with k2
    subst k2
    have := hr 1 _ rfl
    rw [show o + j / 2 * 2 + 1 = o + j by omega] at this
    exact this
set_option maxHeartbeats 8000000 in
set_option maxRecDepth 100000 in
theorem paths_walk (a : Option Addr) (n c : Nat) (u v : Int) (w : World) (h1 : n ≤ 9223372036854775807) (h2 : n ≤ 1000000 → ∃ E : List (Int × Int), E.length = n ∧ EdgesAt w a E) :
    Calls Try.prog 3 #[.slice a n c, .agg #[.int .i64 u, .int .i64 v]] w fun e w' => e = .returned (.bool true) ∧ Below w.heap.size w w' := by
  have HAW : Hid (∀ W, Calls Try.prog 7 #[] W fun e w' => e = .returned (.bool true) ∧ Below W.heap.size W w') := awake_any
  have h2' := hide h2
  clear h2
  have hB0 : Below w.heap.size w (w.alloc (.cells #[.int .i64 u, .int .i64 v] 24)) := (Below.refl _ w).alloc (Nat.le_refl _) _
  have HB0 := hide hB0
  clear hB0
  by_cases hbig : 20 < n
  · go_enter Try.func3, Try.ntmps3
    go_wp2_with (go_at_call 7; refine (HAW.out _).mono ?_; rintro e w1 ⟨rfl, hb1⟩)
    go_ret
    exact ⟨rfl, bt HB0.out (Nat.le_refl _) hb1⟩
  obtain ⟨E, hn, hE⟩ := h2'.out (by omega)
  have HN := hide hn
  have HBX : Hid (BoxAt (w.alloc (.cells #[.int .i64 u, .int .i64 v] 24)) w.heap.size u v) := heap_alloc_new w _
  have HE : Hid (EdgesAt (w.alloc (.cells #[.int .i64 u, .int .i64 v] 24)) a E) := hE.belowW HB0.out
  clear h2' hn hE h1
  have hb2 := run_buildS24
  go_enter Try.func3, Try.ntmps3
  go_upto_region 4 with fail
  generalize w.alloc (.cells #[.int .i64 u, .int .i64 v] 24) = w0 at *
  go_wp2
  go_loopw [5, 6] (fun x i wr => ∃ (k : Nat) (M : List (Int × Int)), k ≤ n ∧ i = .int .i64 k ∧ M = downs (E.take k) ∧ wr.ownsRow w0.heap.size 24 2 x M.length (ecells M) ∧ Below w0.heap.size w0 wr) (fun _ i _ => n - (intOf i).toNat)
  case atStart => exact ⟨0, [], by omega, rfl, by simp [downs], ⟨rfl, .inl ⟨rfl, rfl⟩⟩, Below.refl _ _⟩
  case round =>
    obtain ⟨k, M, hk, rfl, hM, hrow, hB⟩ := hrel
    have hMl : M.length ≤ k := by
      have k1 := downs_len (E.take k)
      have k2 := List.length_take_le k E
      rw [hM]
      omega
    have HM := hide hM
    have HROW := hide hrow
    have HB := hide hB
    clear hM hrow hB
    by_cases hlt : k < n
    · obtain ⟨⟨p, q⟩, hx⟩ : ∃ x, E[k]? = some x := ⟨_, List.getElem?_eq_getElem (by rw [HN.out]; exact hlt)⟩
      obtain ⟨b, o, hab, hbl, hrg⟩ := HE.out.at' k _ hx
      subst hab
      have HRG : Hid (wr.rangeAt b (o + k * 2) [.int .i64 p, .int .i64 q]) := fun j x hx => (HB.out.cell (p := ⟨b, o + k * 2 + j, none⟩) hbl).trans (hrg j x hx)
      have hc0 : ∀ m, (wr.drewN m).cell? ⟨b, o + k * 2, none⟩ = some (.int .i64 p) := fun m => HRG.out 0 _ rfl
      have hc1 : ∀ m, (wr.drewN m).cell? ⟨b, o + k * 2 + 1, none⟩ = some (.int .i64 q) := fun m => HRG.out 1 _ rfl
      have HTK : Hid (E.take (k + 1) = E.take k ++ [(p, q)]) := take_snoc hx
      clear hrg hx
      by_cases hpq : q < p
      · have hd : decide (p > q) = true := by simp; omega
        have HDS : Hid (downs (E.take k ++ [(p, q)]) = M ++ [(p, q)]) := by rw [HM.out]; show _ = _; rw [downs_snoc, if_pos hpq]
        go_upto_region 7 with fail
        go_quiet (fail)
        generalize hxx : World.drewN _ _ = x2
        have hdw : Below wr.heap.size wr x2 := by rw [← hxx]; exact below_drewN _ _ _
        have HRG2 : Hid (x2.rangeAt b (o + k * 2) [.int .i64 p, .int .i64 q]) := rangeAt_below HRG.out hdw (Nat.le_refl _)
        have HB1 : Hid (Below w0.heap.size w0 x2) := bt HB.out (Nat.le_refl _) hdw
        have HROW1 := hide (owns_below HROW.out hdw (Nat.le_refl _))
        clear hxx hdw hc0 hc1 HRG HB HROW
        have HR2 := hide (row_new x2 24 [.int .i64 p, .int .i64 q] 1 (by omega))
        have HB2 : Hid (Below w0.heap.size w0 (x2.alloc (.cells #[.int .i64 p, .int .i64 q] 24))) := HB1.out.trans ((Below.refl _ x2).alloc HB1.out.size _)
        have HO2 : Hid ((x2.alloc (.cells #[.int .i64 p, .int .i64 q] 24)).ownsRow w0.heap.size 24 2 u5 M.length (ecells M)) := owns_below HROW1.out ((Below.refl _ x2).alloc (Nat.le_refl _) _) (Nat.le_refl _)
        go_wp2_with (first
          | (refine wpList_load_mid rfl 24 _ rfl b (o + k * 2) rfl [.int .i64 p, .int .i64 q] _ HRG2.out Try.underlying24 rfl Try.size24 ?_)
          | (refine wpList_append_row rfl (.tmp 36) (.tmp 41) 22 rfl w0.heap.size 24 (.agg #[.int .i64 0, .int .i64 0]) 2 16 Try.underlying22 Try.info24 rfl (by omega) _ _ _ _ 1 _ rfl rfl HO2.out HR2.out rfl (by simp [Value.oneCell']) (by omega) (by omega) HB2.out.size ?_; intro v7 w7 ho7 hg7))
        go_roundw
        case rel =>
          refine ⟨k + 1, M ++ [(p, q)], by omega, by go_num, by rw [HTK.out, HDS.out], ?_, HB2.out.grown hg7 HB2.out.size (fun k hk => (HO2.out.lt k hk).1)⟩
          rw [ecells_snoc, List.length_append]
          exact ho7
        case measure => simp [intOf]; omega
      · have hd : decide (p > q) = false := by simp; omega
        have HDS : Hid (downs (E.take k ++ [(p, q)]) = M) := by rw [HM.out]; show _ = _; rw [downs_snoc, if_neg hpq]
        go_upto_region 7 with fail
        go_quiet (fail)
        go_wp2
        go_roundw
        case rel => exact ⟨k + 1, M, by omega, by go_num, by rw [HTK.out, HDS.out], owns_below HROW.out (below_drewN _ _ _) (Nat.le_refl _), below_drewN' HB.out _⟩
        case measure => simp [intOf]; omega
    · have HMF : Hid (∀ e ∈ M, e.2 < e.1) := by rw [HM.out]; exact downs_fall _
      generalize wr = w1 at *
      obtain ⟨a1, c1, e1, hE1⟩ := EdgesAt.of_owns HROW.out (by omega)
      obtain ⟨hcc, hcm⟩ : M.length ≤ c1 ∧ c1 ≤ maxLen := by
        rcases own_of HROW.out with ⟨e2, h0, _⟩ | ⟨g, cap, cur, e2, _, _, h3, h4, _⟩
        · rw [e1] at e2
          injection e2 with _ e3 e4
          rw [e4, h0]
          exact ⟨Nat.le_refl _, by simp [maxLen]⟩
        · rw [e1] at e2
          injection e2 with _ e3 e4
          rw [e4]
          exact ⟨h3, h4⟩
      subst e1
      obtain ⟨m, hm⟩ : ∃ m, M.length = m := ⟨_, rfl⟩
      have HML := hide hm
      rw [hm] at hMl hcc ⊢
      have HE1 := hide hE1
      have HB1 := hide (show Below w0.heap.size w0 w1 from HB.out)
      have HCC := hide (And.intro hcc hcm)
      have HVI : Hid (∀ W fr, Below w1.heap.size w1 W → Calls Try.prog 8 #[.slice a1 m c1, .int .i64 fr] W fun e w' => ∃ x, e = .returned (.tuple #[.int .i64 x, .bool false]) ∧ Below W.heap.size W w') := fun W fr hb => by
        have h := victim_any (c := c1) (HE1.out.belowW hb) fr
        rw [HML.out] at h
        refine h.mono ?_
        rintro e w' ⟨x, ok, rfl, h2, h4⟩
        rcases h2 with ⟨rfl, _⟩ | ⟨_, h2, _⟩
        · exact ⟨x, rfl, h4⟩
        · exact absurd h2.round (fall_none HMF.out fr)
      have HFR : Hid (∀ W, Below w1.heap.size w1 W → Calls Try.prog 9 #[.slice a1 m c1] W fun e w' => ∃ a2 c2, e = .returned (.slice a2 m c2) ∧ Below W.heap.size W w') := fun W hb => by
        have h := free_any (c := c1) (HE1.out.belowW hb)
        rw [HML.out] at h
        refine h.mono ?_
        rintro e w' ⟨x, F, rfl, h2, h3, h4⟩
        have := h3.all (fall_none HMF.out)
        subst this
        obtain ⟨a2, c2, rfl⟩ := owns_len h2
        rw [HML.out]
        exact ⟨a2, c2, rfl, h4⟩
      clear HROW HB hE1 hm hcc hcm HM
      go_wp2
      go_loopw [7] (fun i wr => ∃ k : Nat, k ≤ m ∧ i = .int .i64 k ∧ Below w1.heap.size w1 wr) (fun i _ => m - (intOf i).toNat)
      case atStart => exact ⟨0, by omega, rfl, Below.refl _ _⟩
      case round =>
        obtain ⟨k, hk, rfl, hB⟩ := hrel
        have HB := hide hB
        clear hB
        by_cases hlt : k < m
        · obtain ⟨⟨p, q⟩, hx⟩ : ∃ x, M[k]? = some x := ⟨_, List.getElem?_eq_getElem (by rw [HML.out]; exact hlt)⟩
          obtain ⟨b, o, hab, hbl, hrg⟩ := HE1.out.at' k _ hx
          subst hab
          have hc0 : wr.cell? ⟨b, o + k * 2, none⟩ = some (.int .i64 p) := (HB.out.cell (p := ⟨b, o + k * 2, none⟩) hbl).trans (hrg 0 _ rfl)
          have HC := hide (HVI.out wr p HB.out)
          clear hrg hx
          go_wp2_with (go_at_call 8; refine HC.out.mono ?_; rintro e w2 ⟨x2, rfl, hb2'⟩)
          go_roundw
          case rel => exact ⟨k + 1, by omega, by go_num, bt HB.out (Nat.le_refl _) hb2'⟩
          case measure => simp [intOf]; omega
        · generalize wr = w2 at *
          have HB2 := hide (show Below w1.heap.size w1 w2 from HB.out)
          have HBX2 : Hid (BoxAt w2 w.heap.size u v) := (HBX.out.belowW HB1.out).belowW HB2.out
          have HF2 := hide (HFR.out w2 HB2.out)
          clear HB HVI
          by_cases huv : v ≤ u
          · go_upto_if 72 with (go_at_call 9; refine HF2.out.mono ?_; rintro e w3 ⟨a3, c3, rfl, hb3⟩; have k30 := (HBX2.out.belowW hb3).c0; have k31 := (HBX2.out.belowW hb3).c1; have HB3 := hide hb3; clear hb3)
            have HF3 := hide (HFR.out w3 (bt HB2.out (Nat.le_refl _) HB3.out))
            clear k30 k31 HF2
            go_wp2_with (first
              | (go_at_call 9; refine HF3.out.mono ?_; rintro e w4 ⟨a4, c4, rfl, hb4⟩; have HB4 := hide hb4; clear hb4)
              | (go_at_call 7; refine (HAW.out _).mono ?_; rintro e w5 ⟨rfl, hb5⟩))
            go_ret
            exact ⟨rfl, bt HB0.out (Nat.le_refl _) (bt HB1.out (Nat.le_refl _) (bt HB2.out (Nat.le_refl _) (bt HB3.out (Nat.le_refl _) (bt HB4.out (Nat.le_refl _) hb5))))⟩
          · have huv' : u < v := by omega
            go_upto_region 17 with (go_at_call 9; refine HF2.out.mono ?_; rintro e w3 ⟨a3, c3, rfl, hb3⟩; have k30 := (HBX2.out.belowW hb3).c0; have k31 := (HBX2.out.belowW hb3).c1; have HB3 := hide hb3; clear hb3)
            have HBX3 : Hid (BoxAt w3 w.heap.size u v) := HBX2.out.belowW HB3.out
            have HB13 : Hid (Below w1.heap.size w1 w3) := bt HB2.out (Nat.le_refl _) HB3.out
            have HRW3 : Hid (Row w3 (.slice a1 m c1) M.length (ecells M)) := (edges_row HE1.out HML.out HCC.out.1 HCC.out.2).belowW HB13.out
            clear k30 k31 HF2 HBX2 HB2 HB3
            go_cut [10] from 82 to 87 (fun x wx => ∃ a2 c2, x = .slice a2 (m + 1) c2 ∧ EdgesAt wx a2 (M ++ [(u, v)]) ∧ Below w3.heap.size w3 wx)
            case first =>
              have hX : Below w3.heap.size w3 w3.drew := (Below.refl _ w3).drew
              refine wp_region_held_drew (S := fun W => BoxAt W w.heap.size u v) (by kernel_rfl) HBX3.out (fun hH => ?_)
              have hRX : Row w3.drew (.slice a1 m c1) M.length (ecells M) := HRW3.out.belowW hX
              have hXs : w3.heap.size ≤ w3.drew.heap.size := hX.size
              replace hH : BoxAt w3.drew w.heap.size u v := hH
              generalize w3.drew = X at *
              refine take_to 1 83 (.slice a1 m c1) rfl (by kernel_rfl) (by kernel_rfl) (by kernel_rfl) (fun _ _ _ h => h) rfl (by rfl) (fun w hw => by rfl) hH ?_
              simp only [Act.put, List.setIfInBounds_toArray, List.set_cons_zero, List.set_cons_succ]
              refine take_to 3 85 (.agg #[.int .i64 u, .int .i64 v]) rfl (by kernel_rfl) (by kernel_rfl) (by kernel_rfl) (fun _ _ _ h => h) rfl (by rfl) (fun W hw => op_load _ _ 24 (.tmp 3) rfl (.pointer (some ⟨w.heap.size, 0, none⟩)) _ rfl (run_load24 W _ 0 u v hw.range)) hH ?_
              simp only [Act.put, List.setIfInBounds_toArray, List.set_cons_zero, List.set_cons_succ]
              refine wpAnyH_all (rs := [0, 4]) (by kernel_rfl) (by simp) ?_
              intro nn hnn
              rcases (by simpa using hnn : nn = 0 ∨ nn = 4) with rfl | rfl
              · have hb0 : Below X.heap.size X (X.alloc (.cells #[] 24)) := (Below.refl _ _).alloc (Nat.le_refl _) _
                have ho0 := own_none X w3.heap.size hXs
                have hr0 := hRX.belowW hb0
                have hx0 := hH.belowW hb0
                have hc0 : Below w3.heap.size w3 (X.alloc (.cells #[] 24)) := bt hX (Nat.le_refl _) hb0
                refine op_to 82 (.slice (some ⟨X.heap.size, 0, none⟩) 0 0) (X.alloc (.cells #[] 24)) rfl rfl (by rfl) (op_bs0 _ _ rfl X) ⟨hx0, ?_⟩
                simp only [Act.put, List.setIfInBounds_toArray, List.set_cons_zero, List.set_cons_succ]
                revert hb0 ho0 hr0 hx0 hc0
                generalize (⟨X.heap.size, 0, none⟩ : Addr) = ad0
                generalize X.alloc (.cells #[] 24) = Y0
                intro hb0 ho0 hr0 hx0 hc0
                refine wpAnyH_all (rs := [2, 4]) (by kernel_rfl) (by simp) ?_
                intro nn hnn
                rcases (by simpa using hnn : nn = 2 ∨ nn = 4) with rfl | rfl
                · obtain ⟨v2, Y2, hrun2, ho2, hg2⟩ := app24 Y0 w3.heap.size 22 _ _ ho0 _ M hr0 (by simp; have := HML.out; omega) hc0.size
                  have hx2 : BoxAt Y2 w.heap.size u v := (hg2.block _ (lt_of_heap hx0) (fun e => by have := (ho0.lt _ e.symm).1; have := lt_of_heap HBX3.out; omega)).trans hx0
                  have hc2 : Below w3.heap.size w3 Y2 := hc0.grown hg2 hc0.size (fun k hk => (ho0.lt k hk).1)
                  refine op_to 84 v2 Y2 rfl rfl (by rfl) (op_append _ _ (.tmp 82) (.tmp 83) 22 rfl rfl rfl hrun2) ⟨hx2, ?_⟩
                  simp only [Act.put, List.setIfInBounds_toArray, List.set_cons_zero, List.set_cons_succ]
                  have hb4 : Below Y2.heap.size Y2 (Y2.alloc (.cells #[.int .i64 u, .int .i64 v] 24)) := (Below.refl _ _).alloc (Nat.le_refl _) _
                  have hr4 := row_one Y2 u v
                  have ho4 := owns_below ho2 hb4 (Nat.le_refl _)
                  have hx4 := hx2.belowW hb4
                  have hc4 : Below w3.heap.size w3 (Y2.alloc (.cells #[.int .i64 u, .int .i64 v] 24)) := bt hc2 (Nat.le_refl _) hb4
                  refine step_to 4 86 (.slice (some ⟨Y2.heap.size, 0, none⟩) 1 1) (Y2.alloc (.cells #[.int .i64 u, .int .i64 v] 24)) rfl (by kernel_rfl) rfl (by rfl) (op_bs1 _ _ (.tmp 85) rfl u v rfl Y2) hx4 ?_
                  simp only [Act.put, List.setIfInBounds_toArray, List.set_cons_zero, List.set_cons_succ]
                  revert hb4 hr4 ho4 hx4 hc4
                  generalize (⟨Y2.heap.size, 0, none⟩ : Addr) = ad4
                  generalize Y2.alloc (.cells #[.int .i64 u, .int .i64 v] 24) = Y4
                  intro hb4 hr4 ho4 hx4 hc4
                  obtain ⟨v5, Y5, hrun5, ho5, hg5⟩ := app24 Y4 w3.heap.size 22 _ _ ho4 _ [(u, v)] hr4 (by rw [List.nil_append]; simp; have := HML.out; omega) hc4.size
                  have hx5 : BoxAt Y5 w.heap.size u v := (hg5.block _ (lt_of_heap hx4) (fun e => by have := (ho4.lt _ e.symm).1; have := lt_of_heap HBX3.out; omega)).trans hx4
                  have hc5 : Below w3.heap.size w3 Y5 := hc4.grown hg5 hc4.size (fun k hk => (ho4.lt k hk).1)
                  rw [List.nil_append] at ho5
                  refine step_to 5 87 v5 Y5 rfl (by kernel_rfl) rfl (by rfl) (op_append _ _ (.tmp 84) (.tmp 86) 22 rfl rfl rfl hrun5) hx5 ?_
                  simp only [Act.put, List.setIfInBounds_toArray, List.set_cons_zero, List.set_cons_succ]
                  refine step_to 6 10 v5 Y5 rfl (by kernel_rfl) rfl (by rfl) (by rfl) hx5 ?_
                  simp only [Act.put, List.setIfInBounds_toArray, List.set_cons_zero, List.set_cons_succ]
                  refine wpAnyH_done (by kernel_rfl) ?_ _
                  go_wp2_with fail
                  go_meet
                  obtain ⟨a9, c9, e9, hE9⟩ := EdgesAt.of_owns ho5 (by rw [List.length_append]; simp; have := HML.out; omega)
                  refine ⟨a9, c9, ?_, hE9, hc5⟩
                  rw [e9, List.length_append, HML.out]
                  rfl
                · have hb4 : Below Y0.heap.size Y0 (Y0.alloc (.cells #[.int .i64 u, .int .i64 v] 24)) := (Below.refl _ _).alloc (Nat.le_refl _) _
                  have hr4a := row_one Y0 u v
                  have ho4a := owns_below ho0 hb4 (Nat.le_refl _)
                  have hx4a := hx0.belowW hb4
                  have hr0a := hr0.belowW hb4
                  have hc4a : Below w3.heap.size w3 (Y0.alloc (.cells #[.int .i64 u, .int .i64 v] 24)) := bt hc0 (Nat.le_refl _) hb4
                  refine op_to 86 (.slice (some ⟨Y0.heap.size, 0, none⟩) 1 1) (Y0.alloc (.cells #[.int .i64 u, .int .i64 v] 24)) rfl rfl (by rfl) (op_bs1 _ _ (.tmp 85) rfl u v rfl Y0) ⟨hx4a, ?_⟩
                  simp only [Act.put, List.setIfInBounds_toArray, List.set_cons_zero, List.set_cons_succ]
                  revert hb4 hr4a ho4a hx4a hr0a hc4a
                  have hlt4 : w3.heap.size ≤ Y0.heap.size := hc0.size
                  have had : ∀ k, (Value.slice (some ad0) 0 0).ownBlock = some k → k < Y0.heap.size := fun k hk => (ho0.lt k hk).2
                  revert hlt4 had
                  generalize hz : Y0.heap.size = z
                  generalize Y0.alloc (.cells #[.int .i64 u, .int .i64 v] 24) = Y1
                  intro hlt4 had hb4 hr4a ho4a hx4a hr0a hc4a
                  obtain ⟨v2, Y2, hrun2, ho2, hg2⟩ := app24 Y1 w3.heap.size 22 _ _ ho4a _ M hr0a (by simp; have := HML.out; omega) hc4a.size
                  have hx2 : BoxAt Y2 w.heap.size u v := (hg2.block _ (lt_of_heap hx4a) (fun e => by have := (ho4a.lt _ e.symm).1; have := lt_of_heap HBX3.out; omega)).trans hx4a
                  have hc2 : Below w3.heap.size w3 Y2 := hc4a.grown hg2 hc4a.size (fun k hk => (ho4a.lt k hk).1)
                  refine step_to 2 84 v2 Y2 rfl (by kernel_rfl) rfl (by rfl) (op_append _ _ (.tmp 82) (.tmp 83) 22 rfl rfl rfl hrun2) hx2 ?_
                  simp only [Act.put, List.setIfInBounds_toArray, List.set_cons_zero, List.set_cons_succ]
                  have hr4 : Row Y2 (.slice (some ⟨z, 0, none⟩) 1 1) [(u, v)].length (ecells [(u, v)]) := row_stay hr4a (hg2.block z (row_lt hr4a) (fun e => by have := had z e.symm; omega))
                  have ho4 := ho2
                  have hx4 := hx2
                  have hc4 := hc2
                  obtain ⟨v5, Y5, hrun5, ho5, hg5⟩ := app24 Y2 w3.heap.size 22 _ _ ho4 _ [(u, v)] hr4 (by rw [List.nil_append]; simp; have := HML.out; omega) hc4.size
                  have hx5 : BoxAt Y5 w.heap.size u v := (hg5.block _ (lt_of_heap hx4) (fun e => by have := (ho4.lt _ e.symm).1; have := lt_of_heap HBX3.out; omega)).trans hx4
                  have hc5 : Below w3.heap.size w3 Y5 := hc4.grown hg5 hc4.size (fun k hk => (ho4.lt k hk).1)
                  rw [List.nil_append] at ho5
                  refine step_to 5 87 v5 Y5 rfl (by kernel_rfl) rfl (by rfl) (op_append _ _ (.tmp 84) (.tmp 86) 22 rfl rfl rfl hrun5) hx5 ?_
                  simp only [Act.put, List.setIfInBounds_toArray, List.set_cons_zero, List.set_cons_succ]
                  refine step_to 6 10 v5 Y5 rfl (by kernel_rfl) rfl (by rfl) (by rfl) hx5 ?_
                  simp only [Act.put, List.setIfInBounds_toArray, List.set_cons_zero, List.set_cons_succ]
                  refine wpAnyH_done (by kernel_rfl) ?_ _
                  go_wp2_with fail
                  go_meet
                  obtain ⟨a9, c9, e9, hE9⟩ := EdgesAt.of_owns ho5 (by rw [List.length_append]; simp; have := HML.out; omega)
                  refine ⟨a9, c9, ?_, hE9, hc5⟩
                  rw [e9, List.length_append, HML.out]
                  rfl
              · have hb4 : Below X.heap.size X (X.alloc (.cells #[.int .i64 u, .int .i64 v] 24)) := (Below.refl _ _).alloc (Nat.le_refl _) _
                have hr4a := row_one X u v
                have hx4a := hH.belowW hb4
                have hr0a := hRX.belowW hb4
                have hc4a : Below w3.heap.size w3 (X.alloc (.cells #[.int .i64 u, .int .i64 v] 24)) := bt hX (Nat.le_refl _) hb4
                refine op_to 86 (.slice (some ⟨X.heap.size, 0, none⟩) 1 1) (X.alloc (.cells #[.int .i64 u, .int .i64 v] 24)) rfl rfl (by rfl) (op_bs1 _ _ (.tmp 85) rfl u v rfl X) ⟨hx4a, ?_⟩
                simp only [Act.put, List.setIfInBounds_toArray, List.set_cons_zero, List.set_cons_succ]
                revert hb4 hr4a hx4a hr0a hc4a
                generalize hz : X.heap.size = z
                generalize X.alloc (.cells #[.int .i64 u, .int .i64 v] 24) = Y1
                intro hb4 hr4a hx4a hr0a hc4a
                have hzl : z < Y1.heap.size := row_lt hr4a
                have hb0 : Below Y1.heap.size Y1 (Y1.alloc (.cells #[] 24)) := (Below.refl _ _).alloc (Nat.le_refl _) _
                have ho0 := own_none Y1 w3.heap.size hc4a.size
                have hne0 : ∀ k, (Value.slice (some ⟨Y1.heap.size, 0, none⟩) 0 0).ownBlock = some k → z < k := fun k hk => (by have : Y1.heap.size = k := (by simpa [Value.ownBlock] using hk); omega)
                have hr0 := hr0a.belowW hb0
                have hx0 := hx4a.belowW hb0
                have hr4b := hr4a.belowW hb0
                have hc0 : Below w3.heap.size w3 (Y1.alloc (.cells #[] 24)) := bt hc4a (Nat.le_refl _) hb0
                refine step_to 0 82 (.slice (some ⟨Y1.heap.size, 0, none⟩) 0 0) (Y1.alloc (.cells #[] 24)) rfl (by kernel_rfl) rfl (by rfl) (op_bs0 _ _ rfl Y1) hx0 ?_
                simp only [Act.put, List.setIfInBounds_toArray, List.set_cons_zero, List.set_cons_succ]
                revert hb0 ho0 hne0 hr0 hx0 hr4b hc0
                generalize (⟨Y1.heap.size, 0, none⟩ : Addr) = ad0
                generalize Y1.alloc (.cells #[] 24) = Y0
                intro hb0 ho0 hne0 hr0 hx0 hr4b hc0
                obtain ⟨v2, Y2, hrun2, ho2, hg2⟩ := app24 Y0 w3.heap.size 22 _ _ ho0 _ M hr0 (by simp; have := HML.out; omega) hc0.size
                have hx2 : BoxAt Y2 w.heap.size u v := (hg2.block _ (lt_of_heap hx0) (fun e => by have := (ho0.lt _ e.symm).1; have := lt_of_heap HBX3.out; omega)).trans hx0
                have hc2 : Below w3.heap.size w3 Y2 := hc0.grown hg2 hc0.size (fun k hk => (ho0.lt k hk).1)
                refine step_to 2 84 v2 Y2 rfl (by kernel_rfl) rfl (by rfl) (op_append _ _ (.tmp 82) (.tmp 83) 22 rfl rfl rfl hrun2) hx2 ?_
                simp only [Act.put, List.setIfInBounds_toArray, List.set_cons_zero, List.set_cons_succ]
                have hr4 : Row Y2 (.slice (some ⟨z, 0, none⟩) 1 1) [(u, v)].length (ecells [(u, v)]) := row_stay hr4b (hg2.block z (row_lt hr4b) (fun e => by have := hne0 z e.symm; omega))
                have ho4 := ho2
                have hx4 := hx2
                have hc4 := hc2
                obtain ⟨v5, Y5, hrun5, ho5, hg5⟩ := app24 Y2 w3.heap.size 22 _ _ ho4 _ [(u, v)] hr4 (by rw [List.nil_append]; simp; have := HML.out; omega) hc4.size
                have hx5 : BoxAt Y5 w.heap.size u v := (hg5.block _ (lt_of_heap hx4) (fun e => by have := (ho4.lt _ e.symm).1; have := lt_of_heap HBX3.out; omega)).trans hx4
                have hc5 : Below w3.heap.size w3 Y5 := hc4.grown hg5 hc4.size (fun k hk => (ho4.lt k hk).1)
                rw [List.nil_append] at ho5
                refine step_to 5 87 v5 Y5 rfl (by kernel_rfl) rfl (by rfl) (op_append _ _ (.tmp 84) (.tmp 86) 22 rfl rfl rfl hrun5) hx5 ?_
                simp only [Act.put, List.setIfInBounds_toArray, List.set_cons_zero, List.set_cons_succ]
                refine step_to 6 10 v5 Y5 rfl (by kernel_rfl) rfl (by rfl) (by rfl) hx5 ?_
                simp only [Act.put, List.setIfInBounds_toArray, List.set_cons_zero, List.set_cons_succ]
                refine wpAnyH_done (by kernel_rfl) ?_ _
                go_wp2_with fail
                go_meet
                obtain ⟨a9, c9, e9, hE9⟩ := EdgesAt.of_owns ho5 (by rw [List.length_append]; simp; have := HML.out; omega)
                refine ⟨a9, c9, ?_, hE9, hc5⟩
                rw [e9, List.length_append, HML.out]
                rfl
            case rest =>
              obtain ⟨a4, c4, rfl, hE4, hb4⟩ := hcut
              have HE4 := hide hE4
              have HB4 := hide hb4
              have HBX4 := hide (HBX3.out.belowW hb4)
              have hLm : (M ++ [(u, v)]).length = m + 1 := by rw [List.length_append, HML.out]; rfl
              have HLM := hide hLm
              have HCY := hide (cycle_any (c := c4) hE4 u)
              rw [hLm] at HCY
              have HVI : Hid (∀ W, Below wc.heap.size wc W → Calls Try.prog 8 #[.slice a4 (m + 1) c4, .int .i64 v] W fun e w' => ∃ x ok, e = .returned (.tuple #[.int .i64 x, .bool ok]) ∧ ((ok = false ∧ ¬ Rch (Stp (M ++ [(u, v)])) v v) ∨ (ok = true ∧ x = v ∧ Rch (Stp (M ++ [(u, v)])) v v)) ∧ Below W.heap.size W w') := fun W hb => by
                have h := victim_any (c := c4) (HE4.out.belowW hb) v
                rw [HLM.out] at h
                refine h.mono ?_
                rintro e w' ⟨x, ok, rfl, h2, h4⟩
                exact ⟨x, ok, rfl, back_vic HMF.out huv' h2, h4⟩
              have HFN : Hid ((∀ x, ¬ Rch (Stp (M ++ [(u, v)])) x x) → ∀ W, Below wc.heap.size wc W → Calls Try.prog 9 #[.slice a4 (m + 1) c4] W fun e w' => ∃ a2 c2, e = .returned (.slice a2 (m + 1) c2) ∧ Below W.heap.size W w') := fun hno W hb => by
                have h := free_any (c := c4) (HE4.out.belowW hb)
                rw [HLM.out] at h
                refine h.mono ?_
                rintro e w' ⟨x, F, rfl, h2, h3, h4⟩
                have := h3.all hno
                subst this
                obtain ⟨a2, c2, rfl⟩ := owns_len h2
                rw [HLM.out]
                exact ⟨a2, c2, rfl, h4⟩
              have k40 := HBX4.out.c0
              clear hE4 hb4 hLm HRW3 HCC HE1 HFR
              go_upto_region 19 with (go_at_call 10; refine HCY.out.mono ?_; rintro e w5 ⟨v5, C, rfl, hr5, hC5, hl5, hb5⟩)
              have HBX5 := hide (HBX4.out.belowW hb5)
              have k51 := HBX5.out.c1
              have HR5 := hide hr5
              have HC5 := hide hC5
              have HB5 := hide hb5
              have HV5 := hide (HVI.out w5 hb5)
              clear hr5 hC5 hb5 k40 HVI HCY
              go_upto_region 20 with (go_at_call 8; refine HV5.out.mono ?_; rintro e w6 ⟨x6, ok6, rfl, hor6, hb6⟩)
              have HB6 : Hid (Below wc.heap.size wc w6) := bt HB5.out (Nat.le_refl _) hb6
              have HR6 : Hid (w6.ownsRow wc.heap.size 3 1 v5 C.length (C.map icell)) := owns_below HR5.out hb6 (Nat.le_refl _)
              have HBX6 := hide (HBX5.out.belowW hb6)
              have HBW6 : Hid (Below w.heap.size w w6) := bt HB0.out (Nat.le_refl _) (bt HB1.out (Nat.le_refl _) (bt HB13.out (Nat.le_refl _) (bt HB4.out (Nat.le_refl _) HB6.out)))
              clear hb6 HV5 HR5 HB5 HBX5 k51
              rcases hor6 with ⟨rfl, hno⟩ | ⟨rfl, rfl, hyes⟩
              · have HNO : Hid (∀ x, ¬ Rch (Stp (M ++ [(u, v)])) x x) := back_no HMF.out hno
                have hC0 : C = [] := HC5.out.nil_iff.2 (HNO.out u)
                subst hC0
                obtain ⟨a7, c7, rfl⟩ := owns_len HR6.out
                have HF6 := hide (HFN.out HNO.out w6 HB6.out)
                clear hno HR6 HFN
                go_wp2_with (first
                  | (go_at_call 9; refine HF6.out.mono ?_; rintro e w7 ⟨a8, c8, rfl, hb7⟩; have HB7 := hide hb7; clear hb7)
                  | (go_at_call 7; refine (HAW.out _).mono ?_; rintro e w8 ⟨rfl, hb8⟩))
                go_ret
                exact ⟨rfl, bt HBW6.out (Nat.le_refl _) (bt HB7.out (Nat.le_refl _) hb8)⟩
              · have hBK := back_yes HMF.out huv' hyes HC5.out
                have HMID := hide hBK.mid
                have htwo := hBK.two
                obtain ⟨gc, cc, rfl, hgc, hcc⟩ := own_ints HR6.out (by intro e; rw [e] at htwo; simp at htwo)
                have HCC := hide hcc
                have HHD := hide (hcc 0 u hBK.hd)
                obtain ⟨cl, hcl⟩ : ∃ cl, C.length = cl := ⟨_, rfl⟩
                have HCL := hide hcl
                rw [hcl] at htwo hl5 ⊢
                clear hyes HR6 HFN hBK hcc hcl HC5
                go_wp2
                go_loopw [14] (fun i wr => ∃ k : Nat, k ≤ cl ∧ i = .int .i64 k ∧ Below w6.heap.size w6 wr) (fun i _ => cl - (intOf i).toNat)
                case atStart => exact ⟨0, by omega, rfl, Below.refl _ _⟩
                case round =>
                  obtain ⟨k, hk, rfl, hB⟩ := hrel
                  have HB := hide hB
                  have HBXr := hide (HBX6.out.belowW hB)
                  clear hB
                  by_cases hlt : k < cl
                  · obtain ⟨x, hx⟩ : ∃ x, C[k]? = some x := ⟨_, List.getElem?_eq_getElem (by rw [HCL.out]; exact hlt)⟩
                    obtain ⟨hx1, hx2⟩ := HMID.out x (List.mem_of_getElem? hx)
                    have hc0 : ∀ m, (wr.drewN m).cell? ⟨gc, k, none⟩ = some (.int .i64 x) := fun m => (HB.out.cell (p := ⟨gc, k, none⟩) hgc).trans (HCC.out k x hx)
                    have hc1 : ∀ m, (wr.drewN m).cell? ⟨w.heap.size, 0, none⟩ = some (.int .i64 u) := fun m => HBXr.out.c0
                    have hc2 : ∀ m, (wr.drewN m).cell? ⟨w.heap.size, 1, none⟩ = some (.int .i64 x6) := fun m => HBXr.out.c1
                    have hd1 : decide (x < u) = false := by simp; omega
                    have hd2 : decide (x > x6) = false := by simp; omega
                    clear hx
                    go_upto_region 25 with fail
                    go_quiet (fail)
                    go_wp2
                    go_roundw
                    case rel => exact ⟨k + 1, by omega, by go_num, below_drewN' HB.out _⟩
                    case measure => simp [intOf]; omega
                  · have k0 := HBXr.out.c0
                    have k1 := HBXr.out.c1
                    have k2 : wr.cell? ⟨gc, 0, none⟩ = some (.int .i64 u) := (HB.out.cell (p := ⟨gc, 0, none⟩) hgc).trans HHD.out
                    have HK : Hid (∀ W, Below wr.heap.size wr W → W.cell? ⟨w.heap.size, 0, none⟩ = some (.int .i64 u) ∧ W.cell? ⟨w.heap.size, 1, none⟩ = some (.int .i64 x6) ∧ W.cell? ⟨gc, 0, none⟩ = some (.int .i64 u)) := fun W hb => ⟨(HBXr.out.belowW hb).c0, (HBXr.out.belowW hb).c1, (hb.cell (p := ⟨gc, 0, none⟩) (Nat.lt_of_lt_of_le hgc HB.out.size)).trans k2⟩
                    have hd1 : (x6 == x6) = true := by simp
                    have hd2 : (u == u) = true := by simp
                    have hd3 : decide ((cl : Int) > 1) = true := by simp; omega
                    go_upto_region 27 with fail
                    go_region_held (fun W => W.cell? ⟨w.heap.size, 0, none⟩ = some (.int .i64 u) ∧ W.cell? ⟨w.heap.size, 1, none⟩ = some (.int .i64 x6) ∧ W.cell? ⟨gc, 0, none⟩ = some (.int .i64 u)) (simp [*])
                      ((go_at_call 7; refine (HAW.out _).mono ?_; rintro e w9 ⟨rfl, hb9⟩; have hb9' : Below wr.heap.size wr w9 := ⟨hb9.os, hb9.tape, hb9.output, hb9.size, hb9.block⟩; obtain ⟨q0, q1, q2⟩ := HK.out w9 hb9'; have HB9 := hide hb9'; clear hb9 hb9'))
                    go_wp2
                    go_ret
                    exact ⟨rfl, bt HBW6.out (Nat.le_refl _) (bt HB.out (Nat.le_refl _) HB9.out)⟩
end Go.Proofs.Ytaoghggbcbpapaa
