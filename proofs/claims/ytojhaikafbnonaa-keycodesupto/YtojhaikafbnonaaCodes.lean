/- The walk of KeyCodes. -/
import Derived.Test.YtojhaikafbnonaaRefS
import Derived.Test.YtojhaikafbnonaaOrder
namespace Go.Proofs.Ytojhaikafbnonaa
open Go.RowKit
set_option linter.unusedVariables false
set_option linter.unusedSimpArgs false

theorem step_call0_to {P : Program} {ops : Array Oper} {Q : Exit → Act → World → Prop} {md : Region.Mode} {S : World → Prop} {o : Oper} {fuel : Nat} {listed : Array Bool} {a : Act} {w : World} {R : Ending → World → Prop} (j dst f : Nat) (hj : ops[j]? = some o)
    (hr : Region.ready md ops listed = [j]) (hd : o.dst = some dst) (hw : Region.wanted o (yielded ops a.tmps) = true) (ts : Array TypeId) (hop : o.op = Op.call { callee := Callee.value (Operand.func f), args := #[], argTypes := ts })
    (hcf : ∀ args w, (callFunc f args).run P w = .ok (.enter f args) w) (hc : Calls P f #[] w R)
    (hK : ∀ e w', R e w' → ∃ v, e = .returned v ∧ S w' ∧ wpAnyH P md ops Q S fuel (listed.setIfInBounds j true) (a.put (some dst) v) w') : wpAnyH P md ops Q S (fuel + 1) listed a w := by
  refine step_by j hj hr (fun K hK' => ?_)
  rw [if_pos hw]
  have hrun : (execOp a.eval o).run P w = .ok (.enter f #[]) w := by
    have hff : a.eval (.func f) = .func (.func f) #[] #[] := rfl
    unfold execOp
    simp [hop, resolve, hff, Deferred.ofValue, invoke]
    exact hcf _ _
  unfold Oper.wp
  rw [hrun, Oper.upon_enter]
  refine hc.mono ?_
  intro e w' hR
  obtain ⟨v, rfl, hS, hW⟩ := hK e w' hR
  show K (a.put o.dst v) w'
  rw [hd]
  exact hK' _ _ hS hW
theorem op_eql9 (ρ : Operand → Value) (o : Oper) (x y : Operand) (tt : TypeId) (ho : o.op = .binOp .eql 9 x y tt) (s : ByteArray) (hx : ρ x = .string s) (hy : ρ y = .string s) {w : World} : (execOp ρ o).run Try.prog w = .ok (.value (.bool true)) w := by
  have hu := Try.underlying9
  unfold execOp
  simp only [ho, hx, hy]
  simp [go_sem, hu]
theorem op_eql4 (ρ : Operand → Value) (o : Oper) (x y : Operand) (tt : TypeId) (ho : o.op = .binOp .eql 4 x y tt) (b : Bool) (hx : ρ x = .bool b) (hy : ρ y = .bool b) {w : World} : (execOp ρ o).run Try.prog w = .ok (.value (.bool true)) w := by
  have hu := Try.underlying4
  unfold execOp
  simp only [ho, hx, hy]
  simp [go_sem, hu]
theorem op_eql23 (ρ : Operand → Value) (o : Oper) (x y : Operand) (tt : TypeId) (ho : o.op = .binOp .eql 23 x y tt) (V : Vl) (hx : ρ x = .agg #[.int .i64 V.ty, .int .i64 V.n, .string (strOf V.t), .bool V.b]) (hy : ρ y = .agg #[.int .i64 V.ty, .int .i64 V.n, .string (strOf V.t), .bool V.b]) {w : World} : (execOp ρ o).run Try.prog w = .ok (.value (.bool true)) w := by
  have hg : (eqGuard .eql 23 x y (.agg #[.int .i64 V.ty, .int .i64 V.n, .string (strOf V.t), .bool V.b]) (.agg #[.int .i64 V.ty, .int .i64 V.n, .string (strOf V.t), .bool V.b])).run Try.prog w = .ok () w := run_eqGuard_agg w .eql 23 x y _ _ (by kernel_rfl)
  unfold execOp
  simp only [ho, hx, hy]
  simp [hg, run_eql23 w V V true (by simp)]
theorem loadG {w : World} {b : Nat} {Vd : Vl} {nd : Int} {okd : Bool} (h : w.heap[b]? = some (.cells #[.int .i64 Vd.ty, .int .i64 Vd.n, .string (strOf Vd.t), .bool Vd.b, .int .i64 nd, .bool okd] 29 (0, 0))) : (Instr.loadAt 23 (.pointer (some ⟨b, 0, none⟩))).run Try.prog w = .ok (.agg #[.int .i64 Vd.ty, .int .i64 Vd.n, .string (strOf Vd.t), .bool Vd.b]) w :=
  load23c ⟨by rw [cell_row h]; rfl, by rw [cell_row h]; rfl, by rw [cell_row h]; rfl, by rw [cell_row h]; rfl⟩
/-- What the law holds when it asks. -/
structure CdS (b4 b5 b9 b12 : Nat) (A B Vd : Vl) (nd : Int) (okd : Bool) (vl um uw : Value) (l ls : List Vl) (w : World) : Prop where
  a : Box w b4 A
  b : Box w b5 B
  v : Box w b9 Vd
  g : w.heap[b12]? = some (.cells #[.int .i64 Vd.ty, .int .i64 Vd.n, .string (strOf Vd.t), .bool Vd.b, .int .i64 nd, .bool okd] 29 (0, 0))
  l : VsAt w vl l
  m : VsAt w um ls
  n : VsAt w uw ls
theorem CdS.step {b4 b5 b9 b12 : Nat} {A B Vd : Vl} {nd : Int} {okd : Bool} {vl um uw : Value} {l ls : List Vl} {w w' : World} (h : CdS b4 b5 b9 b12 A B Vd nd okd vl um uw l ls w) (hb : Below w.heap.size w w') : CdS b4 b5 b9 b12 A B Vd nd okd vl um uw l ls w' :=
  ⟨h.a.belowW hb, h.b.belowW hb, h.v.belowW hb, (hb.block _ (lt_of_heap h.g)).trans h.g, h.l.belowW hb, h.m.belowW hb, h.n.belowW hb⟩
theorem dec_form (bs : List UInt8) : ∃ (Vd : Vl) (nd : Int) (okd : Bool), decV bs = .tuple #[.agg #[.int .i64 Vd.ty, .int .i64 Vd.n, .string (strOf Vd.t), .bool Vd.b], .int .i64 nd, .bool okd] ∧ decG bs = .agg #[.int .i64 Vd.ty, .int .i64 Vd.n, .string (strOf Vd.t), .bool Vd.b, .int .i64 nd, .bool okd] := by
  cases h : dec bs with
  | none => exact ⟨Vl.zero, 0, false, decV_none h, decG_none h⟩
  | some p => exact ⟨p.1, p.2, true, decV_some h, decG_some h⟩
theorem split_form {w : World} {bs : List UInt8} {e : Ending} {w' : World} (h : SplitEnd w bs e w') : ∃ u, e = .returned (.tuple #[u, .bool (splitN bs.length bs []).isSome]) ∧ VsAt w' u ((splitN bs.length bs []).getD []) ∧ Below w.heap.size w w' := by
  unfold SplitEnd at h
  cases hs : splitN bs.length bs [] with
  | none =>
    rw [hs] at h
    exact ⟨_, h.1, Row.nil w', h.2⟩
  | some l =>
    rw [hs] at h
    obtain ⟨u, he, hV⟩ := h
    exact ⟨u, he, hV.at, hV.below⟩
set_option maxHeartbeats 8000000 in
set_option maxRecDepth 100000 in
theorem codes_walk {w : World} {A B : Vl} {vl vx : Value} {l : List Vl} {bs : List UInt8} (hA : A.wf) (hB : B.wf) (hl : VsAt w vl l) (hx : Sl w vx bs) (hwl : ∀ V ∈ l, V.wf) (bA : 2 * A.t.length + 20 ≤ 500000000) (bB : 2 * B.t.length + 20 ≤ 500000000) (bl : bulk l ≤ 400000000) (bx : bs.length ≤ 400000000) :
    Calls Try.prog 3 #[valOf A, valOf B, vl, vx] w fun e w' => e = .returned (.bool true) ∧ Below w.heap.size w w' := by
  obtain ⟨hX4, hX5, hBW⟩ := two_boxes w A B
  obtain ⟨W1, hW1⟩ : ∃ W1, (w.alloc (.cells #[.int .i64 A.ty, .int .i64 A.n, .string (strOf A.t), .bool A.b] 23)).alloc (.cells #[.int .i64 B.ty, .int .i64 B.n, .string (strOf B.t), .bool B.b] 23) = W1 := ⟨_, rfl⟩
  rw [hW1] at hX4 hX5 hBW
  have HX4 := hide hX4
  have HX5 := hide hX5
  have HBW := hide hBW
  have HL := hide hl
  have HXV := hide hx
  clear hX4 hX5 hBW hl hx
  obtain ⟨Vd, nd, okd, hdv, hdg⟩ := dec_form bs
  unfold valOf
  go_enter Try.func3, Try.ntmps3
  go_upto_region 1 with fail
  try rw [hW1]
  clear hW1
  generalize w.heap.size + 1 = b5 at HX5 ⊢
  generalize w.heap.size = b4 at HX4 ⊢
  have HD := hide (decode_any (HXV.out.belowW HBW.out) (by omega))
  rw [hdv] at HD
  go_wp2_with fail
  refine HD.out.mono ?_
  rintro e W2 ⟨rfl, hB2⟩
  have HB2 := hide (HBW.out.trans (hB2.mono HBW.out.size))
  have HA2 := hide (HX4.out.belowW hB2)
  have HC2 := hide (HX5.out.belowW hB2)
  clear hB2 HD HX4 HX5 HBW
  go_upto_region 2 with fail
  have HV3 := hide (box_new W2 Vd)
  have HA3 := hide (HA2.out.belowW ((Below.refl _ _).alloc (Nat.le_refl _) (.cells #[.int .i64 Vd.ty, .int .i64 Vd.n, .string (strOf Vd.t), .bool Vd.b] 23)))
  have HC3 := hide (HC2.out.belowW ((Below.refl _ _).alloc (Nat.le_refl _) (.cells #[.int .i64 Vd.ty, .int .i64 Vd.n, .string (strOf Vd.t), .bool Vd.b] 23)))
  have HB3 := hide (HB2.out.alloc HB2.out.size (.cells #[.int .i64 Vd.ty, .int .i64 Vd.n, .string (strOf Vd.t), .bool Vd.b] 23))
  generalize W2.alloc (.cells #[.int .i64 Vd.ty, .int .i64 Vd.n, .string (strOf Vd.t), .bool Vd.b] 23) = W3 at *
  generalize W2.heap.size = b9 at *
  clear HA2 HC2 HB2
  have HG := hide (rdecode_any (HXV.out.belowW HB3.out) (by omega))
  rw [hdg] at HG
  go_wp2_with fail
  refine HG.out.mono ?_
  rintro e W4 ⟨rfl, hB4⟩
  have HB4 := hide (HB3.out.trans (hB4.mono HB3.out.size))
  have HA4 := hide (HA3.out.belowW hB4)
  have HC4 := hide (HC3.out.belowW hB4)
  have HV4 := hide (HV3.out.belowW hB4)
  clear hB4 HG HA3 HC3 HV3 HB3
  go_upto_region 3 with fail
  have hal : Below W4.heap.size W4 (W4.alloc (.cells #[.int .i64 Vd.ty, .int .i64 Vd.n, .string (strOf Vd.t), .bool Vd.b, .int .i64 nd, .bool okd] 29)) := (Below.refl _ _).alloc (Nat.le_refl _) _
  have HG5 : Hid ((W4.alloc (.cells #[.int .i64 Vd.ty, .int .i64 Vd.n, .string (strOf Vd.t), .bool Vd.b, .int .i64 nd, .bool okd] 29)).heap[W4.heap.size]? = some (.cells #[.int .i64 Vd.ty, .int .i64 Vd.n, .string (strOf Vd.t), .bool Vd.b, .int .i64 nd, .bool okd] 29 (0, 0))) := heap_alloc_new W4 _
  have HA5 := hide (HA4.out.belowW hal)
  have HC5 := hide (HC4.out.belowW hal)
  have HV5 := hide (HV4.out.belowW hal)
  have HB5 := hide (HB4.out.trans (hal.mono HB4.out.size))
  clear hal
  generalize W4.alloc (.cells #[.int .i64 Vd.ty, .int .i64 Vd.n, .string (strOf Vd.t), .bool Vd.b, .int .i64 nd, .bool okd] 29) = W5 at *
  generalize W4.heap.size = b12 at *
  clear HA4 HC4 HV4 HB4
  have HS1 := hide (split_any (HXV.out.belowW HB5.out) bx)
  go_upto_region 4 with (go_at_call 8; refine HS1.out.mono ?_; intro e Wa hSa; obtain ⟨um, rfl, hua, hBa⟩ := split_form hSa)
  have HUA := hide hua
  have HBA := hide hBa
  have HBa := hide (HB5.out.trans (hBa.mono HB5.out.size))
  clear hSa hua hBa HS1
  have HS2 := hide (rsplit_any (HXV.out.belowW HBa.out) bx)
  go_upto_region 5 with (go_at_call 9; refine HS2.out.mono ?_; intro e W6 hSb; obtain ⟨uw, rfl, hub, hBb⟩ := split_form hSb)
  have HS : Hid (CdS b4 b5 b9 b12 A B Vd nd okd vl um uw l ((splitN bs.length bs []).getD []) W6) :=
    ⟨(HA5.out.belowW HBA.out).belowW hBb, (HC5.out.belowW HBA.out).belowW hBb, (HV5.out.belowW HBA.out).belowW hBb, (hBb.block _ (lt_of_heap ((HBA.out.block _ (lt_of_heap HG5.out)).trans HG5.out))).trans ((HBA.out.block _ (lt_of_heap HG5.out)).trans HG5.out), HL.out.belowW (HBa.out.trans (hBb.mono HBa.out.size)), HUA.out.belowW hBb, hub⟩
  have HB := hide (HBa.out.trans (hBb.mono HBa.out.size))
  clear hSb hub hBb HS2 HA5 HC5 HV5 HG5 HUA HBA HBa HB5
  generalize (splitN bs.length bs []).getD [] = ls at *
  generalize (splitN bs.length bs []).isSome = oks at *
  refine wp_region_held_drew (S := fun w' => CdS b4 b5 b9 b12 A B Vd nd okd vl um uw l ls w') (by kernel_rfl) (HS.out.step (below_drewN _ _ 1)) (fun s0 => ?_)
  have HB0 : Below W6.heap.size W6 W6.drew := below_drewN _ _ 1
  generalize W6.drew = U0 at s0 HB0 ⊢
  refine take_to 0 35 (.agg #[.int .i64 A.ty, .int .i64 A.n, .string (strOf A.t), .bool A.b]) rfl (by kernel_rfl) (by kernel_rfl) (by kernel_rfl) (fun _ _ _ h => h) rfl (by rfl) (fun w hw => op_load _ _ 23 (.tmp 4) rfl (.pointer (some ⟨b4, 0, none⟩)) _ rfl (load23 hw.a)) s0 ?_
  simp only [Act.put, List.setIfInBounds_toArray, List.set_cons_zero, List.set_cons_succ]
  refine take_to 3 38 (.agg #[.int .i64 A.ty, .int .i64 A.n, .string (strOf A.t), .bool A.b]) rfl (by kernel_rfl) (by kernel_rfl) (by kernel_rfl) (fun _ _ _ h => h) rfl (by rfl) (fun w hw => op_load _ _ 23 (.tmp 4) rfl (.pointer (some ⟨b4, 0, none⟩)) _ rfl (load23 hw.a)) s0 ?_
  simp only [Act.put, List.setIfInBounds_toArray, List.set_cons_zero, List.set_cons_succ]
  refine step_call1_to 1 36 10 rfl (by kernel_rfl) rfl (by rfl) (.tmp 35) _ rfl _ rfl Try.enters10 (encode_any U0 U0 (Below.refl _ _) A hA bA) ?_
  rintro e U1 ⟨u1, rfl, hB1, _⟩
  have s1 := s0.step hB1.below
  have HB1 := HB0.trans (hB1.below.mono HB0.size)
  obtain ⟨a1, c1, e1, _, _⟩ := hB1.sl.len
  subst e1
  refine ⟨_, rfl, s1, ?_⟩
  simp only [Act.put, List.setIfInBounds_toArray, List.set_cons_zero, List.set_cons_succ]
  refine wpAnyH_strong (S' := fun w' => CdS b4 b5 b9 b12 A B Vd nd okd vl um uw l ls w' ∧ Sl w' (.slice a1 (enc A).length c1) (enc A)) (fun _ h => h.1) _ _ _ _ ?_
  have s1' := And.intro s1 hB1.sl
  refine take_to 2 37 (.string (strOf (enc A))) rfl (by kernel_rfl) (by kernel_rfl) (by kernel_rfl) (fun _ _ _ h => h) rfl (by rfl) (fun w hw => op_conv _ _ 25 9 (.tmp 36) rfl _ _ rfl (run_str hw.2)) s1' ?_
  simp only [Act.put, List.setIfInBounds_toArray, List.set_cons_zero, List.set_cons_succ]
  refine step_call1_to 4 39 11 rfl (by kernel_rfl) rfl (by rfl) (.tmp 38) _ rfl _ rfl Try.enters11 (rencode_any U1 U1 (Below.refl _ _) A hA bA) ?_
  rintro e U2 ⟨u2, rfl, hB2, _⟩
  have s2' := And.intro (s1.step hB2.below) (hB1.sl.belowW hB2.below)
  have HB2 := HB1.trans (hB2.below.mono HB1.size)
  obtain ⟨a2, c2, e2, _, _⟩ := hB2.sl.len
  subst e2
  refine ⟨_, rfl, s2', ?_⟩
  simp only [Act.put, List.setIfInBounds_toArray, List.set_cons_zero, List.set_cons_succ]
  refine step_to 5 40 (.string (strOf (enc A))) U2 rfl (by kernel_rfl) rfl (by rfl) (op_conv _ _ 25 9 (.tmp 39) rfl _ _ rfl (run_str hB2.sl)) s2' ?_
  simp only [Act.put, List.setIfInBounds_toArray, List.set_cons_zero, List.set_cons_succ]
  refine take_to 6 41 (.bool true) rfl (by kernel_rfl) (by kernel_rfl) (by kernel_rfl) (fun _ _ _ h => h) rfl (by rfl) (fun w hw => op_eql9 _ _ (.tmp 37) (.tmp 40) 9 rfl _ rfl rfl) s2' ?_
  simp only [Act.put, List.setIfInBounds_toArray, List.set_cons_zero, List.set_cons_succ]
  refine take_to 7 42 (.bool true) rfl (by kernel_rfl) (by kernel_rfl) (by kernel_rfl) (fun _ _ _ h => h) rfl (by rfl) (fun w hw => by rfl) s2' ?_
  simp only [Act.put, List.setIfInBounds_toArray, List.set_cons_zero, List.set_cons_succ]
  refine take_to 8 43 (.agg #[.int .i64 Vd.ty, .int .i64 Vd.n, .string (strOf Vd.t), .bool Vd.b]) rfl (by kernel_rfl) (by kernel_rfl) (by kernel_rfl) (fun _ _ _ h => h) rfl (by rfl) (fun w hw => op_load _ _ 23 (.tmp 9) rfl (.pointer (some ⟨b9, 0, none⟩)) _ rfl (load23 hw.1.v)) s2' ?_
  simp only [Act.put, List.setIfInBounds_toArray, List.set_cons_zero, List.set_cons_succ]
  refine take_to 9 44 (.pointer (some ⟨b12, 0, none⟩)) rfl (by kernel_rfl) (by kernel_rfl) (by kernel_rfl) (fun _ _ _ h => h) rfl (by rfl) (fun w hw => by rfl) s2' ?_
  simp only [Act.put, List.setIfInBounds_toArray, List.set_cons_zero, List.set_cons_succ]
  refine take_to 10 45 (.agg #[.int .i64 Vd.ty, .int .i64 Vd.n, .string (strOf Vd.t), .bool Vd.b]) rfl (by kernel_rfl) (by kernel_rfl) (by kernel_rfl) (fun _ _ _ h => h) rfl (by rfl) (fun w hw => op_load _ _ 23 (.tmp 44) rfl (.pointer (some ⟨b12, 0, none⟩)) _ rfl (loadG hw.1.g)) s2' ?_
  simp only [Act.put, List.setIfInBounds_toArray, List.set_cons_zero, List.set_cons_succ]
  refine take_to 11 46 (.bool true) rfl (by kernel_rfl) (by kernel_rfl) (by kernel_rfl) (fun _ _ _ h => h) rfl (by rfl) (fun w hw => op_eql23 _ _ (.tmp 43) (.tmp 45) 23 rfl Vd rfl rfl) s2' ?_
  simp only [Act.put, List.setIfInBounds_toArray, List.set_cons_zero, List.set_cons_succ]
  refine take_to 12 47 (.bool true) rfl (by kernel_rfl) (by kernel_rfl) (by kernel_rfl) (fun _ _ _ h => h) rfl (by rfl) (fun w hw => by rfl) s2' ?_
  simp only [Act.put, List.setIfInBounds_toArray, List.set_cons_zero, List.set_cons_succ]
  refine take_to 13 48 (.bool true) rfl (by kernel_rfl) (by kernel_rfl) (by kernel_rfl) (fun _ _ _ h => h) rfl (by rfl) (fun w hw => by rfl) s2' ?_
  simp only [Act.put, List.setIfInBounds_toArray, List.set_cons_zero, List.set_cons_succ]
  refine take_to 14 49 (.int .i64 nd) rfl (by kernel_rfl) (by kernel_rfl) (by kernel_rfl) (fun _ _ _ h => h) rfl (by rfl) (fun w hw => by rfl) s2' ?_
  simp only [Act.put, List.setIfInBounds_toArray, List.set_cons_zero, List.set_cons_succ]
  refine take_to 15 50 (.pointer (some ⟨b12, 4, none⟩)) rfl (by kernel_rfl) (by kernel_rfl) (by kernel_rfl) (fun _ _ _ h => h) rfl (by rfl) (fun w hw => by rfl) s2' ?_
  simp only [Act.put, List.setIfInBounds_toArray, List.set_cons_zero, List.set_cons_succ]
  refine take_to 16 51 (.int .i64 nd) rfl (by kernel_rfl) (by kernel_rfl) (by kernel_rfl) (fun _ _ _ h => h) rfl (by rfl) (fun w hw => op_load _ _ 3 (.tmp 50) rfl (.pointer (some ⟨b12, 4, none⟩)) _ rfl (run_loadAny w b12 4 3 _ Try.isAgg3 (by rw [cell_row hw.1.g]; rfl))) s2' ?_
  simp only [Act.put, List.setIfInBounds_toArray, List.set_cons_zero, List.set_cons_succ]
  refine take_to 17 52 (.bool true) rfl (by kernel_rfl) (by kernel_rfl) (by kernel_rfl) (fun _ _ _ h => h) rfl (by rfl) (fun w hw => op_eql3 _ _ (.tmp 49) (.tmp 51) 3 rfl _ _ rfl rfl true (by simp)) s2' ?_
  simp only [Act.put, List.setIfInBounds_toArray, List.set_cons_zero, List.set_cons_succ]
  refine take_to 18 53 (.bool true) rfl (by kernel_rfl) (by kernel_rfl) (by kernel_rfl) (fun _ _ _ h => h) rfl (by rfl) (fun w hw => by rfl) s2' ?_
  simp only [Act.put, List.setIfInBounds_toArray, List.set_cons_zero, List.set_cons_succ]
  refine take_to 19 54 (.bool true) rfl (by kernel_rfl) (by kernel_rfl) (by kernel_rfl) (fun _ _ _ h => h) rfl (by rfl) (fun w hw => by rfl) s2' ?_
  simp only [Act.put, List.setIfInBounds_toArray, List.set_cons_zero, List.set_cons_succ]
  refine take_to 20 55 (.bool okd) rfl (by kernel_rfl) (by kernel_rfl) (by kernel_rfl) (fun _ _ _ h => h) rfl (by rfl) (fun w hw => by rfl) s2' ?_
  simp only [Act.put, List.setIfInBounds_toArray, List.set_cons_zero, List.set_cons_succ]
  refine take_to 21 56 (.pointer (some ⟨b12, 5, none⟩)) rfl (by kernel_rfl) (by kernel_rfl) (by kernel_rfl) (fun _ _ _ h => h) rfl (by rfl) (fun w hw => by rfl) s2' ?_
  simp only [Act.put, List.setIfInBounds_toArray, List.set_cons_zero, List.set_cons_succ]
  refine take_to 22 57 (.bool okd) rfl (by kernel_rfl) (by kernel_rfl) (by kernel_rfl) (fun _ _ _ h => h) rfl (by rfl) (fun w hw => op_load _ _ 4 (.tmp 56) rfl (.pointer (some ⟨b12, 5, none⟩)) _ rfl (run_loadAny w b12 5 4 _ Try.isAgg4 (by rw [cell_row hw.1.g]; rfl))) s2' ?_
  simp only [Act.put, List.setIfInBounds_toArray, List.set_cons_zero, List.set_cons_succ]
  refine take_to 23 58 (.bool true) rfl (by kernel_rfl) (by kernel_rfl) (by kernel_rfl) (fun _ _ _ h => h) rfl (by rfl) (fun w hw => op_eql4 _ _ (.tmp 55) (.tmp 57) 4 rfl okd rfl rfl) s2' ?_
  simp only [Act.put, List.setIfInBounds_toArray, List.set_cons_zero, List.set_cons_succ]
  refine take_to 24 59 (.bool true) rfl (by kernel_rfl) (by kernel_rfl) (by kernel_rfl) (fun _ _ _ h => h) rfl (by rfl) (fun w hw => by rfl) s2' ?_
  simp only [Act.put, List.setIfInBounds_toArray, List.set_cons_zero, List.set_cons_succ]
  refine take_to 25 60 (.bool true) rfl (by kernel_rfl) (by kernel_rfl) (by kernel_rfl) (fun _ _ _ h => h) rfl (by rfl) (fun w hw => by rfl) s2' ?_
  simp only [Act.put, List.setIfInBounds_toArray, List.set_cons_zero, List.set_cons_succ]
  refine take_to 26 61 (vl) rfl (by kernel_rfl) (by kernel_rfl) (by kernel_rfl) (fun _ _ _ h => h) rfl (by rfl) (fun w hw => by rfl) s2' ?_
  simp only [Act.put, List.setIfInBounds_toArray, List.set_cons_zero, List.set_cons_succ]
  refine take_to 29 64 (vl) rfl (by kernel_rfl) (by kernel_rfl) (by kernel_rfl) (fun _ _ _ h => h) rfl (by rfl) (fun w hw => by rfl) s2' ?_
  simp only [Act.put, List.setIfInBounds_toArray, List.set_cons_zero, List.set_cons_succ]
  refine step_call1_to 27 62 12 rfl (by kernel_rfl) rfl (by rfl) (.tmp 61) _ rfl _ rfl Try.enters12 (join_any s2'.1.l hwl bl) ?_
  rintro e U3 ⟨u3, rfl, hB3⟩
  have s3 := s2'.1.step hB3.below
  have s3a := s2'.2.belowW hB3.below
  have HB3 := HB2.trans (hB3.below.mono HB2.size)
  obtain ⟨a3, c3, e3, _, _⟩ := hB3.sl.len
  subst e3
  refine ⟨_, rfl, ⟨s3, s3a⟩, ?_⟩
  simp only [Act.put, List.setIfInBounds_toArray, List.set_cons_zero, List.set_cons_succ]
  refine wpAnyH_strong (S' := fun w' => (CdS b4 b5 b9 b12 A B Vd nd okd vl um uw l ls w' ∧ Sl w' (.slice a1 (enc A).length c1) (enc A)) ∧ Sl w' (.slice a3 (joinL l).length c3) (joinL l)) (fun _ h => h.1) _ _ _ _ ?_
  have s3' := And.intro (And.intro s3 s3a) hB3.sl
  refine take_to 28 63 (.string (strOf (joinL l))) rfl (by kernel_rfl) (by kernel_rfl) (by kernel_rfl) (fun _ _ _ h => h) rfl (by rfl) (fun w hw => op_conv _ _ 25 9 (.tmp 62) rfl _ _ rfl (run_str hw.2)) s3' ?_
  simp only [Act.put, List.setIfInBounds_toArray, List.set_cons_zero, List.set_cons_succ]
  refine step_call1_to 30 65 13 rfl (by kernel_rfl) rfl (by rfl) (.tmp 64) _ rfl _ rfl Try.enters13 (rjoin_any s3.l hwl bl) ?_
  rintro e U4 ⟨u4, rfl, hB4⟩
  have s4' := And.intro (And.intro (s3.step hB4.below) (s3a.belowW hB4.below)) (hB3.sl.belowW hB4.below)
  have HB4 := HB3.trans (hB4.below.mono HB3.size)
  obtain ⟨a4, c4, e4, _, _⟩ := hB4.sl.len
  subst e4
  refine ⟨_, rfl, s4', ?_⟩
  simp only [Act.put, List.setIfInBounds_toArray, List.set_cons_zero, List.set_cons_succ]
  refine step_to 31 66 (.string (strOf (joinL l))) U4 rfl (by kernel_rfl) rfl (by rfl) (op_conv _ _ 25 9 (.tmp 65) rfl _ _ rfl (run_str hB4.sl)) s4' ?_
  simp only [Act.put, List.setIfInBounds_toArray, List.set_cons_zero, List.set_cons_succ]
  refine take_to 32 67 (.bool true) rfl (by kernel_rfl) (by kernel_rfl) (by kernel_rfl) (fun _ _ _ h => h) rfl (by rfl) (fun w hw => op_eql9 _ _ (.tmp 63) (.tmp 66) 9 rfl _ rfl rfl) s4' ?_
  simp only [Act.put, List.setIfInBounds_toArray, List.set_cons_zero, List.set_cons_succ]
  refine take_to 33 68 (.bool true) rfl (by kernel_rfl) (by kernel_rfl) (by kernel_rfl) (fun _ _ _ h => h) rfl (by rfl) (fun w hw => by rfl) s4' ?_
  simp only [Act.put, List.setIfInBounds_toArray, List.set_cons_zero, List.set_cons_succ]
  refine take_to 34 69 (.bool true) rfl (by kernel_rfl) (by kernel_rfl) (by kernel_rfl) (fun _ _ _ h => h) rfl (by rfl) (fun w hw => by rfl) s4' ?_
  simp only [Act.put, List.setIfInBounds_toArray, List.set_cons_zero, List.set_cons_succ]
  refine take_to 35 70 (um) rfl (by kernel_rfl) (by kernel_rfl) (by kernel_rfl) (fun _ _ _ h => h) rfl (by rfl) (fun w hw => by rfl) s4' ?_
  simp only [Act.put, List.setIfInBounds_toArray, List.set_cons_zero, List.set_cons_succ]
  refine take_to 36 71 (uw) rfl (by kernel_rfl) (by kernel_rfl) (by kernel_rfl) (fun _ _ _ h => h) rfl (by rfl) (fun w hw => by rfl) s4' ?_
  simp only [Act.put, List.setIfInBounds_toArray, List.set_cons_zero, List.set_cons_succ]
  refine step_call2_to 37 72 14 rfl (by kernel_rfl) rfl (by rfl) (.tmp 70) (.tmp 71) _ rfl _ _ rfl rfl Try.enters14 (same_any s4'.1.1.m s4'.1.1.n) ?_
  rintro e U5 ⟨rfl, m5, hw5⟩
  have hB5 : Below U4.heap.size U4 U5 := by rw [hw5]; exact below_drewN _ _ _
  clear hw5
  have s5' := And.intro (And.intro (s4'.1.1.step hB5) (s4'.1.2.belowW hB5)) (s4'.2.belowW hB5)
  have HB5 := HB4.trans (hB5.mono HB4.size)
  refine ⟨_, rfl, s5', ?_⟩
  simp only [Act.put, List.setIfInBounds_toArray, List.set_cons_zero, List.set_cons_succ]
  refine take_to 38 73 (.bool true) rfl (by kernel_rfl) (by kernel_rfl) (by kernel_rfl) (fun _ _ _ h => h) rfl (by rfl) (fun w hw => by rfl) s5' ?_
  simp only [Act.put, List.setIfInBounds_toArray, List.set_cons_zero, List.set_cons_succ]
  refine take_to 39 74 (.bool true) rfl (by kernel_rfl) (by kernel_rfl) (by kernel_rfl) (fun _ _ _ h => h) rfl (by rfl) (fun w hw => by rfl) s5' ?_
  simp only [Act.put, List.setIfInBounds_toArray, List.set_cons_zero, List.set_cons_succ]
  refine take_to 40 75 (.bool oks) rfl (by kernel_rfl) (by kernel_rfl) (by kernel_rfl) (fun _ _ _ h => h) rfl (by rfl) (fun w hw => by rfl) s5' ?_
  simp only [Act.put, List.setIfInBounds_toArray, List.set_cons_zero, List.set_cons_succ]
  refine take_to 41 76 (.bool oks) rfl (by kernel_rfl) (by kernel_rfl) (by kernel_rfl) (fun _ _ _ h => h) rfl (by rfl) (fun w hw => by rfl) s5' ?_
  simp only [Act.put, List.setIfInBounds_toArray, List.set_cons_zero, List.set_cons_succ]
  refine take_to 42 77 (.bool true) rfl (by kernel_rfl) (by kernel_rfl) (by kernel_rfl) (fun _ _ _ h => h) rfl (by rfl) (fun w hw => op_eql4 _ _ (.tmp 75) (.tmp 76) 4 rfl oks rfl rfl) s5' ?_
  simp only [Act.put, List.setIfInBounds_toArray, List.set_cons_zero, List.set_cons_succ]
  refine take_to 43 78 (.bool true) rfl (by kernel_rfl) (by kernel_rfl) (by kernel_rfl) (fun _ _ _ h => h) rfl (by rfl) (fun w hw => by rfl) s5' ?_
  simp only [Act.put, List.setIfInBounds_toArray, List.set_cons_zero, List.set_cons_succ]
  refine take_to 44 79 (.bool true) rfl (by kernel_rfl) (by kernel_rfl) (by kernel_rfl) (fun _ _ _ h => h) rfl (by rfl) (fun w hw => by rfl) s5' ?_
  simp only [Act.put, List.setIfInBounds_toArray, List.set_cons_zero, List.set_cons_succ]
  refine take_to 45 80 (.agg #[.int .i64 A.ty, .int .i64 A.n, .string (strOf A.t), .bool A.b]) rfl (by kernel_rfl) (by kernel_rfl) (by kernel_rfl) (fun _ _ _ h => h) rfl (by rfl) (fun w hw => op_load _ _ 23 (.tmp 4) rfl (.pointer (some ⟨b4, 0, none⟩)) _ rfl (load23 hw.1.1.a)) s5' ?_
  simp only [Act.put, List.setIfInBounds_toArray, List.set_cons_zero, List.set_cons_succ]
  refine take_to 46 81 (.agg #[.int .i64 B.ty, .int .i64 B.n, .string (strOf B.t), .bool B.b]) rfl (by kernel_rfl) (by kernel_rfl) (by kernel_rfl) (fun _ _ _ h => h) rfl (by rfl) (fun w hw => op_load _ _ 23 (.tmp 5) rfl (.pointer (some ⟨b5, 0, none⟩)) _ rfl (load23 hw.1.1.b)) s5' ?_
  simp only [Act.put, List.setIfInBounds_toArray, List.set_cons_zero, List.set_cons_succ]
  refine take_to 48 83 (.agg #[.int .i64 A.ty, .int .i64 A.n, .string (strOf A.t), .bool A.b]) rfl (by kernel_rfl) (by kernel_rfl) (by kernel_rfl) (fun _ _ _ h => h) rfl (by rfl) (fun w hw => op_load _ _ 23 (.tmp 4) rfl (.pointer (some ⟨b4, 0, none⟩)) _ rfl (load23 hw.1.1.a)) s5' ?_
  simp only [Act.put, List.setIfInBounds_toArray, List.set_cons_zero, List.set_cons_succ]
  refine take_to 49 84 (.agg #[.int .i64 B.ty, .int .i64 B.n, .string (strOf B.t), .bool B.b]) rfl (by kernel_rfl) (by kernel_rfl) (by kernel_rfl) (fun _ _ _ h => h) rfl (by rfl) (fun w hw => op_load _ _ 23 (.tmp 5) rfl (.pointer (some ⟨b5, 0, none⟩)) _ rfl (load23 hw.1.1.b)) s5' ?_
  simp only [Act.put, List.setIfInBounds_toArray, List.set_cons_zero, List.set_cons_succ]
  refine step_call2_to 47 82 15 rfl (by kernel_rfl) rfl (by rfl) (.tmp 80) (.tmp 81) _ rfl _ _ rfl rfl Try.enters15 (compare_any A B U5) ?_
  rintro e U6 ⟨rfl, hB6⟩
  have s6' := And.intro (And.intro (s5'.1.1.step hB6) (s5'.1.2.belowW hB6)) (s5'.2.belowW hB6)
  have HB6 := HB5.trans (hB6.mono HB5.size)
  refine ⟨_, rfl, s6', ?_⟩
  simp only [Act.put, List.setIfInBounds_toArray, List.set_cons_zero, List.set_cons_succ]
  refine step_call2_to 50 85 16 rfl (by kernel_rfl) rfl (by rfl) (.tmp 83) (.tmp 84) _ rfl _ _ rfl rfl Try.enters16 (rcompare_any A B U6) ?_
  rintro e U7 ⟨rfl, hB7⟩
  have s7' := And.intro (And.intro (s6'.1.1.step hB7) (s6'.1.2.belowW hB7)) (s6'.2.belowW hB7)
  have HB7 := HB6.trans (hB7.mono HB6.size)
  refine ⟨_, rfl, s7', ?_⟩
  simp only [Act.put, List.setIfInBounds_toArray, List.set_cons_zero, List.set_cons_succ]
  refine take_to 51 86 (.bool true) rfl (by kernel_rfl) (by kernel_rfl) (by kernel_rfl) (fun _ _ _ h => h) rfl (by rfl) (fun w hw => op_eql3 _ _ (.tmp 82) (.tmp 85) 3 rfl _ _ rfl rfl true (by simp)) s7' ?_
  simp only [Act.put, List.setIfInBounds_toArray, List.set_cons_zero, List.set_cons_succ]
  refine take_to 52 87 (.bool true) rfl (by kernel_rfl) (by kernel_rfl) (by kernel_rfl) (fun _ _ _ h => h) rfl (by rfl) (fun w hw => by rfl) s7' ?_
  simp only [Act.put, List.setIfInBounds_toArray, List.set_cons_zero, List.set_cons_succ]
  refine take_to 53 88 (.bool true) rfl (by kernel_rfl) (by kernel_rfl) (by kernel_rfl) (fun _ _ _ h => h) rfl (by rfl) (fun w hw => by rfl) s7' ?_
  simp only [Act.put, List.setIfInBounds_toArray, List.set_cons_zero, List.set_cons_succ]
  refine step_call0_to 54 89 17 rfl (by kernel_rfl) rfl (by rfl) _ rfl Try.enters17 (awake_any U7) ?_
  rintro e U8 ⟨rfl, hB8⟩
  have s8' := And.intro (And.intro (s7'.1.1.step hB8) (s7'.1.2.belowW hB8)) (s7'.2.belowW hB8)
  have HB8 := HB7.trans (hB8.mono HB7.size)
  refine ⟨_, rfl, s8', ?_⟩
  simp only [Act.put, List.setIfInBounds_toArray, List.set_cons_zero, List.set_cons_succ]
  refine step_to 55 90 (.bool true) U8 rfl (by kernel_rfl) rfl (by rfl) (rfl) s8' ?_
  simp only [Act.put, List.setIfInBounds_toArray, List.set_cons_zero, List.set_cons_succ]
  refine step_to 56 8 (.bool true) U8 rfl (by kernel_rfl) rfl (by rfl) (rfl) s8' ?_
  simp only [Act.put, List.setIfInBounds_toArray, List.set_cons_zero, List.set_cons_succ]
  refine wpAnyH_done (by kernel_rfl) ?_ _
  go_wp2
  go_ret
  exact ⟨rfl, HB.out.trans (HB8.mono HB.out.size)⟩
end Go.Proofs.Ytojhaikafbnonaa
