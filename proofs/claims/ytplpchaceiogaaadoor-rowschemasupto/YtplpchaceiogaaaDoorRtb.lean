/- The document's Table. -/
import Derived.Test.YtplpchaceiogaaaDoorRte
import Derived.Test.YtplpchaceiogaaaDoorRefS
import Derived.Test.YtplpchaceiogaaaDoorRsc
import Derived.Deep.CutBlock
import Derived.Deep.DeepCutAuto
namespace Go.Proofs.YtplpchaceiogaaaDoor
open Go.RowKit
set_option linter.unusedVariables false
set_option linter.unusedSimpArgs false
set_option maxRecDepth 100000

theorem rsplit_start {w : World} {v : Value} {bs : List UInt8} (h : Sl w v bs) (hl : bs.length ≤ 400000000) : Calls Tryd.prog 16 #[v] w fun e w' => ∃ ao c, e = .returned (.tuple #[.slice ao (startOf bs).2.length c, .bool (!(startOf bs).1)]) ∧ Below w.heap.size w w' ∧ RowB w' ao c (startOf bs).2 := by
  refine (rsplit_any h hl).mono fun e w' he => ?_
  unfold SplitEnd at he
  unfold startOf
  cases hs : splitN bs.length bs [] with
  | none =>
    simp only [hs] at he
    exact ⟨none, 0, he.1, he.2, Nat.le_refl _, Nat.zero_le _, fun h => absurd rfl h⟩
  | some l =>
    simp only [hs] at he
    obtain ⟨u, rfl, hv⟩ := he
    obtain ⟨ao, c, rfl, hr⟩ := RowB.of_vals hv
    exact ⟨ao, c, rfl, hv.below, hr⟩
theorem startOf_len {bs : List UInt8} : (startOf bs).2.length ≤ bs.length := by
  unfold startOf
  cases hs : splitN bs.length bs [] with
  | none => simp
  | some l =>
    obtain ⟨m, e1, e2, _⟩ := splitN_sound _ _ _ _ hs
    rw [List.nil_append] at e1
    subst e1
    have := len_join l
    rw [e2] at this
    exact this
theorem tk_len (t : Int) (s : Bool × List Vl) : (tk t s).2.2.length ≤ s.2.length ∧ ((tk t s).2.1 = false → s.1 = false ∧ (tk t s).2.2.length < s.2.length) := by
  obtain ⟨b, l⟩ := s
  unfold tk
  cases b with
  | true => exact ⟨Nat.le_refl _, fun h => by simp at h⟩
  | false =>
    simp only [Bool.false_eq_true, if_false]
    cases hq : takeV t l with
    | none => exact ⟨Nat.le_refl _, fun h => by simp at h⟩
    | some p =>
      obtain ⟨e, _⟩ := takeV_some hq
      refine ⟨?_, fun _ => ⟨by simp, ?_⟩⟩ <;> (simp only [e, List.length_cons]; omega)
theorem manyR_go {α : Type} (one : Bool × List Vl → α × (Bool × List Vl)) (n : Nat) (l : List Vl) (acc : List α) : manyR one (n + 1) (false, l) acc = manyR one n (one (false, l)).2 (acc ++ [(one (false, l)).1]) := by simp [manyR]
theorem op_fld1 (ρ : Operand → Value) (o : Oper) (x : Operand) (ho : o.op = .field 32 x 1) (px v : Value) (hx : ρ x = px) {P : Program} {w : World} (hr : (Instr.field 32 px 1).run P w = .ok v w) : (execOp ρ o).run P w = .ok (.value v) w := by
  unfold execOp
  simp only [ho, hx, Sem.run_bind, hr, Result.andThen_ok, Sem.run_pure]
theorem buildI27 (n : Int) (w : World) : (Instr.buildSlice 27 1 #[(0, .int .i64 n)]).run Tryd.prog w = .ok (.slice (some ⟨w.heap.size, 0, none⟩) 1 1) (w.alloc (.cells #[.int .i64 n] 3)) := by kernel_rfl
theorem op_build27 (ρ : Operand → Value) (o : Oper) (x : Operand) (ho : o.op = .buildSlice 27 1 #[(0, x)]) (n : Int) (hx : ρ x = .int .i64 n) (w : World) : (execOp ρ o).run Tryd.prog w = .ok (.value (.slice (some ⟨w.heap.size, 0, none⟩) 1 1)) (w.alloc (.cells #[.int .i64 n] 3)) := by
  unfold execOp
  simp only [ho]
  simp [hx, buildI27, Result.andThen]
theorem op_gtr3 (ρ : Operand → Value) (o : Oper) (x y : Operand) (tt : TypeId) (ho : o.op = .binOp .gtr 3 x y tt) (n m : Int) (hx : ρ x = .int .i64 n) (hy : ρ y = .int .i64 m) (b : Bool) (hb : decide (m < n) = b) {w : World} : (execOp ρ o).run Tryd.prog w = .ok (.value (.bool b)) w := by
  have hu := Tryd.underlying3
  unfold execOp
  simp only [ho, hx, hy]
  simp [go_sem, hu, hb]
theorem op_neqS (ρ : Operand → Value) (o : Oper) (x y : Operand) (tt : TypeId) (ho : o.op = .binOp .neq 9 x y tt) (s t : ByteArray) (hx : ρ x = .string s) (hy : ρ y = .string t) (b : Bool) (hb : (s.toList == t.toList) = !b) {w : World} : (execOp ρ o).run Tryd.prog w = .ok (.value (.bool b)) w := by
  have hu := Tryd.underlying9
  unfold execOp
  simp only [ho, hx, hy]
  simp [go_sem, hu, hb]
theorem op_len35 (ρ : Operand → Value) (o : Oper) (x : Operand) (ho : o.op = .call { callee := .builtin .len, args := #[x], argTypes := #[35] }) (a : Option Addr) (n c : Nat) (hx : ρ x = .slice a n c) {w : World} : (execOp ρ o).run Tryd.prog w = .ok (.value (.int .i64 (n : Int))) w := op_len ρ o x 35 32 Tryd.underlying35 ho a n c hx
theorem store_sl27 {W : World} {b : Nat} {C : Array Value} {t : TypeId} (h : W.heap[b]? = some (.cells C t (0, 0))) (o : Nat) (ho : o < C.size) (x : Option Addr) (n c : Nat) : (Instr.storeAt 27 (.pointer (some ⟨b, o, none⟩)) (.slice x n c)).run Tryd.prog W = .ok () (W.setCell ⟨b, o, none⟩ (.slice x n c)) := by
  have hc : W.cell? ⟨b, o, none⟩ = some C[o] := by rw [cell_row h]; simp [ho]
  have hf := frozen_row (o := o) h
  have ha := Tryd.isAgg27
  have hs : ∀ w, (sizeOf 27).run Tryd.prog w = .ok 1 w := fun w => by kernel_rfl
  simp [go_sem, ha, hc, hf, hs]
theorem op_call2 {P : Program} {ops : Array Oper} {Q : Exit → Act → World → Prop} {oi : Oper} {a : Act} {w : World} {K : Act → World → Prop} {i : Nat} {R : Ending → World → Prop} (dst f : Nat) (hi : ops[i]? = some oi)
    (hd : oi.dst = some dst) (hw : Region.wanted oi (yielded ops a.tmps) = true) (x y : Operand) (ts : Array TypeId) (hop : oi.op = Op.call { callee := Callee.value (Operand.func f), args := #[x, y], argTypes := ts })
    (vx vy : Value) (hx : a.eval x = vx) (hy : a.eval y = vy) (hcf : ∀ args w, (callFunc f args).run P w = .ok (.enter f args) w) (hc : Calls P f #[vx, vy] w R)
    (hK : ∀ e w', R e w' → ∃ v, e = .returned v ∧ K (a.put (some dst) v) w') : wpOp P ops Q i K a w := by
  refine wpOp_step hi (fun K' hK' => ?_)
  rw [if_pos hw]
  have hrun : (execOp a.eval oi).run P w = .ok (.enter f #[vx, vy]) w := by
    have hff : a.eval (.func f) = .func (.func f) #[] #[] := rfl
    unfold execOp
    simp [hop, resolve, hff, Deferred.ofValue, invoke, hx, hy]
    exact hcf _ _
  unfold Oper.wp
  rw [hrun, Oper.upon_enter]
  refine hc.mono ?_
  intro e w' hR
  obtain ⟨v, rfl, hW⟩ := hK e w' hR
  show K' (a.put oi.dst v) w'
  rw [hd]
  exact hK' _ _ hW
theorem step_append_any {ops : Array Oper} {Q : Exit → Act → World → Prop} {md : Region.Mode} {S : World → Prop} {o : Oper} {fuel : Nat} {listed : Array Bool} {a : Act} {w : World} (j dst : Nat) (hj : ops[j]? = some o)
    (hr : Region.ready md ops listed = [j]) (hdst : o.dst = some dst) (hgd : o.guard = none) (t e sz by' : Nat) (z : Value) (ht : Tryd.prog.underlying t = some (.slice e)) (hi : (Tryd.prog.info? e).map (fun i => (i.zero, i.size, i.bytes)) = some (some z, sz, by')) (hz : z.cells.size = sz) (hsz : 0 < sz) (hby : by' ≤ 64)
    (s x : Operand) (hop : o.op = Op.call { callee := Callee.builtin Builtin.append, args := #[s, x], argTypes := #[t, t] })
    (base : Nat) (u y : Value) (n : Nat) (xs news : List Value) (hs : a.eval s = u) (hy : a.eval x = y) (h : w.ownsRow base e sz u n xs) (hx : Row w y 1 news) (hl : news.length = sz) (h1 : ∀ u ∈ news, u.oneCell' = true) (hn : n ≤ 1000000000) (hb : base ≤ w.heap.size)
    (hK : ∀ u' w', w'.ownsRow base e sz u' (n + 1) (xs ++ news) → w.grownBy w' u.ownBlock → S w' ∧ wpAnyH Tryd.prog md ops Q S fuel (listed.setIfInBounds j true) (a.put (some dst) u') w') :
    wpAnyH Tryd.prog md ops Q S (fuel + 1) listed a w := by
  refine step_by j hj hr (fun K hK' => ?_)
  have hw : Region.wanted o (yielded ops a.tmps) = true := by simp [Region.wanted, hgd]
  rw [if_pos hw]
  have hbb : (n + 1) * by' ≤ (n + 1) * 64 := Nat.mul_le_mul_left _ hby
  obtain ⟨v', w', hrun, r1, r2⟩ := run_append_row (P := Tryd.prog) w base t o.type e z sz by' ht hi hz hsz u n xs h y 1 news hx (by omega) h1 (by omega) (by omega) hb
  have hE : (execOp a.eval o).run Tryd.prog w = .ok (.value v') w' := by
    simp [execOp, hop, resolve, invoke, builtin, hs, hy, hrun, Result.andThen]
  unfold Oper.wp
  rw [hE, Oper.upon_value, hdst]
  have := hK v' w' r1 r2
  exact hK' _ _ this.1 this.2
theorem Tryd.enters29t (args : Array Value) (w : World) : (callFunc 29 args).run Tryd.prog w = .ok (.enter 29 args) w := by kernel_rfl
theorem RsAt.drewN {w0 w : World} {rb tb fb : Nat} {nm : List UInt8} {vc : Value} {cs : List Cl} {vi : Value} {is : List Ix} {hd : Int} {vr : Value} {rs : List Int} {l : Bool × List Vl} (h : RsAt w0 w rb tb fb nm vc cs vi is hd vr rs l) (m : Nat) : RsAt w0 (w.drewN m) rb tb fb nm vc cs vi is hd vr rs l :=
  h.read ((Off.refl _ _).drewN m) (h.rd.off (fp := []) ((Off.refl [] w).drewN m) (fun k hk => by cases hk) (by simp))
theorem RsAt.below' {w0 w w' : World} {rb tb fb : Nat} {nm : List UInt8} {vc : Value} {cs : List Cl} {vi : Value} {is : List Ix} {hd : Int} {vr : Value} {rs : List Int} {l : Bool × List Vl} (h : RsAt w0 w rb tb fb nm vc cs vi is hd vr rs l) (hb : Below w.heap.size w w') : RsAt w0 w' rb tb fb nm vc cs vi is hd vr rs l :=
  h.read (Off.of_below hb _) (h.rd.off (fp := []) (Off.of_below hb []) (fun k hk => by cases hk) (by simp))
/-- What the last comparison reads. -/
structure TeS (tb gb : Nat) (T : Tb) (p : Pl) (g0 : Value) (bad : Bool) (v : Value) (bs : List UInt8) (W : World) : Prop where
  tb : TBox W tb T p
  tbl : TbAt W T p
  g0 : W.cell? ⟨gb, 0, none⟩ = some g0
  g1 : W.cell? ⟨gb, 1, none⟩ = some (.bool bad)
  sl : Sl W v bs
theorem TeS.belowW {tb gb : Nat} {T : Tb} {p : Pl} {g0 : Value} {bad : Bool} {v : Value} {bs : List UInt8} {w w' : World} (h : TeS tb gb T p g0 bad v bs w) (hb : Below w.heap.size w w') : TeS tb gb T p g0 bad v bs w' :=
  ⟨h.tb.belowW hb, h.tbl.belowW hb, cell_belowW h.g0 hb, cell_belowW h.g1 hb, h.sl.belowW hb⟩
set_option maxHeartbeats 16000000 in
theorem rtable27 {w : World} {v : Value} {bs : List UInt8} (h : Sl w v bs) (hl : bs.length ≤ 1048576) : Calls Tryd.prog 27 #[v] w (TableEnd w bs) := by
  obtain ⟨va, vk, rfl, hv1, hv2⟩ := h.len
  clear hv1 hv2
  obtain ⟨W0, hW0⟩ : ∃ W, w.alloc (.cells #[.string { data := #[] }, .slice none 0 0, .slice none 0 0, .int .i64 0, .slice none 0 0] 29) = W := ⟨_, rfl⟩
  have hb0 : Below w.heap.size w W0 := by rw [← hW0]; exact (Below.refl _ _).alloc (Nat.le_refl _) _
  have hr0 : W0.heap[w.heap.size]? = some (.cells #[.string { data := #[] }, .slice none 0 0, .slice none 0 0, .int .i64 0, .slice none 0 0] 29 (0, 0)) := by rw [← hW0]; exact heap_alloc_new w _
  have HS := hide (rsplit_start (h.belowW hb0) (by omega))
  have HSV := hide h
  have HL := hide hl
  have HLL : Hid ((startOf bs).2.length ≤ 1048576) := Nat.le_trans startOf_len hl
  have HR0 := hide hr0
  have HB0 := hide hb0
  obtain ⟨s0, hs0⟩ : ∃ s, s = startOf bs := ⟨_, rfl⟩
  rw [← hs0] at HS HLL
  have HS0 := hide hs0
  clear hs0 h hl hr0 hb0
  go_enter Tryd.func27, Tryd.ntmps27
  go_upto_region 1 with fail
  try rw [hW0]
  clear hW0
  generalize hrb : w.heap.size = rb at *
  have HQ : Hid (w.heap.size = rb) := hrb
  clear hrb
  go_upto_region 3 with (go_at_call 16; refine HS.out.mono ?_; rintro e W1 ⟨ao, c, rfl, hb1, hrow⟩; have HB1 := hide hb1; have HRW := hide hrow; clear hb1 hrow)
  try simp only [Bool.not_not]
  have HR2 : Hid (Rx (W1.alloc (.cells #[.slice ao s0.2.length c, .bool s0.1] 88)) W1.heap.size s0) := ⟨ao, c, heap_alloc_new W1 _, HRW.out.off ((Off.refl [] W1).alloc _) (fun k hk => by cases hk)⟩
  have HX2 : Hid (Below w.heap.size w (W1.alloc (.cells #[.slice ao s0.2.length c, .bool s0.1] 88)) ∧ w.heap.size ≤ rb ∧ w.heap.size ≤ W1.heap.size ∧ rb ≠ W1.heap.size ∧ (W1.alloc (.cells #[.slice ao s0.2.length c, .bool s0.1] 88)).heap[rb]? = some (.cells #[.string { data := #[] }, .slice none 0 0, .slice none 0 0, .int .i64 0, .slice none 0 0] 29 (0, 0))) := by
    have hbl := HB1.out.alloc HB1.out.size (.cells #[.slice ao s0.2.length c, .bool s0.1] 88)
    have h1 := lt_of_heap HR0.out
    have h2 := HB1.out.size
    have h3 := HB0.out.size
    have h4 := HQ.out
    refine ⟨?_, by omega, by omega, by omega, (hbl.block rb h1).trans HR0.out⟩
    rw [HQ.out]
    exact HB0.out.trans (hbl.mono (by omega))
  clear HRW HB1 HB0 HR0 HS
  generalize W1.alloc (.cells #[.slice ao s0.2.length c, .bool s0.1] 88) = W2 at *
  generalize W1.heap.size = gb at *
  have HT0 := hide (take50 HR2.out 2)
  unfold TakeEnd valOf at HT0
  generalize hA0 : tk 2 s0 = p0 at HT0
  obtain ⟨V0, q0⟩ := p0
  simp only at HT0
  have HA0 := hide hA0
  clear hA0
  have hfd0 : ∀ w, (Instr.field 32 (.agg #[.int .i64 V0.ty, .int .i64 V0.n, .string (strOf V0.t), .bool V0.b]) 2).run Tryd.prog w = .ok (.string (strOf V0.t)) w := fun w => by kernel_rfl
  go_wp2_with fail
  refine HT0.out.mono ?_
  rintro e Y0 ⟨hO0, rfl, hR0⟩
  have HR0 := hide hR0
  have HO0 := hide hO0
  clear hO0 hR0 HT0
  go_upto_region 4 with fail
  have HTS : Hid (RsAt w (Y0.alloc (.cells #[.string (strOf V0.t), .slice none 0 0, .slice none 0 0, .int .i64 0, .slice none 0 0] 29)) rb Y0.heap.size gb V0.t (.slice none 0 0) [] (.slice none 0 0) [] 0 (.slice none 0 0) [] q0) := by
    obtain ⟨x1, x2, x3, x4, x5⟩ := HX2.out
    have hl := lt_of_heap x5
    have hs := HO0.out.size
    have hby := HO0.out.below x1.size (by simpa using x3)
    exact ⟨(x1.trans hby).alloc (Nat.le_trans x1.size hs) _, (Below.heap_alloc _ _ _ (Nat.lt_of_lt_of_le hl hs)).trans ((HO0.out.block rb hl (by simpa using x4)).trans x5), heap_alloc_new Y0 _, World.ownsRow_nil _ _ _ _, World.ownsRow_nil _ _ _ _, World.ownsRow_nil _ _ _ _,
      HR0.out.off (fp := []) ((Off.refl [] Y0).alloc _) (fun k hk => by cases hk) (by simp), x2, Nat.le_trans x1.size hs, x3, by omega⟩
  have HLQ : Hid (q0.2.length ≤ 1048576) := by have h1 := (tk_len 2 s0).1; rw [HA0.out] at h1; exact Nat.le_trans h1 HLL.out
  generalize Y0.alloc (.cells #[.string (strOf V0.t), .slice none 0 0, .slice none 0 0, .int .i64 0, .slice none 0 0] 29) = W3 at *
  generalize Y0.heap.size = tb at *
  clear HO0 HX2 HR0 HR2 HLL
  have HRx : Hid (Rx W3 gb q0) := HTS.out.rd
  have HT1 := hide (take50 HRx.out 1)
  unfold TakeEnd valOf at HT1
  generalize hA1 : tk 1 q0 = p1 at HT1
  obtain ⟨V1, q1⟩ := p1
  simp only at HT1
  have HA1 := hide hA1
  clear hA1
  have hfd1 : ∀ w, (Instr.field 32 (.agg #[.int .i64 V1.ty, .int .i64 V1.n, .string (strOf V1.t), .bool V1.b]) 1).run Tryd.prog w = .ok (.int .i64 V1.n) w := fun w => by kernel_rfl
  go_wp2_with fail
  refine HT1.out.mono ?_
  rintro e Y1 ⟨hO1, rfl, hR1⟩
  have HR1 := hide hR1
  have HO1 := hide hO1
  clear hO1 hR1 HT1
  have HTS1 := hide (HTS.out.read HO1.out HR1.out)
  have HLQ1 : Hid (q1.2.length ≤ 1048576) := by have h1 := (tk_len 1 q0).1; rw [HA1.out] at h1; exact Nat.le_trans h1 HLQ.out
  clear HTS HRx HO1 HR1 HLQ
  go_upto_region 5 with fail
  generalize hn1 : V1.n = n1 at *
  have HN1 := hide hn1
  clear hn1 hfd0 hfd1
  generalize hnm : V0.t = nm at *
  have HNM := hide hnm
  clear hnm
  go_upto_block 0 with fail
  go_cut [] (fun wx => ∃ (vc : Value) (cs : List Cl) (s : Bool × List Vl), manyR colR n1.toNat q1 [] = (cs, s) ∧ cs.length ≤ 1048577 ∧ s.2.length ≤ 1048576 ∧ RsAt w wx rb tb gb nm vc cs (.slice none 0 0) [] 0 (.slice none 0 0) [] s)
  case first =>
    go_wp2_with fail
    go_loopw [9] (fun i wr => ∃ (k : Nat) (vc : Value) (cs : List Cl) (s : Bool × List Vl), i = .int .i64 (k : Int) ∧ k ≤ 1048577 ∧ cs.length = k ∧ (s.1 = false → k + s.2.length ≤ 1048576) ∧ s.2.length ≤ 1048576 ∧ manyR colR (n1.toNat - k) s cs = manyR colR n1.toNat q1 [] ∧ RsAt w wr rb tb gb nm vc cs (.slice none 0 0) [] 0 (.slice none 0 0) [] s) (fun i _ => n1.toNat - (intOf i).toNat)
    case atStart => exact ⟨0, _, [], _, rfl, by omega, rfl, fun _ => by have := HLQ1.out; omega, HLQ1.out, rfl, HTS1.out⟩
    case round =>
      clear HLQ1 HTS1
      obtain ⟨k, vc, cs, s, rfl, hkb, hck, hkl, hsl, hE, hTS⟩ := hrel
      have HE := hide hE
      have HTS := hide hTS
      have HCK := hide hck
      have HKL := hide hkl
      have HSL := hide hsl
      clear hE hTS hck hkl hsl
      by_cases hlt : (k : Int) < n1
      · have hd : decide ((k : Int) < n1) = true := decide_eq_true hlt
        obtain ⟨bad, l⟩ := s
        obtain ⟨ao, c, hf, hrow⟩ := HTS.out.rd
        have cf : wr.cell? ⟨gb, 1, none⟩ = some (.bool bad) := by rw [cell_row hf]; rfl
        clear hf hrow
        cases bad with
        | true =>
          go_wp2_with fail
          go_meet
          exact ⟨_, _, _, by rw [← HE.out, manyR_bad], by rw [HCK.out]; exact hkb, HSL.out, HTS.out⟩
        | false =>
          obtain ⟨m, hm⟩ : ∃ m, n1.toNat - k = m + 1 := ⟨n1.toNat - k - 1, by omega⟩
          have HM : Hid (n1.toNat - (k + 1) = m) := by unfold Hid; omega
          have HE1 : Hid (manyR colR m (colR (false, l)).2 (cs ++ [(colR (false, l)).1]) = manyR colR n1.toNat q1 []) := by unfold Hid; rw [← HE.out, hm, manyR_go]
          have HKF : Hid (k + l.length ≤ 1048576) := HKL.out rfl
          clear hm HE HKL
          have HRw : Hid (Rx wr gb (false, l)) := HTS.out.rd
          have HT10 := hide (take50 HRw.out 2)
          unfold TakeEnd valOf at HT10
          generalize hA10 : tk 2 (false, l) = p10 at HT10
          obtain ⟨V10, q10⟩ := p10
          simp only at HT10
          have HA10 := hide hA10
          clear hA10
          have hfd10 : ∀ w, (Instr.field 32 (.agg #[.int .i64 V10.ty, .int .i64 V10.n, .string (strOf V10.t), .bool V10.b]) 2).run Tryd.prog w = .ok (.string (strOf V10.t)) w := fun w => by kernel_rfl
          go_wp2_with fail
          refine HT10.out.mono ?_
          rintro e Y10 ⟨hO10, rfl, hR10⟩
          have HR10 := hide hR10
          have HO10 := hide hO10
          clear hO10 hR10 HT10
          go_upto_region 9 with fail
          have HU10 : Hid (Off [gb] wr (Y10.alloc (.cells #[.string (strOf V10.t), .int .i64 0, .bool false, .bool false] 24))) := HO10.out.alloc _
          have HRx10 : Hid (Rx (Y10.alloc (.cells #[.string (strOf V10.t), .int .i64 0, .bool false, .bool false] 24)) gb q10) := HR10.out.off (fp := []) ((Off.refl [] Y10).alloc _) (fun k hk => by cases hk) (by simp)
          have HC10 : Hid ((Y10.alloc (.cells #[.string (strOf V10.t), .int .i64 0, .bool false, .bool false] 24)).heap[Y10.heap.size]? = some (.cells #[.string (strOf V10.t), .int .i64 0, .bool false, .bool false] 24 (0, 0))) := heap_alloc_new _ _
          have HCB : Hid (wr.heap.size ≤ Y10.heap.size ∧ Y10.heap.size ≠ gb) := ⟨HO10.out.size, fun e => by
            obtain ⟨x, y, hx⟩ := HTS.out.fbox
            have h1 := lt_of_heap hx
            have h2 := HO10.out.size
            omega⟩
          clear HO10 HR10 HRw hfd10
          generalize Y10.alloc (.cells #[.string (strOf V10.t), .int .i64 0, .bool false, .bool false] 24) = U10 at *
          generalize Y10.heap.size = cb at *
          have HT11 := hide (take50 HRx10.out 1)
          unfold TakeEnd valOf at HT11
          generalize hA11 : tk 1 q10 = p11 at HT11
          obtain ⟨V11, q11⟩ := p11
          simp only at HT11
          have HA11 := hide hA11
          clear hA11
          have hfd11 : ∀ w, (Instr.field 32 (.agg #[.int .i64 V11.ty, .int .i64 V11.n, .string (strOf V11.t), .bool V11.b]) 1).run Tryd.prog w = .ok (.int .i64 V11.n) w := fun w => by kernel_rfl
          go_wp2_with fail
          refine HT11.out.mono ?_
          rintro e Y11 ⟨hO11, rfl, hR11⟩
          have HR11 := hide hR11
          have HO11 := hide hO11
          clear hO11 hR11 HT11
          have hc11 : Y11.heap[cb]? = some (.cells #[.string (strOf V10.t), .int .i64 0, .bool false, .bool false] 24 (0, 0)) := (HO11.out.block cb (lt_of_heap HC10.out) (by simpa using HCB.out.2)).trans HC10.out
          have HD11 := hide hc11
          have hcd : Y11.cell? ⟨cb, 1, none⟩ = some (.int .i64 0) := by rw [cell_row hc11]; rfl
          have hfz := frozen_row (o := 1) hc11
          clear hc11
          go_upto_region 10 with fail
          have HU11 : Hid (Off [gb] wr (Y11.setCell ⟨cb, 1, none⟩ (.int .i64 V11.n))) := (HU10.out.trans HO11.out (by simp)).setCell _ _ (.inr HCB.out.1)
          have HRx11 : Hid (Rx (Y11.setCell ⟨cb, 1, none⟩ (.int .i64 V11.n)) gb q11) := HR11.out.off (fp := [cb]) ((Off.refl [cb] Y11).setCell _ _ (.inl (by simp))) (fun k hk cur fr hh => by
            simp at hk
            subst hk
            rw [HD11.out] at hh
            simp at hh) (by simpa using HCB.out.2.symm)
          have HC11 : Hid ((Y11.setCell ⟨cb, 1, none⟩ (.int .i64 V11.n)).heap[cb]? = some (.cells #[.string (strOf V10.t), .int .i64 V11.n, .bool false, .bool false] 24 (0, 0))) := heap_set_same _ HD11.out
          clear HO11 HR11 hcd hfz HD11 HU10 HC10 HRx10 hfd11
          generalize Y11.setCell ⟨cb, 1, none⟩ (.int .i64 V11.n) = U11 at *
          have HT12 := hide (take50 HRx11.out 3)
          unfold TakeEnd valOf at HT12
          generalize hA12 : tk 3 q11 = p12 at HT12
          obtain ⟨V12, q12⟩ := p12
          simp only at HT12
          have HA12 := hide hA12
          clear hA12
          have hfd12 : ∀ w, (Instr.field 32 (.agg #[.int .i64 V12.ty, .int .i64 V12.n, .string (strOf V12.t), .bool V12.b]) 3).run Tryd.prog w = .ok (.bool V12.b) w := fun w => by kernel_rfl
          go_wp2_with fail
          refine HT12.out.mono ?_
          rintro e Y12 ⟨hO12, rfl, hR12⟩
          have HR12 := hide hR12
          have HO12 := hide hO12
          clear hO12 hR12 HT12
          have hc12 : Y12.heap[cb]? = some (.cells #[.string (strOf V10.t), .int .i64 V11.n, .bool false, .bool false] 24 (0, 0)) := (HO12.out.block cb (lt_of_heap HC11.out) (by simpa using HCB.out.2)).trans HC11.out
          have HD12 := hide hc12
          have hcd : Y12.cell? ⟨cb, 2, none⟩ = some (.bool false) := by rw [cell_row hc12]; rfl
          have hfz := frozen_row (o := 2) hc12
          clear hc12
          go_upto_region 11 with fail
          have HU12 : Hid (Off [gb] wr (Y12.setCell ⟨cb, 2, none⟩ (.bool V12.b))) := (HU11.out.trans HO12.out (by simp)).setCell _ _ (.inr HCB.out.1)
          have HRx12 : Hid (Rx (Y12.setCell ⟨cb, 2, none⟩ (.bool V12.b)) gb q12) := HR12.out.off (fp := [cb]) ((Off.refl [cb] Y12).setCell _ _ (.inl (by simp))) (fun k hk cur fr hh => by
            simp at hk
            subst hk
            rw [HD12.out] at hh
            simp at hh) (by simpa using HCB.out.2.symm)
          have HC12 : Hid ((Y12.setCell ⟨cb, 2, none⟩ (.bool V12.b)).heap[cb]? = some (.cells #[.string (strOf V10.t), .int .i64 V11.n, .bool V12.b, .bool false] 24 (0, 0))) := heap_set_same _ HD12.out
          clear HO12 HR12 hcd hfz HD12 HU11 HC11 HRx11 hfd12
          generalize Y12.setCell ⟨cb, 2, none⟩ (.bool V12.b) = U12 at *
          have HT13 := hide (take50 HRx12.out 3)
          unfold TakeEnd valOf at HT13
          generalize hA13 : tk 3 q12 = p13 at HT13
          obtain ⟨V13, q13⟩ := p13
          simp only at HT13
          have HA13 := hide hA13
          clear hA13
          have hfd13 : ∀ w, (Instr.field 32 (.agg #[.int .i64 V13.ty, .int .i64 V13.n, .string (strOf V13.t), .bool V13.b]) 3).run Tryd.prog w = .ok (.bool V13.b) w := fun w => by kernel_rfl
          go_wp2_with fail
          refine HT13.out.mono ?_
          rintro e Y13 ⟨hO13, rfl, hR13⟩
          have HR13 := hide hR13
          have HO13 := hide hO13
          clear hO13 hR13 HT13
          have hc13 : Y13.heap[cb]? = some (.cells #[.string (strOf V10.t), .int .i64 V11.n, .bool V12.b, .bool false] 24 (0, 0)) := (HO13.out.block cb (lt_of_heap HC12.out) (by simpa using HCB.out.2)).trans HC12.out
          have HD13 := hide hc13
          have hcd : Y13.cell? ⟨cb, 3, none⟩ = some (.bool false) := by rw [cell_row hc13]; rfl
          have hfz := frozen_row (o := 3) hc13
          clear hc13
          go_upto_region 12 with fail
          have HU13 : Hid (Off [gb] wr (Y13.setCell ⟨cb, 3, none⟩ (.bool V13.b))) := (HU12.out.trans HO13.out (by simp)).setCell _ _ (.inr HCB.out.1)
          have HRx13 : Hid (Rx (Y13.setCell ⟨cb, 3, none⟩ (.bool V13.b)) gb q13) := HR13.out.off (fp := [cb]) ((Off.refl [cb] Y13).setCell _ _ (.inl (by simp))) (fun k hk cur fr hh => by
            simp at hk
            subst hk
            rw [HD13.out] at hh
            simp at hh) (by simpa using HCB.out.2.symm)
          have HC13 : Hid ((Y13.setCell ⟨cb, 3, none⟩ (.bool V13.b)).heap[cb]? = some (.cells #[.string (strOf V10.t), .int .i64 V11.n, .bool V12.b, .bool V13.b] 24 (0, 0))) := heap_set_same _ HD13.out
          clear HO13 HR13 hcd hfz HD13 HU12 HC12 HRx12 hfd13
          generalize Y13.setCell ⟨cb, 3, none⟩ (.bool V13.b) = U13 at *
          have HE2 : Hid (manyR colR m q13 (cs ++ [⟨V10.t, V11.n, V12.b, V13.b⟩]) = manyR colR n1.toNat q1 []) := by
            have e : colR (false, l) = (⟨V10.t, V11.n, V12.b, V13.b⟩, q13) := by unfold colR; simp only [HA10.out, HA11.out, HA12.out, HA13.out]
            unfold Hid
            rw [← HE1.out, e]
          have HLE : Hid (q13.2.length ≤ l.length ∧ (q13.1 = false → q13.2.length < l.length)) := by
            have h0 := tk_len 2 (false, l); rw [HA10.out] at h0; simp only at h0; have h1 := tk_len 1 q10; rw [HA11.out] at h1; simp only at h1; have h2 := tk_len 3 q11; rw [HA12.out] at h2; simp only at h2; have h3 := tk_len 3 q12; rw [HA13.out] at h3; simp only at h3
            exact ⟨by omega, fun hh => by have g3 := (h3.2 hh); have g2 := (h2.2 g3.1); have g1 := (h1.2 g2.1); have g0 := (h0.2 g1.1); omega⟩
          have HTS2 := hide (HTS.out.read HU13.out HRx13.out)
          have ct : U13.cell? ⟨tb, 1, none⟩ = some vc := by rw [cell_row HTS2.out.box]; rfl
          have c0 : U13.cell? ⟨cb, 0, none⟩ = some (.string (strOf V10.t)) := by rw [cell_row HC13.out]; rfl
          have c1 : U13.cell? ⟨cb, 1, none⟩ = some (.int .i64 V11.n) := by rw [cell_row HC13.out]; rfl
          have c2 : U13.cell? ⟨cb, 2, none⟩ = some (.bool V12.b) := by rw [cell_row HC13.out]; rfl
          have c3 : U13.cell? ⟨cb, 3, none⟩ = some (.bool V13.b) := by rw [cell_row HC13.out]; rfl
          clear HA10 HA11 HA12 HA13 HTS HU13 HE1 HRx13 HC13 HCB
          obtain ⟨cv0, cv1, rfl⟩ := owns_len HTS2.out.oc
          generalize V10.t = x0 at *
          generalize V11.n = x1 at *
          generalize V12.b = x2 at *
          generalize V13.b = x3 at *
          go_wp2_with (refine wpList_append_any 25 24 4 32 _ Tryd.under25t Tryd.info24 rfl (by omega) (by omega) rfl (.tmp 60) (.tmp 62) rfl w.heap.size _ _ cs.length (clsCells cs) (clCells ⟨x0, x1, x2, x3⟩) rfl rfl (HTS2.out.alloc _).oc (row_new U13 24 (clCells ⟨x0, x1, x2, x3⟩)) rfl (by intro u hu; simp [clCells, ixCells] at hu; rcases hu with rfl | rfl | rfl | rfl <;> rfl) (by have := HKF.out; have := HCK.out; omega) (HTS2.out.alloc (.cells #[.string (strOf x0), .int .i64 x1, .bool x2, .bool x3] 24)).below.size ?_; intro u7 W7 ho7 hg7; have HO7 := hide ho7; have HG7 := hide hg7; clear ho7 hg7; obtain ⟨cv3, cv4, rfl⟩ := owns_len HO7.out; have HB7 := hide (grown_rec (HTS2.out.alloc (.cells #[.string (strOf x0), .int .i64 x1, .bool x2, .bool x3] 24)).oc HG7.out (HTS2.out.alloc _).box (by decide)); have hcd : W7.cell? ⟨tb, 1, none⟩ = some (.slice cv0 cs.length cv1) := (by rw [cell_row HB7.out]; rfl); have hfz := frozen_row (o := 1) HB7.out; clear ct c0 c1 c2 c3)
          go_roundw
          case rel =>
            have hts := (HTS2.out.alloc (.cells #[.string (strOf x0), .int .i64 x1, .bool x2, .bool x3] 24)).growC ⟨x0, x1, x2, x3⟩ HO7.out HG7.out
            exact ⟨k + 1, _, _, q13, by go_num, by have := HKF.out; omega, by simp [HCK.out], fun hh => by have := HLE.out.2 hh; have := HKF.out; omega, by have := HLE.out.1; have := HKF.out; omega, by rw [HM.out]; exact HE2.out, hts⟩
          case measure => simp [intOf]; omega
      · have hd : decide ((k : Int) < n1) = false := decide_eq_false hlt
        go_wp2_with fail
        go_meet
        have hz : n1.toNat - k = 0 := by omega
        exact ⟨_, _, _, by rw [← HE.out, hz]; rfl, by rw [HCK.out]; exact hkb, HSL.out, HTS.out⟩
  case rest =>
    clear HLQ1 HTS1
    obtain ⟨vc, cs, sC, hE, hxl, hsl, hTS⟩ := hcut
    have HEC := hide hE
    have HTS := hide hTS
    have HXLC := hide hxl
    have HSL := hide hsl
    clear hE hTS hxl hsl
    have HRx := hide HTS.out.rd
    have HT20 := hide (take50 HRx.out 1)
    unfold TakeEnd valOf at HT20
    generalize hA20 : tk 1 sC = p20 at HT20
    obtain ⟨V20, q20⟩ := p20
    simp only at HT20
    have HA20 := hide hA20
    clear hA20
    have hfd20 : ∀ w, (Instr.field 32 (.agg #[.int .i64 V20.ty, .int .i64 V20.n, .string (strOf V20.t), .bool V20.b]) 1).run Tryd.prog w = .ok (.int .i64 V20.n) w := fun w => by kernel_rfl
    go_wp2_with fail
    refine HT20.out.mono ?_
    rintro e Y20 ⟨hO20, rfl, hR20⟩
    have HR20 := hide hR20
    have HO20 := hide hO20
    clear hO20 hR20 HT20
    have HTS2 := hide (HTS.out.read HO20.out HR20.out)
    have HLQ2 : Hid (q20.2.length ≤ 1048576) := by have h1 := (tk_len 1 sC).1; rw [HA20.out] at h1; exact Nat.le_trans h1 HSL.out
    clear HTS HRx HO20 HR20 HSL
    go_upto_region 14 with fail
    generalize hn2 : V20.n = n2 at *
    have HN2 := hide hn2
    clear hn2 hfd20
    go_upto_block 2 with fail
    go_cut [] (fun wx => ∃ (vi : Value) (is : List Ix) (s : Bool × List Vl), manyR idxR n2.toNat q20 [] = (is, s) ∧ is.length ≤ 1048577 ∧ s.2.length ≤ 1048576 ∧ RsAt w wx rb tb gb nm vc cs vi is 0 (.slice none 0 0) [] s)
    case first =>
      go_wp2_with fail
      go_loopw [11] (fun i wr => ∃ (k : Nat) (vi : Value) (is : List Ix) (s : Bool × List Vl), i = .int .i64 (k : Int) ∧ k ≤ 1048577 ∧ is.length = k ∧ (s.1 = false → k + s.2.length ≤ 1048576) ∧ s.2.length ≤ 1048576 ∧ manyR idxR (n2.toNat - k) s is = manyR idxR n2.toNat q20 [] ∧ RsAt w wr rb tb gb nm vc cs vi is 0 (.slice none 0 0) [] s) (fun i _ => n2.toNat - (intOf i).toNat)
      case atStart => exact ⟨0, _, [], _, rfl, by omega, rfl, fun _ => by have := HLQ2.out; omega, HLQ2.out, rfl, HTS2.out⟩
      case round =>
        clear HLQ2 HTS2
        obtain ⟨k, vi, is, s, rfl, hkb, hck, hkl, hsl, hE, hTS⟩ := hrel
        have HE := hide hE
        have HTS := hide hTS
        have HCK := hide hck
        have HKL := hide hkl
        have HSL := hide hsl
        clear hE hTS hck hkl hsl
        by_cases hlt : (k : Int) < n2
        · have hd : decide ((k : Int) < n2) = true := decide_eq_true hlt
          obtain ⟨bad, l⟩ := s
          obtain ⟨ao, c, hf, hrow⟩ := HTS.out.rd
          have cf : wr.cell? ⟨gb, 1, none⟩ = some (.bool bad) := by rw [cell_row hf]; rfl
          clear hf hrow
          cases bad with
          | true =>
            go_wp2_with fail
            go_meet
            exact ⟨_, _, _, by rw [← HE.out, manyR_bad], by rw [HCK.out]; exact hkb, HSL.out, HTS.out⟩
          | false =>
            obtain ⟨m, hm⟩ : ∃ m, n2.toNat - k = m + 1 := ⟨n2.toNat - k - 1, by omega⟩
            have HM : Hid (n2.toNat - (k + 1) = m) := by unfold Hid; omega
            have HE1 : Hid (manyR idxR m (idxR (false, l)).2 (is ++ [(idxR (false, l)).1]) = manyR idxR n2.toNat q20 []) := by unfold Hid; rw [← HE.out, hm, manyR_go]
            have HKF : Hid (k + l.length ≤ 1048576) := HKL.out rfl
            clear hm HE HKL
            have HRw : Hid (Rx wr gb (false, l)) := HTS.out.rd
            have HT30 := hide (take50 HRw.out 2)
            unfold TakeEnd valOf at HT30
            generalize hA30 : tk 2 (false, l) = p30 at HT30
            obtain ⟨V30, q30⟩ := p30
            simp only at HT30
            have HA30 := hide hA30
            clear hA30
            have hfd30 : ∀ w, (Instr.field 32 (.agg #[.int .i64 V30.ty, .int .i64 V30.n, .string (strOf V30.t), .bool V30.b]) 2).run Tryd.prog w = .ok (.string (strOf V30.t)) w := fun w => by kernel_rfl
            go_wp2_with fail
            refine HT30.out.mono ?_
            rintro e Y30 ⟨hO30, rfl, hR30⟩
            have HR30 := hide hR30
            have HO30 := hide hO30
            clear hO30 hR30 HT30
            go_upto_region 18 with fail
            have HU30 : Hid (Off [gb] wr (Y30.alloc (.cells #[.string (strOf V30.t), .int .i64 0, .bool false] 85))) := HO30.out.alloc _
            have HRx30 : Hid (Rx (Y30.alloc (.cells #[.string (strOf V30.t), .int .i64 0, .bool false] 85)) gb q30) := HR30.out.off (fp := []) ((Off.refl [] Y30).alloc _) (fun k hk => by cases hk) (by simp)
            have HC30 : Hid ((Y30.alloc (.cells #[.string (strOf V30.t), .int .i64 0, .bool false] 85)).heap[Y30.heap.size]? = some (.cells #[.string (strOf V30.t), .int .i64 0, .bool false] 85 (0, 0))) := heap_alloc_new _ _
            have HCB : Hid (wr.heap.size ≤ Y30.heap.size ∧ Y30.heap.size ≠ gb) := ⟨HO30.out.size, fun e => by
              obtain ⟨x, y, hx⟩ := HTS.out.fbox
              have h1 := lt_of_heap hx
              have h2 := HO30.out.size
              omega⟩
            clear HO30 HR30 HRw hfd30
            generalize Y30.alloc (.cells #[.string (strOf V30.t), .int .i64 0, .bool false] 85) = U30 at *
            generalize Y30.heap.size = cb at *
            have HT31 := hide (take50 HRx30.out 1)
            unfold TakeEnd valOf at HT31
            generalize hA31 : tk 1 q30 = p31 at HT31
            obtain ⟨V31, q31⟩ := p31
            simp only at HT31
            have HA31 := hide hA31
            clear hA31
            have hfd31 : ∀ w, (Instr.field 32 (.agg #[.int .i64 V31.ty, .int .i64 V31.n, .string (strOf V31.t), .bool V31.b]) 1).run Tryd.prog w = .ok (.int .i64 V31.n) w := fun w => by kernel_rfl
            go_wp2_with fail
            refine HT31.out.mono ?_
            rintro e Y31 ⟨hO31, rfl, hR31⟩
            have HR31 := hide hR31
            have HO31 := hide hO31
            clear hO31 hR31 HT31
            have hc31 : Y31.heap[cb]? = some (.cells #[.string (strOf V30.t), .int .i64 0, .bool false] 85 (0, 0)) := (HO31.out.block cb (lt_of_heap HC30.out) (by simpa using HCB.out.2)).trans HC30.out
            have HD31 := hide hc31
            have hcd : Y31.cell? ⟨cb, 1, none⟩ = some (.int .i64 0) := by rw [cell_row hc31]; rfl
            have hfz := frozen_row (o := 1) hc31
            clear hc31
            go_upto_region 19 with fail
            have HU31 : Hid (Off [gb] wr (Y31.setCell ⟨cb, 1, none⟩ (.int .i64 V31.n))) := (HU30.out.trans HO31.out (by simp)).setCell _ _ (.inr HCB.out.1)
            have HRx31 : Hid (Rx (Y31.setCell ⟨cb, 1, none⟩ (.int .i64 V31.n)) gb q31) := HR31.out.off (fp := [cb]) ((Off.refl [cb] Y31).setCell _ _ (.inl (by simp))) (fun k hk cur fr hh => by
              simp at hk
              subst hk
              rw [HD31.out] at hh
              simp at hh) (by simpa using HCB.out.2.symm)
            have HC31 : Hid ((Y31.setCell ⟨cb, 1, none⟩ (.int .i64 V31.n)).heap[cb]? = some (.cells #[.string (strOf V30.t), .int .i64 V31.n, .bool false] 85 (0, 0))) := heap_set_same _ HD31.out
            clear HO31 HR31 hcd hfz HD31 HU30 HC30 HRx30 hfd31
            generalize Y31.setCell ⟨cb, 1, none⟩ (.int .i64 V31.n) = U31 at *
            have HT32 := hide (take50 HRx31.out 3)
            unfold TakeEnd valOf at HT32
            generalize hA32 : tk 3 q31 = p32 at HT32
            obtain ⟨V32, q32⟩ := p32
            simp only at HT32
            have HA32 := hide hA32
            clear hA32
            have hfd32 : ∀ w, (Instr.field 32 (.agg #[.int .i64 V32.ty, .int .i64 V32.n, .string (strOf V32.t), .bool V32.b]) 3).run Tryd.prog w = .ok (.bool V32.b) w := fun w => by kernel_rfl
            go_wp2_with fail
            refine HT32.out.mono ?_
            rintro e Y32 ⟨hO32, rfl, hR32⟩
            have HR32 := hide hR32
            have HO32 := hide hO32
            clear hO32 hR32 HT32
            have hc32 : Y32.heap[cb]? = some (.cells #[.string (strOf V30.t), .int .i64 V31.n, .bool false] 85 (0, 0)) := (HO32.out.block cb (lt_of_heap HC31.out) (by simpa using HCB.out.2)).trans HC31.out
            have HD32 := hide hc32
            have hcd : Y32.cell? ⟨cb, 2, none⟩ = some (.bool false) := by rw [cell_row hc32]; rfl
            have hfz := frozen_row (o := 2) hc32
            clear hc32
            go_upto_region 20 with fail
            have HU32 : Hid (Off [gb] wr (Y32.setCell ⟨cb, 2, none⟩ (.bool V32.b))) := (HU31.out.trans HO32.out (by simp)).setCell _ _ (.inr HCB.out.1)
            have HRx32 : Hid (Rx (Y32.setCell ⟨cb, 2, none⟩ (.bool V32.b)) gb q32) := HR32.out.off (fp := [cb]) ((Off.refl [cb] Y32).setCell _ _ (.inl (by simp))) (fun k hk cur fr hh => by
              simp at hk
              subst hk
              rw [HD32.out] at hh
              simp at hh) (by simpa using HCB.out.2.symm)
            have HC32 : Hid ((Y32.setCell ⟨cb, 2, none⟩ (.bool V32.b)).heap[cb]? = some (.cells #[.string (strOf V30.t), .int .i64 V31.n, .bool V32.b] 85 (0, 0))) := heap_set_same _ HD32.out
            clear HO32 HR32 hcd hfz HD32 HU31 HC31 HRx31 hfd32
            generalize Y32.setCell ⟨cb, 2, none⟩ (.bool V32.b) = U32 at *
            have HE2 : Hid (manyR idxR m q32 (is ++ [⟨V30.t, V31.n, V32.b⟩]) = manyR idxR n2.toNat q20 []) := by
              have e : idxR (false, l) = (⟨V30.t, V31.n, V32.b⟩, q32) := by unfold idxR; simp only [HA30.out, HA31.out, HA32.out]
              unfold Hid
              rw [← HE1.out, e]
            have HLE : Hid (q32.2.length ≤ l.length ∧ (q32.1 = false → q32.2.length < l.length)) := by
              have h0 := tk_len 2 (false, l); rw [HA30.out] at h0; simp only at h0; have h1 := tk_len 1 q30; rw [HA31.out] at h1; simp only at h1; have h2 := tk_len 3 q31; rw [HA32.out] at h2; simp only at h2
              exact ⟨by omega, fun hh => by have g2 := (h2.2 hh); have g1 := (h1.2 g2.1); have g0 := (h0.2 g1.1); omega⟩
            have HTS2 := hide (HTS.out.read HU32.out HRx32.out)
            have ct : U32.cell? ⟨tb, 2, none⟩ = some vi := by rw [cell_row HTS2.out.box]; rfl
            have c0 : U32.cell? ⟨cb, 0, none⟩ = some (.string (strOf V30.t)) := by rw [cell_row HC32.out]; rfl
            have c1 : U32.cell? ⟨cb, 1, none⟩ = some (.int .i64 V31.n) := by rw [cell_row HC32.out]; rfl
            have c2 : U32.cell? ⟨cb, 2, none⟩ = some (.bool V32.b) := by rw [cell_row HC32.out]; rfl
            clear HA30 HA31 HA32 HTS HU32 HE1 HRx32 HC32 HCB
            obtain ⟨cv0, cv1, rfl⟩ := owns_len HTS2.out.oi
            generalize V30.t = x0 at *
            generalize V31.n = x1 at *
            generalize V32.b = x2 at *
            go_wp2_with (refine wpList_append_any 26 85 3 32 _ Tryd.under26t Tryd.info85 rfl (by omega) (by omega) rfl (.tmp 93) (.tmp 95) rfl w.heap.size _ _ is.length (ixsCells is) (ixCells ⟨x0, x1, x2⟩) rfl rfl (HTS2.out.alloc _).oi (row_new U32 85 (ixCells ⟨x0, x1, x2⟩)) rfl (by intro u hu; simp [clCells, ixCells] at hu; rcases hu with rfl | rfl | rfl <;> rfl) (by have := HKF.out; have := HCK.out; omega) (HTS2.out.alloc (.cells #[.string (strOf x0), .int .i64 x1, .bool x2] 85)).below.size ?_; intro u7 W7 ho7 hg7; have HO7 := hide ho7; have HG7 := hide hg7; clear ho7 hg7; obtain ⟨cv3, cv4, rfl⟩ := owns_len HO7.out; have HB7 := hide (grown_rec (HTS2.out.alloc (.cells #[.string (strOf x0), .int .i64 x1, .bool x2] 85)).oi HG7.out (HTS2.out.alloc _).box (by decide)); have hcd : W7.cell? ⟨tb, 2, none⟩ = some (.slice cv0 is.length cv1) := (by rw [cell_row HB7.out]; rfl); have hfz := frozen_row (o := 2) HB7.out; clear ct c0 c1 c2)
            go_roundw
            case rel =>
              have hts := (HTS2.out.alloc (.cells #[.string (strOf x0), .int .i64 x1, .bool x2] 85)).growI ⟨x0, x1, x2⟩ HO7.out HG7.out
              exact ⟨k + 1, _, _, q32, by go_num, by have := HKF.out; omega, by simp [HCK.out], fun hh => by have := HLE.out.2 hh; have := HKF.out; omega, by have := HLE.out.1; have := HKF.out; omega, by rw [HM.out]; exact HE2.out, hts⟩
            case measure => simp [intOf]; omega
        · have hd : decide ((k : Int) < n2) = false := decide_eq_false hlt
          go_wp2_with fail
          go_meet
          have hz : n2.toNat - k = 0 := by omega
          exact ⟨_, _, _, by rw [← HE.out, hz]; rfl, by rw [HCK.out]; exact hkb, HSL.out, HTS.out⟩
    case rest =>
      clear HLQ2 HTS2
      obtain ⟨vi, is, sI, hE, hxl, hsl, hTS⟩ := hcut
      have HEI := hide hE
      have HTS := hide hTS
      have HXLI := hide hxl
      have HSL := hide hsl
      clear hE hTS hxl hsl
      have HRx := hide HTS.out.rd
      have HT40 := hide (take50 HRx.out 1)
      unfold TakeEnd valOf at HT40
      generalize hA40 : tk 1 sI = p40 at HT40
      obtain ⟨V40, q40⟩ := p40
      simp only at HT40
      have HA40 := hide hA40
      clear hA40
      have hfd40 : ∀ w, (Instr.field 32 (.agg #[.int .i64 V40.ty, .int .i64 V40.n, .string (strOf V40.t), .bool V40.b]) 1).run Tryd.prog w = .ok (.int .i64 V40.n) w := fun w => by kernel_rfl
      go_wp2_with fail
      refine HT40.out.mono ?_
      rintro e Y40 ⟨hO40, rfl, hR40⟩
      have HR40 := hide hR40
      have HO40 := hide hO40
      clear hO40 hR40 HT40
      have HTS2 := hide (HTS.out.read HO40.out HR40.out)
      have HLQ2 : Hid (q40.2.length ≤ 1048576) := by have h1 := (tk_len 1 sI).1; rw [HA40.out] at h1; exact Nat.le_trans h1 HSL.out
      have hcd : Y40.cell? ⟨tb, 3, none⟩ = some (.int .i64 0) := by rw [cell_row HTS2.out.box]; rfl
      have hfz := frozen_row (o := 3) HTS2.out.box
      clear HTS HRx HO40 HR40 HSL
      go_upto_region 22 with fail
      generalize hhd : V40.n = hd at *
      have HHD := hide hhd
      clear hhd hfd40 hcd hfz
      have HTS3 := hide (HTS2.out.head hd)
      clear HTS2
      generalize Y40.setCell ⟨tb, 3, none⟩ (.int .i64 hd) = W5 at *
      have HRx := hide HTS3.out.rd
      have HT41 := hide (take50 HRx.out 1)
      unfold TakeEnd valOf at HT41
      generalize hA41 : tk 1 q40 = p41 at HT41
      obtain ⟨V41, q41⟩ := p41
      simp only at HT41
      have HA41 := hide hA41
      clear hA41
      have hfd41 : ∀ w, (Instr.field 32 (.agg #[.int .i64 V41.ty, .int .i64 V41.n, .string (strOf V41.t), .bool V41.b]) 1).run Tryd.prog w = .ok (.int .i64 V41.n) w := fun w => by kernel_rfl
      go_wp2_with fail
      refine HT41.out.mono ?_
      rintro e Y41 ⟨hO41, rfl, hR41⟩
      have HR41 := hide hR41
      have HO41 := hide hO41
      clear hO41 hR41 HT41
      have HTS4 := hide (HTS3.out.read HO41.out HR41.out)
      have HLQ4 : Hid (q41.2.length ≤ 1048576) := by have h1 := (tk_len 1 q40).1; rw [HA41.out] at h1; exact Nat.le_trans h1 HLQ2.out
      clear HTS3 HRx HO41 HR41 HLQ2
      go_upto_region 23 with fail
      generalize hn3 : V41.n = n3 at *
      have HN3 := hide hn3
      clear hn3 hfd41
      go_upto_block 4 with fail
      go_cut [] (fun wx => ∃ (vr : Value) (rs : List Int) (s : Bool × List Vl), manyR rootR n3.toNat q41 [] = (rs, s) ∧ rs.length ≤ 1048577 ∧ s.2.length ≤ 1048576 ∧ RsAt w wx rb tb gb nm vc cs vi is hd vr rs s)
      case first =>
        go_wp2_with fail
        go_loopw [13] (fun i wr => ∃ (k : Nat) (vr : Value) (rs : List Int) (s : Bool × List Vl), i = .int .i64 (k : Int) ∧ k ≤ 1048577 ∧ rs.length = k ∧ (s.1 = false → k + s.2.length ≤ 1048576) ∧ s.2.length ≤ 1048576 ∧ manyR rootR (n3.toNat - k) s rs = manyR rootR n3.toNat q41 [] ∧ RsAt w wr rb tb gb nm vc cs vi is hd vr rs s) (fun i _ => n3.toNat - (intOf i).toNat)
        case atStart => exact ⟨0, _, [], _, rfl, by omega, rfl, fun _ => by have := HLQ4.out; omega, HLQ4.out, rfl, HTS4.out⟩
        case round =>
          clear HLQ4 HTS4
          obtain ⟨k, vr, rs, s, rfl, hkb, hck, hkl, hsl, hE, hTS⟩ := hrel
          have HE := hide hE
          have HTS := hide hTS
          have HCK := hide hck
          have HKL := hide hkl
          have HSL := hide hsl
          clear hE hTS hck hkl hsl
          by_cases hlt : (k : Int) < n3
          · have hd : decide ((k : Int) < n3) = true := decide_eq_true hlt
            obtain ⟨bad, l⟩ := s
            obtain ⟨ao, c, hf, hrow⟩ := HTS.out.rd
            have cf : wr.cell? ⟨gb, 1, none⟩ = some (.bool bad) := by rw [cell_row hf]; rfl
            clear hf hrow
            cases bad with
            | true =>
              go_wp2_with fail
              go_meet
              exact ⟨_, _, _, by rw [← HE.out, manyR_bad], by rw [HCK.out]; exact hkb, HSL.out, HTS.out⟩
            | false =>
              obtain ⟨m, hm⟩ : ∃ m, n3.toNat - k = m + 1 := ⟨n3.toNat - k - 1, by omega⟩
              have HM : Hid (n3.toNat - (k + 1) = m) := by unfold Hid; omega
              have HE1 : Hid (manyR rootR m (rootR (false, l)).2 (rs ++ [(rootR (false, l)).1]) = manyR rootR n3.toNat q41 []) := by unfold Hid; rw [← HE.out, hm, manyR_go]
              have HKF : Hid (k + l.length ≤ 1048576) := HKL.out rfl
              clear hm HE HKL
              go_upto_region 26 with fail
              have HTd := hide (HTS.out.drewN 1)
              clear HTS cf
              refine wp_region_held_drew (S := fun _ => True) (by kernel_rfl) trivial (fun hH => ?_)
              have HT50 := hide (take50 HTd.out.rd 1)
              unfold TakeEnd valOf at HT50
              generalize hA50 : tk 1 (false, l) = p50 at HT50
              obtain ⟨V50, q50⟩ := p50
              simp only at HT50
              have HE2 : Hid (manyR rootR m q50 (rs ++ [V50.n]) = manyR rootR n3.toNat q41 []) := by
                have e : rootR (false, l) = (V50.n, q50) := by unfold rootR; simp only [hA50]
                unfold Hid
                rw [← HE1.out, e]
              have HLE : Hid (q50.2.length ≤ l.length ∧ (q50.1 = false → q50.2.length < l.length)) := by
                have h0 := tk_len 1 (false, l); rw [hA50] at h0; simp only at h0
                exact ⟨by omega, fun hh => (h0.2 hh).2⟩
              clear hA50 HE1
              have hfd : ∀ w, (Instr.field 32 (.agg #[.int .i64 V50.ty, .int .i64 V50.n, .string (strOf V50.t), .bool V50.b]) 1).run Tryd.prog w = .ok (.int .i64 V50.n) w := fun w => by kernel_rfl
              obtain ⟨cv0, cv1, rfl⟩ := owns_len HTd.out.orr
              have ct : (wr.drewN 1).cell? ⟨tb, 4, none⟩ = some (.slice cv0 rs.length cv1) := by rw [cell_row HTd.out.box]; rfl
              refine take_to 0 117 (.pointer (some ⟨tb, 4, none⟩)) rfl (by kernel_rfl) (by kernel_rfl) (by kernel_rfl) (fun _ _ _ h => h) rfl (by rfl) (fun w hw => by rfl) hH ?_
              simp only [Act.put, List.setIfInBounds_toArray, List.set_cons_zero, List.set_cons_succ]
              refine take_to 2 119 (.pointer (some ⟨gb, 0, none⟩)) rfl (by kernel_rfl) (by kernel_rfl) (by kernel_rfl) (fun _ _ _ h => h) rfl (by rfl) (fun w hw => by rfl) hH ?_
              simp only [Act.put, List.setIfInBounds_toArray, List.set_cons_zero, List.set_cons_succ]
              refine wpAnyH_all (rs := [1, 3]) (by kernel_rfl) (by simp) ?_
              intro i hi
              simp only [List.mem_cons, List.not_mem_nil, or_false] at hi
              rcases hi with rfl | rfl
              · refine op_to 118 (.slice cv0 rs.length cv1) (wr.drewN 1) rfl rfl (by rfl) (op_load _ _ 27 (.tmp 117) rfl (.pointer (some ⟨tb, 4, none⟩)) _ rfl (run_loadAny _ tb 4 27 _ Tryd.isAgg27 ct)) ⟨hH, ?_⟩
                simp only [Act.put, List.setIfInBounds_toArray, List.set_cons_zero, List.set_cons_succ]
                refine step_call2_to 3 120 50 rfl (by kernel_rfl) rfl (by rfl) (.tmp 119) (.const (.int .i64 1)) _ rfl _ _ rfl rfl Tryd.enters50 HT50.out ?_
                rintro e Yc ⟨hO, rfl, hR⟩
                have HTc := hide (HTd.out.read hO hR)
                have ctc : Yc.cell? ⟨tb, 4, none⟩ = some (.slice cv0 rs.length cv1) := by rw [cell_row HTc.out.box]; rfl
                clear hO hR
                refine ⟨_, rfl, hH, ?_⟩
                simp only [Act.put, List.setIfInBounds_toArray, List.set_cons_zero, List.set_cons_succ]
                refine take_to 4 121 (.int .i64 V50.n) rfl (by kernel_rfl) (by kernel_rfl) (by kernel_rfl) (fun _ _ _ h => h) rfl (by rfl) (fun w hw => op_fld1 _ _ (.tmp 120) rfl (.agg #[.int .i64 V50.ty, .int .i64 V50.n, .string (strOf V50.t), .bool V50.b]) _ rfl (hfd w)) hH ?_
                simp only [Act.put, List.setIfInBounds_toArray, List.set_cons_zero, List.set_cons_succ]
                refine step_to 5 122 (.slice (some ⟨Yc.heap.size, 0, none⟩) 1 1) (Yc.alloc (.cells #[.int .i64 V50.n] 3)) rfl (by kernel_rfl) rfl (by rfl) (op_build27 _ _ (.tmp 121) rfl _ rfl _) hH ?_
                simp only [Act.put, List.setIfInBounds_toArray, List.set_cons_zero, List.set_cons_succ]
                refine step_append_any 6 123 rfl (by kernel_rfl) rfl rfl 27 3 1 8 _ Tryd.under27t Tryd.info3t rfl (by omega) (by omega) (.tmp 118) (.tmp 122) rfl w.heap.size _ _ rs.length (intCells rs) [icell V50.n] rfl rfl (HTc.out.alloc (.cells #[.int .i64 V50.n] 3)).orr (row_new Yc 3 [icell V50.n]) rfl (by intro u hu; simp at hu; subst hu; rfl) (by have := HKF.out; have := HCK.out; omega) (HTc.out.alloc (.cells #[.int .i64 V50.n] 3)).below.size (fun u7 W7 ho7 hg7 => ?_)
                obtain ⟨cv3, cv4, rfl⟩ := owns_len ho7
                have hb7 := grown_rec (HTc.out.alloc (.cells #[.int .i64 V50.n] 3)).orr hg7 (HTc.out.alloc (.cells #[.int .i64 V50.n] 3)).box (by decide)
                have HTn := hide ((HTc.out.alloc (.cells #[.int .i64 V50.n] 3)).growR V50.n ho7 hg7)
                refine ⟨hH, ?_⟩
                simp only [Act.put, List.setIfInBounds_toArray, List.set_cons_zero, List.set_cons_succ]
                refine take_to 7 124 (.pointer (some ⟨tb, 4, none⟩)) rfl (by kernel_rfl) (by kernel_rfl) (by kernel_rfl) (fun _ _ _ h => h) rfl (by rfl) (fun w hw => by rfl) hH ?_
                simp only [Act.put, List.setIfInBounds_toArray, List.set_cons_zero, List.set_cons_succ]
                refine step_store_to 8 (W7.setCell ⟨tb, 4, none⟩ (.slice cv3 (rs.length + 1) cv4)) rfl (by kernel_rfl) rfl (by rfl) 27 (.tmp 124) (.tmp 123) rfl _ _ rfl rfl (store_sl27 hb7 4 (by simp) _ _ _) hH ?_
                refine wpAnyH_done (by kernel_rfl) ?_ _
                clear hb7 ho7 hg7 hH ct ctc hfd
                go_wp2
                go_roundw
                case rel => exact ⟨k + 1, _, _, q50, by go_num, by have := HKF.out; omega, by simp [HCK.out], fun hh => by have := HLE.out.2 hh; have := HKF.out; omega, by have := HLE.out.1; have := HKF.out; omega, by rw [HM.out]; exact HE2.out, HTn.out⟩
                case measure => simp [intOf]; omega
              · refine op_call2 120 50 rfl rfl (by rfl) (.tmp 119) (.const (.int .i64 1)) _ rfl _ _ rfl rfl Tryd.enters50 HT50.out ?_
                rintro e Yc ⟨hO, rfl, hR⟩
                have HTc := hide (HTd.out.read hO hR)
                have ctc : Yc.cell? ⟨tb, 4, none⟩ = some (.slice cv0 rs.length cv1) := by rw [cell_row HTc.out.box]; rfl
                clear hO hR
                refine ⟨_, rfl, hH, ?_⟩
                simp only [Act.put, List.setIfInBounds_toArray, List.set_cons_zero, List.set_cons_succ]
                refine take_to 4 121 (.int .i64 V50.n) rfl (by kernel_rfl) (by kernel_rfl) (by kernel_rfl) (fun _ _ _ h => h) rfl (by rfl) (fun w hw => op_fld1 _ _ (.tmp 120) rfl (.agg #[.int .i64 V50.ty, .int .i64 V50.n, .string (strOf V50.t), .bool V50.b]) _ rfl (hfd w)) hH ?_
                simp only [Act.put, List.setIfInBounds_toArray, List.set_cons_zero, List.set_cons_succ]
                refine wpAnyH_all (rs := [1, 5]) (by kernel_rfl) (by simp) ?_
                intro i hi
                simp only [List.mem_cons, List.not_mem_nil, or_false] at hi
                rcases hi with rfl | rfl
                · refine op_to 118 (.slice cv0 rs.length cv1) Yc rfl rfl (by rfl) (op_load _ _ 27 (.tmp 117) rfl (.pointer (some ⟨tb, 4, none⟩)) _ rfl (run_loadAny _ tb 4 27 _ Tryd.isAgg27 ctc)) ⟨hH, ?_⟩
                  simp only [Act.put, List.setIfInBounds_toArray, List.set_cons_zero, List.set_cons_succ]
                  refine step_to 5 122 (.slice (some ⟨Yc.heap.size, 0, none⟩) 1 1) (Yc.alloc (.cells #[.int .i64 V50.n] 3)) rfl (by kernel_rfl) rfl (by rfl) (op_build27 _ _ (.tmp 121) rfl _ rfl _) hH ?_
                  simp only [Act.put, List.setIfInBounds_toArray, List.set_cons_zero, List.set_cons_succ]
                  refine step_append_any 6 123 rfl (by kernel_rfl) rfl rfl 27 3 1 8 _ Tryd.under27t Tryd.info3t rfl (by omega) (by omega) (.tmp 118) (.tmp 122) rfl w.heap.size _ _ rs.length (intCells rs) [icell V50.n] rfl rfl (HTc.out.alloc (.cells #[.int .i64 V50.n] 3)).orr (row_new Yc 3 [icell V50.n]) rfl (by intro u hu; simp at hu; subst hu; rfl) (by have := HKF.out; have := HCK.out; omega) (HTc.out.alloc (.cells #[.int .i64 V50.n] 3)).below.size (fun u7 W7 ho7 hg7 => ?_)
                  obtain ⟨cv3, cv4, rfl⟩ := owns_len ho7
                  have hb7 := grown_rec (HTc.out.alloc (.cells #[.int .i64 V50.n] 3)).orr hg7 (HTc.out.alloc (.cells #[.int .i64 V50.n] 3)).box (by decide)
                  have HTn := hide ((HTc.out.alloc (.cells #[.int .i64 V50.n] 3)).growR V50.n ho7 hg7)
                  refine ⟨hH, ?_⟩
                  simp only [Act.put, List.setIfInBounds_toArray, List.set_cons_zero, List.set_cons_succ]
                  refine take_to 7 124 (.pointer (some ⟨tb, 4, none⟩)) rfl (by kernel_rfl) (by kernel_rfl) (by kernel_rfl) (fun _ _ _ h => h) rfl (by rfl) (fun w hw => by rfl) hH ?_
                  simp only [Act.put, List.setIfInBounds_toArray, List.set_cons_zero, List.set_cons_succ]
                  refine step_store_to 8 (W7.setCell ⟨tb, 4, none⟩ (.slice cv3 (rs.length + 1) cv4)) rfl (by kernel_rfl) rfl (by rfl) 27 (.tmp 124) (.tmp 123) rfl _ _ rfl rfl (store_sl27 hb7 4 (by simp) _ _ _) hH ?_
                  refine wpAnyH_done (by kernel_rfl) ?_ _
                  clear hb7 ho7 hg7 hH ct ctc hfd
                  go_wp2
                  go_roundw
                  case rel => exact ⟨k + 1, _, _, q50, by go_num, by have := HKF.out; omega, by simp [HCK.out], fun hh => by have := HLE.out.2 hh; have := HKF.out; omega, by have := HLE.out.1; have := HKF.out; omega, by rw [HM.out]; exact HE2.out, HTn.out⟩
                  case measure => simp [intOf]; omega
                · refine op_to 122 (.slice (some ⟨Yc.heap.size, 0, none⟩) 1 1) (Yc.alloc (.cells #[.int .i64 V50.n] 3)) rfl rfl (by rfl) (op_build27 _ _ (.tmp 121) rfl _ rfl _) ⟨hH, ?_⟩
                  simp only [Act.put, List.setIfInBounds_toArray, List.set_cons_zero, List.set_cons_succ]
                  have cta : (Yc.alloc (.cells #[.int .i64 V50.n] 3)).cell? ⟨tb, 4, none⟩ = some (.slice cv0 rs.length cv1) := by rw [cell_row (HTc.out.alloc (.cells #[.int .i64 V50.n] 3)).box]; rfl
                  refine step_to 1 118 (.slice cv0 rs.length cv1) (Yc.alloc (.cells #[.int .i64 V50.n] 3)) rfl (by kernel_rfl) rfl (by rfl) (op_load _ _ 27 (.tmp 117) rfl (.pointer (some ⟨tb, 4, none⟩)) _ rfl (run_loadAny _ tb 4 27 _ Tryd.isAgg27 cta)) hH ?_
                  simp only [Act.put, List.setIfInBounds_toArray, List.set_cons_zero, List.set_cons_succ]
                  clear cta
                  refine step_append_any 6 123 rfl (by kernel_rfl) rfl rfl 27 3 1 8 _ Tryd.under27t Tryd.info3t rfl (by omega) (by omega) (.tmp 118) (.tmp 122) rfl w.heap.size _ _ rs.length (intCells rs) [icell V50.n] rfl rfl (HTc.out.alloc (.cells #[.int .i64 V50.n] 3)).orr (row_new Yc 3 [icell V50.n]) rfl (by intro u hu; simp at hu; subst hu; rfl) (by have := HKF.out; have := HCK.out; omega) (HTc.out.alloc (.cells #[.int .i64 V50.n] 3)).below.size (fun u7 W7 ho7 hg7 => ?_)
                  obtain ⟨cv3, cv4, rfl⟩ := owns_len ho7
                  have hb7 := grown_rec (HTc.out.alloc (.cells #[.int .i64 V50.n] 3)).orr hg7 (HTc.out.alloc (.cells #[.int .i64 V50.n] 3)).box (by decide)
                  have HTn := hide ((HTc.out.alloc (.cells #[.int .i64 V50.n] 3)).growR V50.n ho7 hg7)
                  refine ⟨hH, ?_⟩
                  simp only [Act.put, List.setIfInBounds_toArray, List.set_cons_zero, List.set_cons_succ]
                  refine take_to 7 124 (.pointer (some ⟨tb, 4, none⟩)) rfl (by kernel_rfl) (by kernel_rfl) (by kernel_rfl) (fun _ _ _ h => h) rfl (by rfl) (fun w hw => by rfl) hH ?_
                  simp only [Act.put, List.setIfInBounds_toArray, List.set_cons_zero, List.set_cons_succ]
                  refine step_store_to 8 (W7.setCell ⟨tb, 4, none⟩ (.slice cv3 (rs.length + 1) cv4)) rfl (by kernel_rfl) rfl (by rfl) 27 (.tmp 124) (.tmp 123) rfl _ _ rfl rfl (store_sl27 hb7 4 (by simp) _ _ _) hH ?_
                  refine wpAnyH_done (by kernel_rfl) ?_ _
                  clear hb7 ho7 hg7 hH ct ctc hfd
                  go_wp2
                  go_roundw
                  case rel => exact ⟨k + 1, _, _, q50, by go_num, by have := HKF.out; omega, by simp [HCK.out], fun hh => by have := HLE.out.2 hh; have := HKF.out; omega, by have := HLE.out.1; have := HKF.out; omega, by rw [HM.out]; exact HE2.out, HTn.out⟩
                  case measure => simp [intOf]; omega
          · have hd : decide ((k : Int) < n3) = false := decide_eq_false hlt
            go_wp2_with fail
            go_meet
            have hz : n3.toNat - k = 0 := by omega
            exact ⟨_, _, _, by rw [← HE.out, hz]; rfl, by rw [HCK.out]; exact hkb, HSL.out, HTS.out⟩
      case rest =>
        clear HLQ4 HTS4
        obtain ⟨vr, rs, sR, hE, hxl, hsl, hTS⟩ := hcut
        have HER := hide hE
        have HTS := hide hTS
        have HXLR := hide hxl
        have HSL := hide hsl
        clear hE hTS hxl hsl
        have HRT : Hid (rT (startOf bs) = (⟨nm, cs, is, hd, rs⟩, sR)) := by
          unfold Hid
          rw [← HS0.out]
          unfold rT
          simp only [HA0.out, HA1.out, HN1.out, HEC.out, HA20.out, HN2.out, HEI.out, HA40.out, HHD.out, HA41.out, HN3.out, HER.out, HNM.out]
        have HEND := hide (tab_end (Nat.le_trans HL.out (by omega)) HRT.out)
        have HOK : Hid (sR.1 = false → Tb.wf ⟨nm, cs, is, hd, rs⟩ ∧ tbulk ⟨nm, cs, is, hd, rs⟩ ≤ 400000000) := fun h => rT_ok HL.out HRT.out h
        have HFEW : Hid (Tb.Few ⟨nm, cs, is, hd, rs⟩) := ⟨Nat.le_trans HXLC.out (by omega), Nat.le_trans HXLI.out (by omega), Nat.le_trans HXLR.out (by omega)⟩
        clear HRT HEC HEI HER HXLC HXLI HXLR HSL HA0 HA1 HN1 HA20 HN2 HA40 HHD HA41 HN3 HNM
        obtain ⟨ca, cc, rfl⟩ := owns_len HTS.out.oc
        obtain ⟨ia, ic, rfl⟩ := owns_len HTS.out.oi
        obtain ⟨ra, rc, rfl⟩ := owns_len HTS.out.orr
        obtain ⟨bad, l⟩ := sR
        obtain ⟨ao, c, hf, hrow⟩ := HTS.out.rd
        have HS : Hid (TeS tb gb ⟨nm, cs, is, hd, rs⟩ ⟨ca, cc, ia, ic, ra, rc⟩ (.slice ao l.length c) bad (.slice va bs.length vk) bs wc) := ⟨HTS.out.box, ⟨Row.of_owns HTS.out.oc, Row.of_owns HTS.out.oi, Row.of_owns HTS.out.orr⟩, by rw [cell_row hf]; rfl, by rw [cell_row hf]; rfl, HSV.out.belowW HTS.out.below⟩
        clear hf hrow
        go_upto_region 27 with fail
        cases bad with
        | true =>
          refine wp_region_held_drew (S := TeS tb gb ⟨nm, cs, is, hd, rs⟩ ⟨ca, cc, ia, ic, ra, rc⟩ (.slice ao l.length c) true (.slice va bs.length vk) bs) (by kernel_rfl) (HS.out.belowW (below_drewN _ _ 1)) (fun hH => ?_)
          refine take_to 0 125 (.pointer (some ⟨gb, 0, none⟩)) rfl (by kernel_rfl) (by kernel_rfl) (by kernel_rfl) (fun _ _ _ h => h) rfl (by rfl) (fun w hw => by rfl) hH ?_
          simp only [Act.put, List.setIfInBounds_toArray, List.set_cons_zero, List.set_cons_succ]
          refine take_to 1 126 (.pointer (some ⟨gb, 0, none⟩)) rfl (by kernel_rfl) (by kernel_rfl) (by kernel_rfl) (fun _ _ _ h => h) rfl (by rfl) (fun w hw => op_nil _ _ (.tmp 125) rfl _ rfl) hH ?_
          simp only [Act.put, List.setIfInBounds_toArray, List.set_cons_zero, List.set_cons_succ]
          refine take_to 2 127 (.pointer (some ⟨gb, 1, none⟩)) rfl (by kernel_rfl) (by kernel_rfl) (by kernel_rfl) (fun _ _ _ h => h) rfl (by rfl) (fun w hw => by rfl) hH ?_
          simp only [Act.put, List.setIfInBounds_toArray, List.set_cons_zero, List.set_cons_succ]
          refine take_to 3 128 (.bool true) rfl (by kernel_rfl) (by kernel_rfl) (by kernel_rfl) (fun _ _ _ h => h) rfl (by rfl) (fun w hw => op_load _ _ 4 (.tmp 127) rfl (.pointer (some ⟨gb, 1, none⟩)) _ rfl (run_loadAny w gb 1 4 _ Tryd.isAgg4 hw.g1)) hH ?_
          simp only [Act.put, List.setIfInBounds_toArray, List.set_cons_zero, List.set_cons_succ]
          refine take_to 4 129 (.bool true) rfl (by kernel_rfl) (by kernel_rfl) (by kernel_rfl) (fun _ _ _ h => h) rfl (by rfl) (fun w hw => by rfl) hH ?_
          simp only [Act.put, List.setIfInBounds_toArray, List.set_cons_zero, List.set_cons_succ]
          refine skip_to 5 130 rfl (by kernel_rfl) (by kernel_rfl) (by kernel_rfl) (fun _ _ _ h => h) rfl (by rfl) hH ?_
          simp only [Act.put, List.setIfInBounds_toArray, List.set_cons_zero, List.set_cons_succ]
          refine skip_to 6 131 rfl (by kernel_rfl) (by kernel_rfl) (by kernel_rfl) (fun _ _ _ h => h) rfl (by rfl) hH ?_
          simp only [Act.put, List.setIfInBounds_toArray, List.set_cons_zero, List.set_cons_succ]
          refine skip_to 7 132 rfl (by kernel_rfl) (by kernel_rfl) (by kernel_rfl) (fun _ _ _ h => h) rfl (by rfl) hH ?_
          simp only [Act.put, List.setIfInBounds_toArray, List.set_cons_zero, List.set_cons_succ]
          refine skip_to 8 133 rfl (by kernel_rfl) (by kernel_rfl) (by kernel_rfl) (fun _ _ _ h => h) rfl (by rfl) hH ?_
          simp only [Act.put, List.setIfInBounds_toArray, List.set_cons_zero, List.set_cons_succ]
          refine skip_to 9 134 rfl (by kernel_rfl) (by kernel_rfl) (by kernel_rfl) (fun _ _ _ h => h) rfl (by rfl) hH ?_
          simp only [Act.put, List.setIfInBounds_toArray, List.set_cons_zero, List.set_cons_succ]
          refine skip_to 10 135 rfl (by kernel_rfl) (by kernel_rfl) (by kernel_rfl) (fun _ _ _ h => h) rfl (by rfl) hH ?_
          simp only [Act.put, List.setIfInBounds_toArray, List.set_cons_zero, List.set_cons_succ]
          refine take_to 11 136 (.bool true) rfl (by kernel_rfl) (by kernel_rfl) (by kernel_rfl) (fun _ _ _ h => h) rfl (by rfl) (fun w hw => by rfl) hH ?_
          simp only [Act.put, List.setIfInBounds_toArray, List.set_cons_zero, List.set_cons_succ]
          refine take_to 12 137 (.bool true) rfl (by kernel_rfl) (by kernel_rfl) (by kernel_rfl) (fun _ _ _ h => h) rfl (by rfl) (fun w hw => by rfl) hH ?_
          simp only [Act.put, List.setIfInBounds_toArray, List.set_cons_zero, List.set_cons_succ]
          refine skip_to 13 138 rfl (by kernel_rfl) (by kernel_rfl) (by kernel_rfl) (fun _ _ _ h => h) rfl (by rfl) hH ?_
          simp only [Act.put, List.setIfInBounds_toArray, List.set_cons_zero, List.set_cons_succ]
          refine skip_to 16 141 rfl (by kernel_rfl) (by kernel_rfl) (by kernel_rfl) (fun _ _ _ h => h) rfl (by rfl) hH ?_
          simp only [Act.put, List.setIfInBounds_toArray, List.set_cons_zero, List.set_cons_succ]
          refine skip_to 17 142 rfl (by kernel_rfl) (by kernel_rfl) (by kernel_rfl) (fun _ _ _ h => h) rfl (by rfl) hH ?_
          simp only [Act.put, List.setIfInBounds_toArray, List.set_cons_zero, List.set_cons_succ]
          refine skip_to 14 139 rfl (by kernel_rfl) (by kernel_rfl) (by kernel_rfl) (fun _ _ _ h => h) rfl (by rfl) hH ?_
          simp only [Act.put, List.setIfInBounds_toArray, List.set_cons_zero, List.set_cons_succ]
          refine skip_to 15 140 rfl (by kernel_rfl) (by kernel_rfl) (by kernel_rfl) (fun _ _ _ h => h) rfl (by rfl) hH ?_
          simp only [Act.put, List.setIfInBounds_toArray, List.set_cons_zero, List.set_cons_succ]
          refine skip_to 18 143 rfl (by kernel_rfl) (by kernel_rfl) (by kernel_rfl) (fun _ _ _ h => h) rfl (by rfl) hH ?_
          simp only [Act.put, List.setIfInBounds_toArray, List.set_cons_zero, List.set_cons_succ]
          refine take_to 19 144 (.bool true) rfl (by kernel_rfl) (by kernel_rfl) (by kernel_rfl) (fun _ _ _ h => h) rfl (by rfl) (fun w hw => by rfl) hH ?_
          simp only [Act.put, List.setIfInBounds_toArray, List.set_cons_zero, List.set_cons_succ]
          refine wpAnyH_done (by kernel_rfl) ?_ _
          have HTN : Hid (tabOf bs = none) := by
            rcases HEND.out with ⟨h1, _⟩ | ⟨_, h2, h3⟩
            · exact h1
            · injection h2 with h2; cases h2
          have HX : Hid (Below w.heap.size w (wc.drewN 1) ∧ w.heap.size ≤ rb ∧ (wc.drewN 1).heap[rb]? = some (.cells #[.string { data := #[] }, .slice none 0 0, .slice none 0 0, .int .i64 0, .slice none 0 0] 29 (0, 0))) := ⟨(HTS.out.drewN 1).below, HTS.out.lr, HTS.out.res⟩
          clear hH
          go_wp2_with (refine wpList_store_tab rfl (.tmp 2) (.tmp 145) rfl rfl rb _ (.string { data := #[] }) (.slice none 0 0) (.slice none 0 0) (.int .i64 0) (.slice none 0 0) rfl rfl HX.out.2.2 rfl (by decide) ?_)
          refine bodyPost_ret (results_ct Tryd.results27 _ _ rb 29 _ (0, 0) _ rfl (setRow_heap _ _ _ _ _ _ HX.out.2.2) Tryd.under29t rfl Tryd.size29) rfl ?_
          exact ⟨Below.setRow' HX.out.1 _ _ HX.out.2.1, .inl ⟨HTN.out, rfl⟩⟩
        | false =>
          cases l with
          | cons v r =>
            refine wp_region_held_drew (S := TeS tb gb ⟨nm, cs, is, hd, rs⟩ ⟨ca, cc, ia, ic, ra, rc⟩ (.slice ao (v :: r).length c) false (.slice va bs.length vk) bs) (by kernel_rfl) (HS.out.belowW (below_drewN _ _ 1)) (fun hH => ?_)
            refine take_to 0 125 (.pointer (some ⟨gb, 0, none⟩)) rfl (by kernel_rfl) (by kernel_rfl) (by kernel_rfl) (fun _ _ _ h => h) rfl (by rfl) (fun w hw => by rfl) hH ?_
            simp only [Act.put, List.setIfInBounds_toArray, List.set_cons_zero, List.set_cons_succ]
            refine take_to 1 126 (.pointer (some ⟨gb, 0, none⟩)) rfl (by kernel_rfl) (by kernel_rfl) (by kernel_rfl) (fun _ _ _ h => h) rfl (by rfl) (fun w hw => op_nil _ _ (.tmp 125) rfl _ rfl) hH ?_
            simp only [Act.put, List.setIfInBounds_toArray, List.set_cons_zero, List.set_cons_succ]
            refine take_to 2 127 (.pointer (some ⟨gb, 1, none⟩)) rfl (by kernel_rfl) (by kernel_rfl) (by kernel_rfl) (fun _ _ _ h => h) rfl (by rfl) (fun w hw => by rfl) hH ?_
            simp only [Act.put, List.setIfInBounds_toArray, List.set_cons_zero, List.set_cons_succ]
            refine take_to 3 128 (.bool false) rfl (by kernel_rfl) (by kernel_rfl) (by kernel_rfl) (fun _ _ _ h => h) rfl (by rfl) (fun w hw => op_load _ _ 4 (.tmp 127) rfl (.pointer (some ⟨gb, 1, none⟩)) _ rfl (run_loadAny w gb 1 4 _ Tryd.isAgg4 hw.g1)) hH ?_
            simp only [Act.put, List.setIfInBounds_toArray, List.set_cons_zero, List.set_cons_succ]
            refine take_to 4 129 (.bool false) rfl (by kernel_rfl) (by kernel_rfl) (by kernel_rfl) (fun _ _ _ h => h) rfl (by rfl) (fun w hw => by rfl) hH ?_
            simp only [Act.put, List.setIfInBounds_toArray, List.set_cons_zero, List.set_cons_succ]
            refine take_to 5 130 (.pointer (some ⟨gb, 0, none⟩)) rfl (by kernel_rfl) (by kernel_rfl) (by kernel_rfl) (fun _ _ _ h => h) rfl (by rfl) (fun w hw => by rfl) hH ?_
            simp only [Act.put, List.setIfInBounds_toArray, List.set_cons_zero, List.set_cons_succ]
            refine take_to 6 131 (.pointer (some ⟨gb, 0, none⟩)) rfl (by kernel_rfl) (by kernel_rfl) (by kernel_rfl) (fun _ _ _ h => h) rfl (by rfl) (fun w hw => op_nil _ _ (.tmp 130) rfl _ rfl) hH ?_
            simp only [Act.put, List.setIfInBounds_toArray, List.set_cons_zero, List.set_cons_succ]
            refine take_to 7 132 (.pointer (some ⟨gb, 0, none⟩)) rfl (by kernel_rfl) (by kernel_rfl) (by kernel_rfl) (fun _ _ _ h => h) rfl (by rfl) (fun w hw => by rfl) hH ?_
            simp only [Act.put, List.setIfInBounds_toArray, List.set_cons_zero, List.set_cons_succ]
            refine take_to 8 133 (.slice ao (v :: r).length c) rfl (by kernel_rfl) (by kernel_rfl) (by kernel_rfl) (fun _ _ _ h => h) rfl (by rfl) (fun w hw => op_load _ _ 35 (.tmp 132) rfl (.pointer (some ⟨gb, 0, none⟩)) _ rfl (run_loadAny w gb 0 35 _ Tryd.isAgg35 hw.g0)) hH ?_
            simp only [Act.put, List.setIfInBounds_toArray, List.set_cons_zero, List.set_cons_succ]
            refine take_to 9 134 (.int .i64 (((v :: r).length : Nat) : Int)) rfl (by kernel_rfl) (by kernel_rfl) (by kernel_rfl) (fun _ _ _ h => h) rfl (by rfl) (fun w hw => op_len35 _ _ (.tmp 133) rfl ao _ c rfl) hH ?_
            simp only [Act.put, List.setIfInBounds_toArray, List.set_cons_zero, List.set_cons_succ]
            refine take_to 10 135 (.bool true) rfl (by kernel_rfl) (by kernel_rfl) (by kernel_rfl) (fun _ _ _ h => h) rfl (by rfl) (fun w hw => op_gtr3 _ _ (.tmp 134) (.const (.int .i64 0)) _ rfl (((v :: r).length : Nat) : Int) 0 rfl rfl true (by simp)) hH ?_
            simp only [Act.put, List.setIfInBounds_toArray, List.set_cons_zero, List.set_cons_succ]
            refine take_to 11 136 (.bool true) rfl (by kernel_rfl) (by kernel_rfl) (by kernel_rfl) (fun _ _ _ h => h) rfl (by rfl) (fun w hw => by rfl) hH ?_
            simp only [Act.put, List.setIfInBounds_toArray, List.set_cons_zero, List.set_cons_succ]
            refine take_to 12 137 (.bool true) rfl (by kernel_rfl) (by kernel_rfl) (by kernel_rfl) (fun _ _ _ h => h) rfl (by rfl) (fun w hw => by rfl) hH ?_
            simp only [Act.put, List.setIfInBounds_toArray, List.set_cons_zero, List.set_cons_succ]
            refine skip_to 13 138 rfl (by kernel_rfl) (by kernel_rfl) (by kernel_rfl) (fun _ _ _ h => h) rfl (by rfl) hH ?_
            simp only [Act.put, List.setIfInBounds_toArray, List.set_cons_zero, List.set_cons_succ]
            refine skip_to 16 141 rfl (by kernel_rfl) (by kernel_rfl) (by kernel_rfl) (fun _ _ _ h => h) rfl (by rfl) hH ?_
            simp only [Act.put, List.setIfInBounds_toArray, List.set_cons_zero, List.set_cons_succ]
            refine skip_to 17 142 rfl (by kernel_rfl) (by kernel_rfl) (by kernel_rfl) (fun _ _ _ h => h) rfl (by rfl) hH ?_
            simp only [Act.put, List.setIfInBounds_toArray, List.set_cons_zero, List.set_cons_succ]
            refine skip_to 14 139 rfl (by kernel_rfl) (by kernel_rfl) (by kernel_rfl) (fun _ _ _ h => h) rfl (by rfl) hH ?_
            simp only [Act.put, List.setIfInBounds_toArray, List.set_cons_zero, List.set_cons_succ]
            refine skip_to 15 140 rfl (by kernel_rfl) (by kernel_rfl) (by kernel_rfl) (fun _ _ _ h => h) rfl (by rfl) hH ?_
            simp only [Act.put, List.setIfInBounds_toArray, List.set_cons_zero, List.set_cons_succ]
            refine skip_to 18 143 rfl (by kernel_rfl) (by kernel_rfl) (by kernel_rfl) (fun _ _ _ h => h) rfl (by rfl) hH ?_
            simp only [Act.put, List.setIfInBounds_toArray, List.set_cons_zero, List.set_cons_succ]
            refine take_to 19 144 (.bool true) rfl (by kernel_rfl) (by kernel_rfl) (by kernel_rfl) (fun _ _ _ h => h) rfl (by rfl) (fun w hw => by rfl) hH ?_
            simp only [Act.put, List.setIfInBounds_toArray, List.set_cons_zero, List.set_cons_succ]
            refine wpAnyH_done (by kernel_rfl) ?_ _
            have HTN : Hid (tabOf bs = none) := by
              rcases HEND.out with ⟨h1, _⟩ | ⟨_, h2, h3⟩
              · exact h1
              · injection h2 with h2 h4; cases h4
            have HX : Hid (Below w.heap.size w (wc.drewN 1) ∧ w.heap.size ≤ rb ∧ (wc.drewN 1).heap[rb]? = some (.cells #[.string { data := #[] }, .slice none 0 0, .slice none 0 0, .int .i64 0, .slice none 0 0] 29 (0, 0))) := ⟨(HTS.out.drewN 1).below, HTS.out.lr, HTS.out.res⟩
            clear hH
            go_wp2_with (refine wpList_store_tab rfl (.tmp 2) (.tmp 145) rfl rfl rb _ (.string { data := #[] }) (.slice none 0 0) (.slice none 0 0) (.int .i64 0) (.slice none 0 0) rfl rfl HX.out.2.2 rfl (by decide) ?_)
            refine bodyPost_ret (results_ct Tryd.results27 _ _ rb 29 _ (0, 0) _ rfl (setRow_heap _ _ _ _ _ _ HX.out.2.2) Tryd.under29t rfl Tryd.size29) rfl ?_
            exact ⟨Below.setRow' HX.out.1 _ _ HX.out.2.1, .inl ⟨HTN.out, rfl⟩⟩
          | nil =>
            obtain ⟨HWF, HBK⟩ := HOK.out rfl
            have hcall : Hid (∀ W, TbAt W ⟨nm, cs, is, hd, rs⟩ ⟨ca, cc, ia, ic, ra, rc⟩ → Calls Tryd.prog 29 #[.agg #[.string (strOf nm), .slice ca cs.length cc, .slice ia is.length ic, .int .i64 hd, .slice ra rs.length rc]] W fun e w' => ∃ u, e = .returned u ∧ Bts W w' u (joinL (schL ⟨nm, cs, is, hd, rs⟩))) := fun W h => rschema29 (T := ⟨nm, cs, is, hd, rs⟩) (p := ⟨ca, cc, ia, ic, ra, rc⟩) h HFEW.out HWF HBK
            have HFE := HFEW
            clear HWF HBK HOK
            refine wp_region_held_drew (S := TeS tb gb ⟨nm, cs, is, hd, rs⟩ ⟨ca, cc, ia, ic, ra, rc⟩ (.slice ao ([] : List Vl).length c) false (.slice va bs.length vk) bs) (by kernel_rfl) (HS.out.belowW (below_drewN _ _ 1)) (fun hH => ?_)
            refine take_to 0 125 (.pointer (some ⟨gb, 0, none⟩)) rfl (by kernel_rfl) (by kernel_rfl) (by kernel_rfl) (fun _ _ _ h => h) rfl (by rfl) (fun w hw => by rfl) hH ?_
            simp only [Act.put, List.setIfInBounds_toArray, List.set_cons_zero, List.set_cons_succ]
            refine take_to 1 126 (.pointer (some ⟨gb, 0, none⟩)) rfl (by kernel_rfl) (by kernel_rfl) (by kernel_rfl) (fun _ _ _ h => h) rfl (by rfl) (fun w hw => op_nil _ _ (.tmp 125) rfl _ rfl) hH ?_
            simp only [Act.put, List.setIfInBounds_toArray, List.set_cons_zero, List.set_cons_succ]
            refine take_to 2 127 (.pointer (some ⟨gb, 1, none⟩)) rfl (by kernel_rfl) (by kernel_rfl) (by kernel_rfl) (fun _ _ _ h => h) rfl (by rfl) (fun w hw => by rfl) hH ?_
            simp only [Act.put, List.setIfInBounds_toArray, List.set_cons_zero, List.set_cons_succ]
            refine take_to 3 128 (.bool false) rfl (by kernel_rfl) (by kernel_rfl) (by kernel_rfl) (fun _ _ _ h => h) rfl (by rfl) (fun w hw => op_load _ _ 4 (.tmp 127) rfl (.pointer (some ⟨gb, 1, none⟩)) _ rfl (run_loadAny w gb 1 4 _ Tryd.isAgg4 hw.g1)) hH ?_
            simp only [Act.put, List.setIfInBounds_toArray, List.set_cons_zero, List.set_cons_succ]
            refine take_to 4 129 (.bool false) rfl (by kernel_rfl) (by kernel_rfl) (by kernel_rfl) (fun _ _ _ h => h) rfl (by rfl) (fun w hw => by rfl) hH ?_
            simp only [Act.put, List.setIfInBounds_toArray, List.set_cons_zero, List.set_cons_succ]
            refine take_to 5 130 (.pointer (some ⟨gb, 0, none⟩)) rfl (by kernel_rfl) (by kernel_rfl) (by kernel_rfl) (fun _ _ _ h => h) rfl (by rfl) (fun w hw => by rfl) hH ?_
            simp only [Act.put, List.setIfInBounds_toArray, List.set_cons_zero, List.set_cons_succ]
            refine take_to 6 131 (.pointer (some ⟨gb, 0, none⟩)) rfl (by kernel_rfl) (by kernel_rfl) (by kernel_rfl) (fun _ _ _ h => h) rfl (by rfl) (fun w hw => op_nil _ _ (.tmp 130) rfl _ rfl) hH ?_
            simp only [Act.put, List.setIfInBounds_toArray, List.set_cons_zero, List.set_cons_succ]
            refine take_to 7 132 (.pointer (some ⟨gb, 0, none⟩)) rfl (by kernel_rfl) (by kernel_rfl) (by kernel_rfl) (fun _ _ _ h => h) rfl (by rfl) (fun w hw => by rfl) hH ?_
            simp only [Act.put, List.setIfInBounds_toArray, List.set_cons_zero, List.set_cons_succ]
            refine take_to 8 133 (.slice ao ([] : List Vl).length c) rfl (by kernel_rfl) (by kernel_rfl) (by kernel_rfl) (fun _ _ _ h => h) rfl (by rfl) (fun w hw => op_load _ _ 35 (.tmp 132) rfl (.pointer (some ⟨gb, 0, none⟩)) _ rfl (run_loadAny w gb 0 35 _ Tryd.isAgg35 hw.g0)) hH ?_
            simp only [Act.put, List.setIfInBounds_toArray, List.set_cons_zero, List.set_cons_succ]
            refine take_to 9 134 (.int .i64 ((([] : List Vl).length : Nat) : Int)) rfl (by kernel_rfl) (by kernel_rfl) (by kernel_rfl) (fun _ _ _ h => h) rfl (by rfl) (fun w hw => op_len35 _ _ (.tmp 133) rfl ao _ c rfl) hH ?_
            simp only [Act.put, List.setIfInBounds_toArray, List.set_cons_zero, List.set_cons_succ]
            refine take_to 10 135 (.bool false) rfl (by kernel_rfl) (by kernel_rfl) (by kernel_rfl) (fun _ _ _ h => h) rfl (by rfl) (fun w hw => op_gtr3 _ _ (.tmp 134) (.const (.int .i64 0)) _ rfl ((([] : List Vl).length : Nat) : Int) 0 rfl rfl false (by simp)) hH ?_
            simp only [Act.put, List.setIfInBounds_toArray, List.set_cons_zero, List.set_cons_succ]
            refine take_to 11 136 (.bool false) rfl (by kernel_rfl) (by kernel_rfl) (by kernel_rfl) (fun _ _ _ h => h) rfl (by rfl) (fun w hw => by rfl) hH ?_
            simp only [Act.put, List.setIfInBounds_toArray, List.set_cons_zero, List.set_cons_succ]
            refine take_to 12 137 (.bool false) rfl (by kernel_rfl) (by kernel_rfl) (by kernel_rfl) (fun _ _ _ h => h) rfl (by rfl) (fun w hw => by rfl) hH ?_
            simp only [Act.put, List.setIfInBounds_toArray, List.set_cons_zero, List.set_cons_succ]
            refine take_to 13 138 (.agg #[.string (strOf nm), .slice ca cs.length cc, .slice ia is.length ic, .int .i64 hd, .slice ra rs.length rc]) rfl (by kernel_rfl) (by kernel_rfl) (by kernel_rfl) (fun _ _ _ h => h) rfl (by rfl) (fun w hw => op_load _ _ 29 (.tmp 7) rfl (.pointer (some ⟨tb, 0, none⟩)) _ rfl (load29 hw.tb)) hH ?_
            simp only [Act.put, List.setIfInBounds_toArray, List.set_cons_zero, List.set_cons_succ]
            refine take_to 16 141 (.slice va bs.length vk) rfl (by kernel_rfl) (by kernel_rfl) (by kernel_rfl) (fun _ _ _ h => h) rfl (by rfl) (fun w hw => by rfl) hH ?_
            simp only [Act.put, List.setIfInBounds_toArray, List.set_cons_zero, List.set_cons_succ]
            refine take_to 17 142 (.string (strOf bs)) rfl (by kernel_rfl) (by kernel_rfl) (by kernel_rfl) (fun _ _ _ h => h) rfl (by rfl) (fun w hw => op_conv _ _ 30 9 (.tmp 141) rfl _ _ rfl (run_str hw.sl)) hH ?_
            simp only [Act.put, List.setIfInBounds_toArray, List.set_cons_zero, List.set_cons_succ]
            refine step_call1_to 14 139 29 rfl (by kernel_rfl) rfl (by rfl) (.tmp 138) _ rfl _ rfl Tryd.enters29t (hcall.out _ hH.tbl) ?_
            rintro e u1 ⟨u, rfl, hB1⟩
            obtain ⟨ua, uc, rfl, hu1, hu2⟩ := hB1.sl.len
            have hH1 := hH.belowW hB1.below
            refine ⟨_, rfl, hH1, ?_⟩
            simp only [Act.put, List.setIfInBounds_toArray, List.set_cons_zero, List.set_cons_succ]
            refine step_to 15 140 (.string (strOf (joinL (schL ⟨nm, cs, is, hd, rs⟩)))) _ rfl (by kernel_rfl) rfl (by rfl) (op_conv _ _ 30 9 (.tmp 139) rfl _ _ rfl (run_str hB1.sl)) hH1 ?_
            simp only [Act.put, List.setIfInBounds_toArray, List.set_cons_zero, List.set_cons_succ]
            have HT1 := hide ((HTS.out.drewN 1).below' hB1.below)
            clear hcall HTS HS
            by_cases hj : joinL (schL ⟨nm, cs, is, hd, rs⟩) = bs
            · refine step_to 18 143 (.bool false) _ rfl (by kernel_rfl) rfl (by rfl) (op_neqS _ _ (.tmp 140) (.tmp 142) _ rfl _ _ rfl rfl false (by rw [strOf_toList, strOf_toList, hj]; simp)) hH1 ?_
              simp only [Act.put, List.setIfInBounds_toArray, List.set_cons_zero, List.set_cons_succ]
              refine take_to 19 144 (.bool false) rfl (by kernel_rfl) (by kernel_rfl) (by kernel_rfl) (fun _ _ _ h => h) rfl (by rfl) (fun w hw => by rfl) hH1 ?_
              simp only [Act.put, List.setIfInBounds_toArray, List.set_cons_zero, List.set_cons_succ]
              refine wpAnyH_done (by kernel_rfl) ?_ _
              have HTT : Hid (tabOf bs = some ⟨nm, cs, is, hd, rs⟩) := by
                rcases HEND.out with ⟨_, h1⟩ | ⟨h1, _⟩
                · rcases h1 with h1 | h1 | h1
                  · cases h1
                  · exact absurd rfl h1
                  · exact absurd hj h1
                · exact h1
              have b0 : u1.cell? ⟨tb, 0, none⟩ = some (.string (strOf nm)) := by rw [cell_row HT1.out.box]; rfl
              have b1 : u1.cell? ⟨tb, 1, none⟩ = some (.slice ca cs.length cc) := by rw [cell_row HT1.out.box]; rfl
              have b2 : u1.cell? ⟨tb, 2, none⟩ = some (.slice ia is.length ic) := by rw [cell_row HT1.out.box]; rfl
              have b3 : u1.cell? ⟨tb, 3, none⟩ = some (.int .i64 hd) := by rw [cell_row HT1.out.box]; rfl
              have b4 : u1.cell? ⟨tb, 4, none⟩ = some (.slice ra rs.length rc) := by rw [cell_row HT1.out.box]; rfl
              clear hH hH1 hB1 hu1 hu2 hj
              go_wp2_with (refine wpList_store_tab rfl (.tmp 2) (.tmp 146) rfl rfl rb _ (.string (strOf nm)) (.slice ca cs.length cc) (.slice ia is.length ic) (.int .i64 hd) (.slice ra rs.length rc) rfl rfl HT1.out.res rfl (by intro u hu; simp at hu; rcases hu with rfl | rfl | rfl | rfl | rfl <;> rfl) ?_)
              refine bodyPost_ret (results_ct Tryd.results27 _ _ rb 29 _ (0, 0) _ rfl (setRow_heap _ _ _ _ _ _ HT1.out.res) Tryd.under29t rfl Tryd.size29) rfl ?_
              have hof := off_setRow (Off.refl [rb] u1) rb #[.string (strOf nm), .slice ca cs.length cc, .slice ia is.length ic, .int .i64 hd, .slice ra rs.length rc] (.inl (by simp))
              exact ⟨Below.setRow' HT1.out.below _ _ HT1.out.lr, .inr ⟨⟨nm, cs, is, hd, rs⟩, ⟨ca, cc, ia, ic, ra, rc⟩, HTT.out, HFE.out, rfl,
                ⟨Row.of_owns (owns_off HT1.out.oc hof (fun k hk => by simp at hk; subst hk; exact owns_ne HT1.out.oc HT1.out.res (by decide))), Row.of_owns (owns_off HT1.out.oi hof (fun k hk => by simp at hk; subst hk; exact owns_ne HT1.out.oi HT1.out.res (by decide))), Row.of_owns (owns_off HT1.out.orr hof (fun k hk => by simp at hk; subst hk; exact owns_ne HT1.out.orr HT1.out.res (by decide)))⟩⟩⟩
            · refine step_to 18 143 (.bool true) _ rfl (by kernel_rfl) rfl (by rfl) (op_neqS _ _ (.tmp 140) (.tmp 142) _ rfl _ _ rfl rfl true (by rw [strOf_toList, strOf_toList]; simpa using hj)) hH1 ?_
              simp only [Act.put, List.setIfInBounds_toArray, List.set_cons_zero, List.set_cons_succ]
              refine take_to 19 144 (.bool true) rfl (by kernel_rfl) (by kernel_rfl) (by kernel_rfl) (fun _ _ _ h => h) rfl (by rfl) (fun w hw => by rfl) hH1 ?_
              simp only [Act.put, List.setIfInBounds_toArray, List.set_cons_zero, List.set_cons_succ]
              refine wpAnyH_done (by kernel_rfl) ?_ _
              have HTN : Hid (tabOf bs = none) := by
                rcases HEND.out with ⟨h1, _⟩ | ⟨_, _, h3⟩
                · exact h1
                · exact absurd h3 hj
              have HX : Hid (Below w.heap.size w u1 ∧ w.heap.size ≤ rb ∧ u1.heap[rb]? = some (.cells #[.string { data := #[] }, .slice none 0 0, .slice none 0 0, .int .i64 0, .slice none 0 0] 29 (0, 0))) := ⟨HT1.out.below, HT1.out.lr, HT1.out.res⟩
              clear hH hH1 hB1 hu1 hu2 hj
              go_wp2_with (refine wpList_store_tab rfl (.tmp 2) (.tmp 145) rfl rfl rb _ (.string { data := #[] }) (.slice none 0 0) (.slice none 0 0) (.int .i64 0) (.slice none 0 0) rfl rfl HX.out.2.2 rfl (by decide) ?_)
              refine bodyPost_ret (results_ct Tryd.results27 _ _ rb 29 _ (0, 0) _ rfl (setRow_heap _ _ _ _ _ _ HX.out.2.2) Tryd.under29t rfl Tryd.size29) rfl ?_
              exact ⟨Below.setRow' HX.out.1 _ _ HX.out.2.1, .inl ⟨HTN.out, rfl⟩⟩
end Go.Proofs.YtplpchaceiogaaaDoor
