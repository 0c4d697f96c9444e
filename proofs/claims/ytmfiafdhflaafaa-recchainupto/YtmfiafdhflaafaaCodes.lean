/- The walk of the law RecCodes: it returns true and writes nothing that was there. -/
import Derived.Test.YtmfiafdhflaafaaUni
namespace Go.Proofs.Ytmfiafdhflaafaa
open Go.RowKit
set_option linter.unusedVariables false
set_option linter.unusedSimpArgs false

theorem op_eqi (ρ : Operand → Value) (o : Oper) (x y : Operand) (ho : o.op = .binOp .eql 3 x y 3) (n : Int) (hx : ρ x = .int .i64 n) (hy : ρ y = .int .i64 n) (w : World) : (execOp ρ o).run Try.prog w = .ok (.value (.bool true)) w := by
  have hu := Try.underlying3
  unfold execOp
  simp only [ho, hx, hy]
  simp [go_sem, hu]
theorem op_len (ρ : Operand → Value) (o : Oper) (x : Operand) (ho : o.op = Op.call { callee := Callee.builtin Builtin.len, args := #[x], argTypes := #[23] }) (ao : Option Addr) (n c : Nat) (hx : ρ x = .slice ao n c) (w : World) : (execOp ρ o).run Try.prog w = .ok (.value (.int .i64 (n : Nat))) w := by
  have hu := Try.underlying23
  unfold execOp
  simp [ho, resolve, invoke, builtin, hx, Builtin.len_, Builtin.lenOf, go_sem, hu]
theorem op_eqb (ρ : Operand → Value) (o : Oper) (x y : Operand) (ho : o.op = .binOp .eql 4 x y 4) (b : Bool) (hx : ρ x = .bool b) (hy : ρ y = .bool b) (w : World) : (execOp ρ o).run Try.prog w = .ok (.value (.bool true)) w := by
  have hu := Try.underlying4
  unfold execOp
  simp only [ho, hx, hy]
  simp [go_sem, hu]
theorem op_eqs_same (ρ : Operand → Value) (o : Oper) (x y : Operand) (ho : o.op = .binOp .eql 9 x y 9) (s : ByteArray) (hx : ρ x = .string s) (hy : ρ y = .string s) (w : World) : (execOp ρ o).run Try.prog w = .ok (.value (.bool true)) w := by
  rw [op_eqs ρ o x y ho s s hx hy w]
  simp
theorem load_next4 (W : World) (q o : Nat) (cv : Value) (h : W.cell? ⟨q, o, none⟩ = some cv) : (do pure (Next.value (← Instr.loadAt 4 (.pointer (some ⟨q, o, none⟩)))) : Sem Next).run Try.prog W = .ok (.value cv) W := by
  have hu := Try.underlying4
  have hr : (Instr.loadAt 4 (.pointer (some ⟨q, o, none⟩))).run Try.prog W = .ok cv W := by simp [go_sem, h]
  rw [Sem.run_bind, hr]; rfl
theorem load_mid28 (W : World) (q : Nat) (C : List Value) (hC : C.length = 11) (h : W.rangeAt q 0 C) : (do pure (Next.value (← Instr.loadAt 28 (.pointer (some ⟨q, 0, none⟩)))) : Sem Next).run Try.prog W = .ok (.value (.agg C.toArray)) W := by
  have hi : (Try.prog.info? 28).map (·.size) = some C.length := by rw [hC]; kernel_rfl
  rw [Sem.run_bind, run_loadAt_mid W q 0 28 C _ h Try.underlying28 rfl hi]; rfl
theorem Try.enters10 (args : Array Value) (w : World) : (callFunc 10 args).run Try.prog w = .ok (.enter 10 args) w := by kernel_rfl
theorem Try.enters12 (args : Array Value) (w : World) : (callFunc 12 args).run Try.prog w = .ok (.enter 12 args) w := by kernel_rfl
theorem Try.enters9 (args : Array Value) (w : World) : (callFunc 9 args).run Try.prog w = .ok (.enter 9 args) w := by kernel_rfl

set_option maxHeartbeats 8000000 in
set_option maxRecDepth 100000 in
theorem codes_walk {w : World} {V vbs : Value} {R : Rc} {bs : List UInt8} (hV : RecVal w V R) (hb : Sl w vbs bs) (hs : R.size ≤ 100000000) (hl : bs.length ≤ 100000000) (hwf : R.wf) :
    Calls Try.prog 4 #[V, vbs] w fun e w' => e = .returned (.bool true) ∧ Below w.heap.size w w' := by
  have HV0 := hide hV
  have HSB := hide hb
  obtain ⟨ab, cb, rfl, m1, m2⟩ := hb.len
  obtain ⟨C, rfl, zC, _⟩ := hV.cells
  have hB1 : Below w.heap.size w (w.alloc (.cells C 28)) := (Below.refl _ w).alloc (Nat.le_refl _) _
  have HD1 := hide (decode_any (hb.of_below hB1) (by omega))
  have HB1 := hide hB1
  have HL := hide hl
  have HSZ := hide hs
  have HWF := hide hwf
  clear hV hb hs hwf hB1 m1 m2
  have HLB : Hid (bs.length ≤ 100000000) := hl
  clear hl
  go_enter Try.func4, Try.ntmps4
  go_wp2_with fail
  refine HD1.out.mono ?_
  rintro e w2 hE
  obtain ⟨hb2, xb, xa, xt, xd, rfl, hx⟩ := hE.uni
  obtain ⟨vb0, va0, vt0, vd0, ev, o1, o2, o3, o4⟩ := hx
  have ev' := ev
  unfold recCells at ev'
  simp only [Value.agg.injEq, Array.mk.injEq, List.cons.injEq, true_and, and_true] at ev'
  obtain ⟨rfl, rfl, rfl, rfl⟩ := ev'
  have HX0 : Hid (RecOwn (w.alloc (.cells C 28)).heap.size w2 (.agg (recCells (told bs) xb xa xt xd)) (told bs)) := ⟨_, _, _, _, rfl, o1, o2, o3, o4⟩
  obtain ⟨xab, xcb, e1⟩ := owns_len o1
  obtain ⟨xaa, xca, e2⟩ := owns_len o2
  obtain ⟨xat, xct, e3⟩ := owns_len o3
  obtain ⟨xad, xcd, e4⟩ := owns_len o4
  generalize (told bs).before.length = xnb at e1
  generalize (told bs).after.length = xna at e2
  generalize (told bs).txns.length = xnt at e3
  generalize (told bs).dirty.length = xnd at e4
  subst e1 e2 e3 e4
  clear o1 o2 o3 o4 ev HD1 hE
  have hB2 : Below w.heap.size w w2 := HB1.out.trans (hb2.mono HB1.out.size)
  have hB3 : Below w.heap.size w (w2.alloc (.cells #[.int .i64 (told bs).kind, .int .i64 (told bs).txn, .int .i64 (told bs).prev, .int .i64 (told bs).next, .int .i64 (told bs).page, .int .i64 (told bs).off, .slice xab xnb xcb, .slice xaa xna xca, .slice xat xnt xct, .slice xad xnd xcd, .int .i64 (told bs).count] 28)) := hB2.alloc hB2.size _
  have HD2 := hide (refDecode_any (HSB.out.of_below hB3) (by have := HL.out; omega))
  have HB3 := hide hB3
  have hq1 : (w.alloc (.cells C 28)).heap[w.heap.size]? = some (.cells C 28 (0, 0)) := heap_alloc_new _ _
  have hq2 : w2.heap[w.heap.size]? = some (.cells C 28 (0, 0)) := (hb2.block _ (by simp)).trans hq1
  have HQ2 := hide hq2
  clear hB2 hB3 hq1 hq2 hb2
  unfold recCells at HX0 ⊢
  go_wp2_with fail
  refine HD2.out.mono ?_
  rintro e w4 hE
  obtain ⟨hb4, yb, ya, yt, yd, rfl, hy⟩ := hE.uni
  obtain ⟨vb0, va0, vt0, vd0, ev, o1, o2, o3, o4⟩ := hy
  have ev' := ev
  unfold recCells at ev'
  simp only [Value.agg.injEq, Array.mk.injEq, List.cons.injEq, true_and, and_true] at ev'
  obtain ⟨rfl, rfl, rfl, rfl⟩ := ev'
  have HY0 : Hid (RecOwn (w2.alloc (.cells #[.int .i64 (told bs).kind, .int .i64 (told bs).txn, .int .i64 (told bs).prev, .int .i64 (told bs).next, .int .i64 (told bs).page, .int .i64 (told bs).off, .slice xab xnb xcb, .slice xaa xna xca, .slice xat xnt xct, .slice xad xnd xcd, .int .i64 (told bs).count] 28)).heap.size w4 (.agg (recCells (told bs) yb ya yt yd)) (told bs)) := ⟨_, _, _, _, rfl, o1, o2, o3, o4⟩
  obtain ⟨yab, ycb, e1⟩ := owns_len o1
  obtain ⟨yaa, yca, e2⟩ := owns_len o2
  obtain ⟨yat, yct, e3⟩ := owns_len o3
  obtain ⟨yad, ycd, e4⟩ := owns_len o4
  generalize (told bs).before.length = ynb at e1
  generalize (told bs).after.length = yna at e2
  generalize (told bs).txns.length = ynt at e3
  generalize (told bs).dirty.length = ynd at e4
  subst e1 e2 e3 e4
  clear o1 o2 o3 o4 ev HD2 hE
  unfold gotU
  unfold recCells at HY0
  obtain ⟨wb, hwb⟩ : ∃ wb, w4.alloc (.cells #[.int .i64 (told bs).kind, .int .i64 (told bs).txn, .int .i64 (told bs).prev, .int .i64 (told bs).next, .int .i64 (told bs).page, .int .i64 (told bs).off, .slice yab ynb ycb, .slice yaa yna yca, .slice yat ynt yct, .slice yad ynd ycd, .int .i64 (told bs).count, .int .i64 (toldN bs : Nat), .bool (dec bs).isSome] 36) = wb := ⟨_, rfl⟩
  obtain ⟨X, hX⟩ : ∃ X, w2.heap.size = X := ⟨_, rfl⟩
  obtain ⟨G, hG⟩ : ∃ G, w4.heap.size = G := ⟨_, rfl⟩
  obtain ⟨q, hq⟩ : ∃ q, w.heap.size = q := ⟨_, rfl⟩
  have b34 : Below (w2.alloc (.cells #[.int .i64 (told bs).kind, .int .i64 (told bs).txn, .int .i64 (told bs).prev, .int .i64 (told bs).next, .int .i64 (told bs).page, .int .i64 (told bs).off, .slice xab xnb xcb, .slice xaa xna xca, .slice xat xnt xct, .slice xad xnd xcd, .int .i64 (told bs).count] 28)).heap.size (w2.alloc (.cells #[.int .i64 (told bs).kind, .int .i64 (told bs).txn, .int .i64 (told bs).prev, .int .i64 (told bs).next, .int .i64 (told bs).page, .int .i64 (told bs).off, .slice xab xnb xcb, .slice xaa xna xca, .slice xat xnt xct, .slice xad xnd xcd, .int .i64 (told bs).count] 28)) w4 := hb4
  have b4b : Below w4.heap.size w4 wb := by rw [← hwb]; exact (Below.refl _ _).alloc (Nat.le_refl _) _
  have b3b : Below (w2.alloc (.cells #[.int .i64 (told bs).kind, .int .i64 (told bs).txn, .int .i64 (told bs).prev, .int .i64 (told bs).next, .int .i64 (told bs).page, .int .i64 (told bs).off, .slice xab xnb xcb, .slice xaa xna xca, .slice xat xnt xct, .slice xad xnd xcd, .int .i64 (told bs).count] 28)).heap.size (w2.alloc (.cells #[.int .i64 (told bs).kind, .int .i64 (told bs).txn, .int .i64 (told bs).prev, .int .i64 (told bs).next, .int .i64 (told bs).page, .int .i64 (told bs).off, .slice xab xnb xcb, .slice xaa xna xca, .slice xat xnt xct, .slice xad xnd xcd, .int .i64 (told bs).count] 28)) wb := b34.trans (b4b.mono b34.size)
  have b2b : Below w2.heap.size w2 wb := ((Below.refl _ w2).alloc (Nat.le_refl _) _).trans (b3b.mono (by simp))
  have bwb : Below w.heap.size w wb := HB3.out.trans (b3b.mono HB3.out.size)
  have HQ : Hid (wb.heap[q]? = some (.cells C 28 (0, 0))) := by
    show _ = _
    rw [← hq]
    exact (b2b.block _ (lt_of_heap HQ2.out)).trans HQ2.out
  have HXB : Hid (wb.heap[X]? = some (.cells #[.int .i64 (told bs).kind, .int .i64 (told bs).txn, .int .i64 (told bs).prev, .int .i64 (told bs).next, .int .i64 (told bs).page, .int .i64 (told bs).off, .slice xab xnb xcb, .slice xaa xna xca, .slice xat xnt xct, .slice xad xnd xcd, .int .i64 (told bs).count] 28 (0, 0))) := by
    show _ = _
    rw [← hX]
    exact (b3b.block _ (by simp)).trans (heap_alloc_new _ _)
  have HGB : Hid (wb.heap[G]? = some (.cells #[.int .i64 (told bs).kind, .int .i64 (told bs).txn, .int .i64 (told bs).prev, .int .i64 (told bs).next, .int .i64 (told bs).page, .int .i64 (told bs).off, .slice yab ynb ycb, .slice yaa yna yca, .slice yat ynt yct, .slice yad ynd ycd, .int .i64 (told bs).count, .int .i64 (toldN bs : Nat), .bool (dec bs).isSome] 36 (0, 0))) := by
    show _ = _
    rw [← hG, ← hwb]
    exact heap_alloc_new _ _
  have HVR : Hid (∀ W, Below wb.heap.size wb W → RecVal W (.agg C) R) := fun W hW => (HV0.out.below bwb (Nat.le_refl _)).below hW (Nat.le_refl _)
  have HVX : Hid (∀ W, Below wb.heap.size wb W → RecVal W (.agg #[.int .i64 (told bs).kind, .int .i64 (told bs).txn, .int .i64 (told bs).prev, .int .i64 (told bs).next, .int .i64 (told bs).page, .int .i64 (told bs).off, .slice xab xnb xcb, .slice xaa xna xca, .slice xat xnt xct, .slice xad xnd xcd, .int .i64 (told bs).count]) (told bs)) := fun W hW => (HX0.out.val.below b2b (Nat.le_refl _)).below hW (Nat.le_refl _)
  have HVY : Hid (∀ W, Below wb.heap.size wb W → RecVal W (.agg #[.int .i64 (told bs).kind, .int .i64 (told bs).txn, .int .i64 (told bs).prev, .int .i64 (told bs).next, .int .i64 (told bs).page, .int .i64 (told bs).off, .slice yab ynb ycb, .slice yaa yna yca, .slice yat ynt yct, .slice yad ynd ycd, .int .i64 (told bs).count]) (told bs)) := fun W hW => (HY0.out.val.below b4b (Nat.le_refl _)).below hW (Nat.le_refl _)
  have HBW := hide bwb
  have HE1 : Hid (∀ W, RecVal W (.agg C) R → Calls Try.prog 10 #[.agg C] W fun e w' => ∃ v, e = .returned v ∧ w'.ownsRow W.heap.size 5 1 v R.enc.length (secCells R.enc) ∧ Below W.heap.size W w') := fun W h => encode_any h (by have := HSZ.out; omega) HWF.out
  have HE2 : Hid (∀ W, RecVal W (.agg C) R → Calls Try.prog 14 #[.agg C] W fun e w' => ∃ v, e = .returned v ∧ w'.ownsRow W.heap.size 5 1 v R.enc.length (secCells R.enc) ∧ Below W.heap.size W w') := fun W h => refEncode_any h (by have := HSZ.out; omega) HWF.out
  have HSM : Hid (∀ W, Below wb.heap.size wb W → Calls Try.prog 12 #[.agg #[.int .i64 (told bs).kind, .int .i64 (told bs).txn, .int .i64 (told bs).prev, .int .i64 (told bs).next, .int .i64 (told bs).page, .int .i64 (told bs).off, .slice xab xnb xcb, .slice xaa xna xca, .slice xat xnt xct, .slice xad xnd xcd, .int .i64 (told bs).count], .agg #[.int .i64 (told bs).kind, .int .i64 (told bs).txn, .int .i64 (told bs).prev, .int .i64 (told bs).next, .int .i64 (told bs).page, .int .i64 (told bs).off, .slice yab ynb ycb, .slice yaa yna yca, .slice yat ynt yct, .slice yad ynd ycd, .int .i64 (told bs).count]] W fun e w' => e = .returned (.bool true) ∧ Below W.heap.size W w') := fun W hW => by
    have ts := told_size bs
    have := same_any (HVX.out W hW) (HVY.out W hW) (by have := HL.out; have := HLB.out; omega) (by have := HL.out; have := HLB.out; omega) (told_wf bs) (told_wf bs)
    simpa using this
  have LQ : ∀ W : World, Below wb.heap.size wb W → (do pure (Next.value (← Instr.loadAt 28 (.pointer (some ⟨q, 0, none⟩)))) : Sem Next).run Try.prog W = .ok (.value (.agg C)) W := fun W hW => load_next28 W _ C zC ((hW.block _ (lt_of_heap HQ.out)).trans HQ.out)
  have LX : ∀ W : World, Below wb.heap.size wb W → (do pure (Next.value (← Instr.loadAt 28 (.pointer (some ⟨X, 0, none⟩)))) : Sem Next).run Try.prog W = .ok (.value (.agg #[.int .i64 (told bs).kind, .int .i64 (told bs).txn, .int .i64 (told bs).prev, .int .i64 (told bs).next, .int .i64 (told bs).page, .int .i64 (told bs).off, .slice xab xnb xcb, .slice xaa xna xca, .slice xat xnt xct, .slice xad xnd xcd, .int .i64 (told bs).count])) W := fun W hW => load_next28 W _ _ rfl ((hW.block _ (lt_of_heap HXB.out)).trans HXB.out)
  have LG : ∀ W : World, Below wb.heap.size wb W → (do pure (Next.value (← Instr.loadAt 28 (.pointer (some ⟨G, 0, none⟩)))) : Sem Next).run Try.prog W = .ok (.value (.agg #[.int .i64 (told bs).kind, .int .i64 (told bs).txn, .int .i64 (told bs).prev, .int .i64 (told bs).next, .int .i64 (told bs).page, .int .i64 (told bs).off, .slice yab ynb ycb, .slice yaa yna yca, .slice yat ynt yct, .slice yad ynd ycd, .int .i64 (told bs).count])) W := fun W hW => load_mid28 W G [.int .i64 (told bs).kind, .int .i64 (told bs).txn, .int .i64 (told bs).prev, .int .i64 (told bs).next, .int .i64 (told bs).page, .int .i64 (told bs).off, .slice yab ynb ycb, .slice yaa yna yca, .slice yat ynt yct, .slice yad ynd ycd, .int .i64 (told bs).count] rfl (fun j v hv => by
    rw [Nat.zero_add, cell_row ((hW.block _ (lt_of_heap HGB.out)).trans HGB.out)]
    have hj := (List.getElem?_eq_some_iff.1 hv).1
    have hj : j < 11 := hj
    rw [show (#[.int .i64 (told bs).kind, .int .i64 (told bs).txn, .int .i64 (told bs).prev, .int .i64 (told bs).next, .int .i64 (told bs).page, .int .i64 (told bs).off, .slice yab ynb ycb, .slice yaa yna yca, .slice yat ynt yct, .slice yad ynd ycd, .int .i64 (told bs).count, .int .i64 (toldN bs : Nat), .bool (dec bs).isSome] : Array Value) = (([.int .i64 (told bs).kind, .int .i64 (told bs).txn, .int .i64 (told bs).prev, .int .i64 (told bs).next, .int .i64 (told bs).page, .int .i64 (told bs).off, .slice yab ynb ycb, .slice yaa yna yca, .slice yat ynt yct, .slice yad ynd ycd, .int .i64 (told bs).count] : List Value) ++ [Value.int .i64 (toldN bs : Nat), Value.bool (dec bs).isSome]).toArray from rfl, List.getElem?_toArray, List.getElem?_append_left hj]
    exact hv)
  have L11 : ∀ W : World, Below wb.heap.size wb W → (do pure (Next.value (← Instr.loadAt 3 (.pointer (some ⟨G, 11, none⟩)))) : Sem Next).run Try.prog W = .ok (.value (.int .i64 (toldN bs : Nat))) W := fun W hW => load_next3 W G 11 _ (by rw [cell_row ((hW.block _ (lt_of_heap HGB.out)).trans HGB.out)]; rfl)
  have L12 : ∀ W : World, Below wb.heap.size wb W → (do pure (Next.value (← Instr.loadAt 4 (.pointer (some ⟨G, 12, none⟩)))) : Sem Next).run Try.prog W = .ok (.value (.bool (dec bs).isSome)) W := fun W hW => load_next4 W G 12 _ (by rw [cell_row ((hW.block _ (lt_of_heap HGB.out)).trans HGB.out)]; rfl)
  have HLE := hide (length_enc R)
  clear hb4 b34 b4b b3b b2b bwb HQ2 HB3 HX0 HY0 HQ HXB HGB
  go_wp2
  clear hwb hX hG
  refine wp_region_held_drew (S := fun w' => Below wb.heap.size wb w') (by kernel_rfl) ((Below.refl _ wb).drew) (fun hSwb => ?_)
  refine take_to 0 17 (.agg C) rfl (by kernel_rfl) (by kernel_rfl) (by kernel_rfl) (fun _ _ _ h => h) rfl (by rfl) (fun W hW => by exact LQ W hW) hSwb ?_
  simp only [Act.put, List.setIfInBounds_toArray, List.set_cons_zero, List.set_cons_succ]
  refine take_to 3 20 (.agg C) rfl (by kernel_rfl) (by kernel_rfl) (by kernel_rfl) (fun _ _ _ h => h) rfl (by rfl) (fun W hW => by exact LQ W hW) hSwb ?_
  simp only [Act.put, List.setIfInBounds_toArray, List.set_cons_zero, List.set_cons_succ]
  refine wpAnyH_via 31 #[true, true, true, true, true, true, false, false, false, false, false, false, false, false, false, false, false, false, false, false, false, false, false, false, false, false, false, false, false, false, false, false, false, false, false, false, false] (fun a a' w' => ∃ v1 v2, a' = ((((a.put (some 18) v1).put (some 19) (.string (strOf R.enc))).put (some 21) v2).put (some 22) (.string (strOf R.enc))) ∧ Below wb.heap.size wb w') (fun rest => ?_) (fun a' w' h => ?_)
  · have hSwb0 := hSwb
    refine step_call1_to 1 18 10 rfl (by kernel_rfl) rfl (by rfl) (.tmp 17) _ rfl (.agg C) rfl Try.enters10 (HE1.out _ (HVR.out _ hSwb0)) (fun e w1_0 h => ?_)
    obtain ⟨v0, rfl, ho0, hb0w1_0⟩ := h
    have hSw1_0 : Below wb.heap.size wb w1_0 := hSwb0.trans (hb0w1_0.mono hSwb0.size)
    have sl0w1_0 := owns_sl ho0
    refine ⟨v0, rfl, hSw1_0, ?_⟩
    simp only [Act.put, List.setIfInBounds_toArray, List.set_cons_zero, List.set_cons_succ]
    refine wpAnyH_all (rs := [2, 4]) (by kernel_rfl) (by simp) ?_
    intro m hm
    rcases (by simpa using hm : m = 2 ∨ m = 4) with rfl | rfl
    ·
      refine op_to 19 (.string (strOf R.enc)) _ rfl rfl (by rfl) (by exact conv_next sl0w1_0) ⟨hSw1_0, ?_⟩
      simp only [Act.put, List.setIfInBounds_toArray, List.set_cons_zero, List.set_cons_succ]
      refine step_call1_to 4 21 14 rfl (by kernel_rfl) rfl (by rfl) (.tmp 20) _ rfl (.agg C) rfl Try.enters14 (HE2.out _ (HVR.out _ hSw1_0)) (fun e w4_1 h => ?_)
      obtain ⟨v1, rfl, ho1, hb1w4_1⟩ := h
      have hSw4_1 : Below wb.heap.size wb w4_1 := hSw1_0.trans (hb1w4_1.mono hSw1_0.size)
      have sl0w4_1 := sl0w1_0.below hb1w4_1 (Nat.le_refl _)
      have sl1w4_1 := owns_sl ho1
      refine ⟨v1, rfl, hSw4_1, ?_⟩
      simp only [Act.put, List.setIfInBounds_toArray, List.set_cons_zero, List.set_cons_succ]
      refine step_to 5 22 (.string (strOf R.enc)) _ rfl (by kernel_rfl) rfl (by rfl) (by exact conv_next sl1w4_1) hSw4_1 ?_
      simp only [Act.put, List.setIfInBounds_toArray, List.set_cons_zero, List.set_cons_succ]
      exact rest _ _ ⟨v0, v1, rfl, hSw4_1⟩
    ·
      refine op_call1 21 14 rfl rfl (by rfl) (.tmp 20) _ rfl (.agg C) rfl Try.enters14 (HE2.out _ (HVR.out _ hSw1_0)) (fun e w4_2 h => ?_)
      obtain ⟨v1, rfl, ho1, hb1w4_2⟩ := h
      have hSw4_2 : Below wb.heap.size wb w4_2 := hSw1_0.trans (hb1w4_2.mono hSw1_0.size)
      have sl0w4_2 := sl0w1_0.below hb1w4_2 (Nat.le_refl _)
      have sl1w4_2 := owns_sl ho1
      refine ⟨v1, rfl, hSw4_2, ?_⟩
      simp only [Act.put, List.setIfInBounds_toArray, List.set_cons_zero, List.set_cons_succ]
      refine wpAnyH_all (rs := [2, 5]) (by kernel_rfl) (by simp) ?_
      intro m hm
      rcases (by simpa using hm : m = 2 ∨ m = 5) with rfl | rfl
      ·
        refine op_to 19 (.string (strOf R.enc)) _ rfl rfl (by rfl) (by exact conv_next sl0w4_2) ⟨hSw4_2, ?_⟩
        simp only [Act.put, List.setIfInBounds_toArray, List.set_cons_zero, List.set_cons_succ]
        refine step_to 5 22 (.string (strOf R.enc)) _ rfl (by kernel_rfl) rfl (by rfl) (by exact conv_next sl1w4_2) hSw4_2 ?_
        simp only [Act.put, List.setIfInBounds_toArray, List.set_cons_zero, List.set_cons_succ]
        exact rest _ _ ⟨v0, v1, rfl, hSw4_2⟩
      ·
        refine op_to 22 (.string (strOf R.enc)) _ rfl rfl (by rfl) (by exact conv_next sl1w4_2) ⟨hSw4_2, ?_⟩
        simp only [Act.put, List.setIfInBounds_toArray, List.set_cons_zero, List.set_cons_succ]
        refine step_to 2 19 (.string (strOf R.enc)) _ rfl (by kernel_rfl) rfl (by rfl) (by exact conv_next sl0w4_2) hSw4_2 ?_
        simp only [Act.put, List.setIfInBounds_toArray, List.set_cons_zero, List.set_cons_succ]
        exact rest _ _ ⟨v0, v1, rfl, hSw4_2⟩
  · obtain ⟨v1, v2, rfl, HS⟩ := h
    simp only [Act.put, List.setIfInBounds_toArray, List.set_cons_zero, List.set_cons_succ]
    refine step_to 6 23 (.bool true) _ rfl (by kernel_rfl) rfl (by rfl) (op_eqs_same _ _ (.tmp 19) (.tmp 22) rfl _ rfl rfl _) HS ?_
    simp only [Act.put, List.setIfInBounds_toArray, List.set_cons_zero, List.set_cons_succ]
    refine step_to 7 24 (.bool true) _ rfl (by kernel_rfl) rfl (by rfl) (by first | rfl | kernel_rfl) HS ?_
    simp only [Act.put, List.setIfInBounds_toArray, List.set_cons_zero, List.set_cons_succ]
    refine take_to 8 25 (.agg C) rfl (by kernel_rfl) (by kernel_rfl) (by kernel_rfl) (fun _ _ _ h => h) rfl (by rfl) (fun W hW => by exact LQ W hW) HS ?_
    simp only [Act.put, List.setIfInBounds_toArray, List.set_cons_zero, List.set_cons_succ]
    refine take_to 10 27 (.agg C) rfl (by kernel_rfl) (by kernel_rfl) (by kernel_rfl) (fun _ _ _ h => h) rfl (by rfl) (fun W hW => by exact LQ W hW) HS ?_
    simp only [Act.put, List.setIfInBounds_toArray, List.set_cons_zero, List.set_cons_succ]
    refine step_call1_to 9 26 15 rfl (by kernel_rfl) rfl (by rfl) (.tmp 25) _ rfl (.agg C) rfl Try.enters15 (size_any (HVR.out _ HS) (by have := HSZ.out; omega)) (fun e w5 h5 => ?_)
    obtain ⟨rfl, hw5⟩ := h5
    have HS : Below wb.heap.size wb w5 := by rw [hw5]; exact HS.alloc HS.size _
    refine ⟨_, rfl, HS, ?_⟩
    clear hw5
    simp only [Act.put, List.setIfInBounds_toArray, List.set_cons_zero, List.set_cons_succ]
    refine step_call1_to 11 28 14 rfl (by kernel_rfl) rfl (by rfl) (.tmp 27) _ rfl (.agg C) rfl Try.enters14 (HE2.out _ (HVR.out _ HS)) (fun e w6 h6 => ?_)
    obtain ⟨v6, rfl, ho6, hb6⟩ := h6
    have HS : Below wb.heap.size wb w6 := HS.trans (hb6.mono HS.size)
    obtain ⟨a6, c6, hv6⟩ := owns_len ho6
    rw [HLE.out] at hv6
    subst hv6
    refine ⟨_, rfl, HS, ?_⟩
    clear ho6 hb6
    simp only [Act.put, List.setIfInBounds_toArray, List.set_cons_zero, List.set_cons_succ]
    refine step_to 12 29 (.int .i64 (R.size : Nat)) _ rfl (by kernel_rfl) rfl (by rfl) (op_len _ _ (.tmp 28) rfl _ _ _ rfl _) HS ?_
    simp only [Act.put, List.setIfInBounds_toArray, List.set_cons_zero, List.set_cons_succ]
    refine step_to 13 30 (.bool true) _ rfl (by kernel_rfl) rfl (by rfl) (op_eqi _ _ (.tmp 26) (.tmp 29) rfl _ rfl rfl _) HS ?_
    simp only [Act.put, List.setIfInBounds_toArray, List.set_cons_zero, List.set_cons_succ]
    refine step_to 14 31 (.bool true) _ rfl (by kernel_rfl) rfl (by rfl) (by first | rfl | kernel_rfl) HS ?_
    simp only [Act.put, List.setIfInBounds_toArray, List.set_cons_zero, List.set_cons_succ]
    refine step_to 15 32 (.bool true) _ rfl (by kernel_rfl) rfl (by rfl) (by first | rfl | kernel_rfl) HS ?_
    simp only [Act.put, List.setIfInBounds_toArray, List.set_cons_zero, List.set_cons_succ]
    refine take_to 16 33 (.int .i64 (toldN bs : Nat)) rfl (by kernel_rfl) (by kernel_rfl) (by kernel_rfl) (fun _ _ _ h => h) rfl (by rfl) (fun w _ => by rfl) HS ?_
    simp only [Act.put, List.setIfInBounds_toArray, List.set_cons_zero, List.set_cons_succ]
    refine take_to 17 34 (.pointer (some ⟨G, 11, none⟩)) rfl (by kernel_rfl) (by kernel_rfl) (by kernel_rfl) (fun _ _ _ h => h) rfl (by rfl) (fun w _ => by kernel_rfl) HS ?_
    simp only [Act.put, List.setIfInBounds_toArray, List.set_cons_zero, List.set_cons_succ]
    refine take_to 18 35 (.int .i64 (toldN bs : Nat)) rfl (by kernel_rfl) (by kernel_rfl) (by kernel_rfl) (fun _ _ _ h => h) rfl (by rfl) (fun W hW => by exact L11 W hW) HS ?_
    simp only [Act.put, List.setIfInBounds_toArray, List.set_cons_zero, List.set_cons_succ]
    refine step_to 19 36 (.bool true) _ rfl (by kernel_rfl) rfl (by rfl) (op_eqi _ _ (.tmp 33) (.tmp 35) rfl _ rfl rfl _) HS ?_
    simp only [Act.put, List.setIfInBounds_toArray, List.set_cons_zero, List.set_cons_succ]
    refine step_to 20 37 (.bool true) _ rfl (by kernel_rfl) rfl (by rfl) (by first | rfl | kernel_rfl) HS ?_
    simp only [Act.put, List.setIfInBounds_toArray, List.set_cons_zero, List.set_cons_succ]
    refine step_to 21 38 (.bool true) _ rfl (by kernel_rfl) rfl (by rfl) (by first | rfl | kernel_rfl) HS ?_
    simp only [Act.put, List.setIfInBounds_toArray, List.set_cons_zero, List.set_cons_succ]
    refine take_to 22 39 (.bool (dec bs).isSome) rfl (by kernel_rfl) (by kernel_rfl) (by kernel_rfl) (fun _ _ _ h => h) rfl (by rfl) (fun w _ => by rfl) HS ?_
    simp only [Act.put, List.setIfInBounds_toArray, List.set_cons_zero, List.set_cons_succ]
    refine take_to 23 40 (.pointer (some ⟨G, 12, none⟩)) rfl (by kernel_rfl) (by kernel_rfl) (by kernel_rfl) (fun _ _ _ h => h) rfl (by rfl) (fun w _ => by kernel_rfl) HS ?_
    simp only [Act.put, List.setIfInBounds_toArray, List.set_cons_zero, List.set_cons_succ]
    refine take_to 24 41 (.bool (dec bs).isSome) rfl (by kernel_rfl) (by kernel_rfl) (by kernel_rfl) (fun _ _ _ h => h) rfl (by rfl) (fun W hW => by exact L12 W hW) HS ?_
    simp only [Act.put, List.setIfInBounds_toArray, List.set_cons_zero, List.set_cons_succ]
    refine step_to 25 42 (.bool true) _ rfl (by kernel_rfl) rfl (by rfl) (op_eqb _ _ (.tmp 39) (.tmp 41) rfl _ rfl rfl _) HS ?_
    simp only [Act.put, List.setIfInBounds_toArray, List.set_cons_zero, List.set_cons_succ]
    refine step_to 26 43 (.bool true) _ rfl (by kernel_rfl) rfl (by rfl) (by first | rfl | kernel_rfl) HS ?_
    simp only [Act.put, List.setIfInBounds_toArray, List.set_cons_zero, List.set_cons_succ]
    refine step_to 27 44 (.bool true) _ rfl (by kernel_rfl) rfl (by rfl) (by first | rfl | kernel_rfl) HS ?_
    simp only [Act.put, List.setIfInBounds_toArray, List.set_cons_zero, List.set_cons_succ]
    refine take_to 28 45 (.agg #[.int .i64 (told bs).kind, .int .i64 (told bs).txn, .int .i64 (told bs).prev, .int .i64 (told bs).next, .int .i64 (told bs).page, .int .i64 (told bs).off, .slice xab xnb xcb, .slice xaa xna xca, .slice xat xnt xct, .slice xad xnd xcd, .int .i64 (told bs).count]) rfl (by kernel_rfl) (by kernel_rfl) (by kernel_rfl) (fun _ _ _ h => h) rfl (by rfl) (fun W hW => by exact LX W hW) HS ?_
    simp only [Act.put, List.setIfInBounds_toArray, List.set_cons_zero, List.set_cons_succ]
    refine take_to 29 46 (.pointer (some ⟨G, 0, none⟩)) rfl (by kernel_rfl) (by kernel_rfl) (by kernel_rfl) (fun _ _ _ h => h) rfl (by rfl) (fun w _ => by kernel_rfl) HS ?_
    simp only [Act.put, List.setIfInBounds_toArray, List.set_cons_zero, List.set_cons_succ]
    refine take_to 30 47 (.agg #[.int .i64 (told bs).kind, .int .i64 (told bs).txn, .int .i64 (told bs).prev, .int .i64 (told bs).next, .int .i64 (told bs).page, .int .i64 (told bs).off, .slice yab ynb ycb, .slice yaa yna yca, .slice yat ynt yct, .slice yad ynd ycd, .int .i64 (told bs).count]) rfl (by kernel_rfl) (by kernel_rfl) (by kernel_rfl) (fun _ _ _ h => h) rfl (by rfl) (fun W hW => by exact LG W hW) HS ?_
    simp only [Act.put, List.setIfInBounds_toArray, List.set_cons_zero, List.set_cons_succ]
    refine step_call2_to 31 48 12 rfl (by kernel_rfl) rfl (by rfl) (.tmp 45) (.tmp 47) _ rfl (.agg #[.int .i64 (told bs).kind, .int .i64 (told bs).txn, .int .i64 (told bs).prev, .int .i64 (told bs).next, .int .i64 (told bs).page, .int .i64 (told bs).off, .slice xab xnb xcb, .slice xaa xna xca, .slice xat xnt xct, .slice xad xnd xcd, .int .i64 (told bs).count]) (.agg #[.int .i64 (told bs).kind, .int .i64 (told bs).txn, .int .i64 (told bs).prev, .int .i64 (told bs).next, .int .i64 (told bs).page, .int .i64 (told bs).off, .slice yab ynb ycb, .slice yaa yna yca, .slice yat ynt yct, .slice yad ynd ycd, .int .i64 (told bs).count]) rfl rfl Try.enters12 (HSM.out _ HS) (fun e w7 h7 => ?_)
    obtain ⟨rfl, hb7⟩ := h7
    have HS : Below wb.heap.size wb w7 := HS.trans (hb7.mono HS.size)
    refine ⟨_, rfl, HS, ?_⟩
    clear hb7
    simp only [Act.put, List.setIfInBounds_toArray, List.set_cons_zero, List.set_cons_succ]
    refine step_to 32 49 (.bool true) _ rfl (by kernel_rfl) rfl (by rfl) (by first | rfl | kernel_rfl) HS ?_
    simp only [Act.put, List.setIfInBounds_toArray, List.set_cons_zero, List.set_cons_succ]
    refine step_to 33 50 (.bool true) _ rfl (by kernel_rfl) rfl (by rfl) (by first | rfl | kernel_rfl) HS ?_
    simp only [Act.put, List.setIfInBounds_toArray, List.set_cons_zero, List.set_cons_succ]
    refine step_call0_to 34 51 9 rfl (by kernel_rfl) rfl (by rfl) _ rfl Try.enters9 (awake_true _) (fun e w8 h8 => ?_)
    obtain ⟨rfl, hb8⟩ := h8
    have HS : Below wb.heap.size wb w8 := HS.trans (hb8.mono HS.size)
    refine ⟨_, rfl, HS, ?_⟩
    clear hb8
    simp only [Act.put, List.setIfInBounds_toArray, List.set_cons_zero, List.set_cons_succ]
    refine step_to 35 52 (.bool true) _ rfl (by kernel_rfl) rfl (by rfl) (by first | rfl | kernel_rfl) HS ?_
    simp only [Act.put, List.setIfInBounds_toArray, List.set_cons_zero, List.set_cons_succ]
    refine step_to 36 4 (.bool true) _ rfl (by kernel_rfl) rfl (by rfl) (by first | rfl | kernel_rfl) HS ?_
    simp only [Act.put, List.setIfInBounds_toArray, List.set_cons_zero, List.set_cons_succ]
    refine wpAnyH_done (by kernel_rfl) ?_ _
    have HSS := hide HS
    clear HS hSwb LQ LX LG L11 L12
    go_wp2
    go_ret
    exact ⟨rfl, HBW.out.trans (HSS.out.mono HBW.out.size)⟩
end Go.Proofs.Ytmfiafdhflaafaa
