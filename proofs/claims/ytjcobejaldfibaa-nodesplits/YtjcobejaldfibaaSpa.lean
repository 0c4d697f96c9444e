/- NodeSplits at every node. -/
import Derived.Test.YtjcobejaldfibaaSpw
namespace Go.Proofs.Ytjcobejaldfibaa
open Go.RowKit
set_option linter.unusedVariables false
set_option linter.unusedSimpArgs false

def Nd.none : Nd := ⟨true, [], [], [], 0⟩
theorem none_fits : Fits Nd.none := ⟨by decide, by decide, by decide, fun k hk => by simp [Nd.none] at hk, fun k hk => by simp [Nd.none] at hk⟩
theorem build43 (w : World) : (Instr.build 43 #[(0, .bool true)]).run Try.prog w = .ok (.agg #[.bool true, .slice none 0 0, .slice none 0 0, .slice none 0 0, .int .i64 0]) w := by kernel_rfl
theorem op_build43 (ρ : Operand → Value) (o : Oper) (x : Operand) (ho : o.op = .build 43 #[(0, x)]) (hx : ρ x = .bool true) {w : World} : (execOp ρ o).run Try.prog w = .ok (.value (.agg #[.bool true, .slice none 0 0, .slice none 0 0, .slice none 0 0, .int .i64 0])) w := by
  unfold execOp
  simp [ho, hx, Sem.run_bind, build43 w]
theorem to_is {w : World} {N : Nd} {vk vv vi : Value} (h : NdAt w N vk vv vi) (hf : Fits N) (l : Bool) (x : Int) (hl : N.leaf = l) (hx : N.next = x) :
    Calls Try.prog 17 #[.agg #[.bool l, vk, vv, vi, .int .i64 x]] w fun e w' => ∃ uk uv, e = .returned (.agg #[.bool l, uk, uv, vi, .int .i64 x]) ∧ Below w.heap.size w w' ∧ RdAt w' N uk uv vi := by
  subst hl hx
  exact to_any h hf
theorem same_is {w : World} {N : Nd} {uk uv vi uk' uv' vi' : Value} (h : RdAt w N uk uv vi) (h' : RdAt w N uk' uv' vi') (hf : Fits N) (l : Bool) (x : Int) (hl : N.leaf = l) (hx : N.next = x) :
    Calls Try.prog 16 #[.agg #[.bool l, uk, uv, vi, .int .i64 x], .agg #[.bool l, uk', uv', vi', .int .i64 x]] w fun e w' => e = .returned (.bool true) ∧ Below w.heap.size w w' := by
  subst hl hx
  exact same_any h h' hf
theorem split_few {w : World} {N : Nd} {vk vv vi : Value} (h : NdAt w N vk vv vi) (hf : Fits N) (hh : N.half = 0) :
    Calls Try.prog 13 #[.agg #[.bool N.leaf, vk, vv, vi, .int .i64 N.next]] w fun e w' => ∃ ak av ai uk uc bk bv bi, e = .returned (.tuple #[.agg #[.bool N.leaf, ak, av, ai, .int .i64 N.next], .slice uk 0 uc, .agg #[.bool true, bk, bv, bi, .int .i64 0]]) ∧ Below w.heap.size w w' ∧ NdAt w' N ak av ai ∧ NdAt w' Nd.none bk bv bi := by
  refine (split_no h hf (.inl hh)).mono ?_
  rintro e w' ⟨ak, av, ai, uk, bk, bv, bi, rfl, h1, h2, h3, h4⟩
  obtain ⟨a, c, rfl⟩ := owns_len h3
  exact ⟨ak, av, ai, a, c, bk, bv, bi, rfl, h1, h2.at, h4.at⟩
set_option maxHeartbeats 2000000 in
set_option maxRecDepth 100000 in
theorem splits_few {w : World} {N : Nd} {vk vv vi : Value} (h : NdAt w N vk vv vi) (hf : Fits N) (hs : N.sound = true) (h2 : N.keys.length < 2) :
    Calls Try.prog 7 #[.agg #[.bool N.leaf, vk, vv, vi, .int .i64 N.next]] w fun e w' => e = .returned (.bool true) ∧ Below w.heap.size w w' := by
  have HFIT : Hid (∀ W, Below w.heap.size w W → Calls Try.prog 12 #[.agg #[.bool N.leaf, vk, vv, vi, .int .i64 N.next]] W fun e w' => e = .returned (.bool true) ∧ Below W.heap.size W w') := fun W hW => by
    have := lfit_any (h.belowW hW) hf
    rw [hs] at this
    exact this
  have hh0 : N.half = 0 := by unfold Nd.half; omega
  have HSP : Hid (∀ W a b c, NdAt W N a b c → Calls Try.prog 13 #[.agg #[.bool N.leaf, a, b, c, .int .i64 N.next]] W fun e w' => ∃ ak av ai uk uc bk bv bi, e = .returned (.tuple #[.agg #[.bool N.leaf, ak, av, ai, .int .i64 N.next], .slice uk 0 uc, .agg #[.bool true, bk, bv, bi, .int .i64 0]]) ∧ Below W.heap.size W w' ∧ NdAt w' N ak av ai ∧ NdAt w' Nd.none bk bv bi) := fun W a b c hW => split_few hW hf hh0
  have HTO : Hid (∀ W a b c, NdAt W N a b c → Calls Try.prog 17 #[.agg #[.bool N.leaf, a, b, c, .int .i64 N.next]] W fun e w' => ∃ uk uv, e = .returned (.agg #[.bool N.leaf, uk, uv, c, .int .i64 N.next]) ∧ Below W.heap.size W w' ∧ RdAt w' N uk uv c) := fun W a b c hW => to_any hW hf
  have HTE : Hid (∀ W a b c, NdAt W Nd.none a b c → Calls Try.prog 17 #[.agg #[.bool true, a, b, c, .int .i64 0]] W fun e w' => ∃ uk uv, e = .returned (.agg #[.bool true, uk, uv, c, .int .i64 0]) ∧ Below W.heap.size W w' ∧ RdAt w' Nd.none uk uv c) := fun W a b c hW => to_is hW none_fits true 0 rfl rfl
  have HSM : Hid (∀ W a b c x y z, RdAt W N a b c → RdAt W N x y z → Calls Try.prog 16 #[.agg #[.bool N.leaf, a, b, c, .int .i64 N.next], .agg #[.bool N.leaf, x, y, z, .int .i64 N.next]] W fun e w' => e = .returned (.bool true) ∧ Below W.heap.size W w') := fun W a b c x y z h1 h3 => same_any h1 h3 hf
  have HSE : Hid (∀ W a b c x y z, RdAt W Nd.none a b c → RdAt W Nd.none x y z → Calls Try.prog 16 #[.agg #[.bool true, a, b, c, .int .i64 0], .agg #[.bool true, x, y, z, .int .i64 0]] W fun e w' => e = .returned (.bool true) ∧ Below W.heap.size W w') := fun W a b c x y z h1 h3 => same_is h1 h3 none_fits true 0 rfl rfl
  obtain ⟨ak, ck, rfl, _, _⟩ := h.keys.len
  obtain ⟨av, cv, rfl, _, _⟩ := h.vals.len
  obtain ⟨ai, ci, rfl, _, _⟩ := h.kids.len
  have HB0 : Hid (Below w.heap.size w (w.alloc (.cells #[.bool N.leaf, .slice ak N.keys.length ck, .slice av N.vals.length cv, .slice ai N.kids.length ci, .int .i64 N.next] 26))) := (Below.refl _ _).alloc (Nat.le_refl _) _
  have HX0 : Hid (Box 26 (w.alloc (.cells #[.bool N.leaf, .slice ak N.keys.length ck, .slice av N.vals.length cv, .slice ai N.kids.length ci, .int .i64 N.next] 26)) w.heap.size (.bool N.leaf) (.slice ak N.keys.length ck) (.slice av N.vals.length cv) (.slice ai N.kids.length ci) (.int .i64 N.next)) := Box.new _ _ _ _ _ _
  have HN0 := hide (h.belowW HB0.out)
  clear h hf hs hh0
  go_enter Try.func7, Try.ntmps7
  go_upto_region 1 with fail
  generalize (w.alloc (.cells #[.bool N.leaf, .slice ak N.keys.length ck, .slice av N.vals.length cv, .slice ai N.kids.length ci, .int .i64 N.next] 26)) = W0 at *
  obtain ⟨k0, k1, k2, k3, k4, f0, f1, f2, f3, f4⟩ := HX0.out.cells
  go_wp2_with fail
  refine (HFIT.out W0 HB0.out).mono ?_
  rintro e W1 ⟨rfl, hq1⟩
  have HB1 := hide (HB0.out.trans (hq1.mono HB0.out.size))
  have NX1 := hide (HX0.out.belowW hq1)
  have NA1 := hide (HN0.out.belowW hq1)
  clear hq1 k0 k1 k2 k3 k4 f0 f1 f2 f3 f4 HX0 HB0 HN0 HFIT
  obtain ⟨k0, k1, k2, k3, k4, f0, f1, f2, f3, f4⟩ := NX1.out.cells
  go_wp2_with fail
  refine (HSP.out W1 _ _ _ NA1.out).mono ?_
  rintro e W2 ⟨lk, lv, li, u1, u2, rk, rv, ri, rfl, hq2, hA2, hB2⟩
  clear k0 k1 k2 k3 k4 f0 f1 f2 f3 f4
  obtain ⟨a1, c1, e1, _, _⟩ := hA2.keys.len
  obtain ⟨a2, c2, e2, _, _⟩ := hA2.vals.len
  obtain ⟨a3, c3, e3, _, _⟩ := hA2.kids.len
  obtain ⟨b1, d1, e4, _, _⟩ := hB2.keys.len
  obtain ⟨b2, d2, e5, _, _⟩ := hB2.vals.len
  obtain ⟨b3, d3, e6, _, _⟩ := hB2.kids.len
  have e4 : rk = .slice b1 0 d1 := e4
  have e5 : rv = .slice b2 0 d2 := e5
  have e6 : ri = .slice b3 0 d3 := e6
  subst e1 e2 e3 e4 e5 e6
  have AA2 := hide hA2
  have BA2 := hide hB2
  have HB2' := hide (HB1.out.trans (hq2.mono HB1.out.size))
  have NX2 := hide (NX1.out.belowW hq2)
  have NA2 := hide (NA1.out.belowW hq2)
  clear hA2 hB2 hq2 HB1 NX1 NA1 HSP
  go_upto_region 4 with fail
  have hz3 := (Below.refl W2.heap.size W2).alloc (Nat.le_refl _) (.cells #[.bool N.leaf, .slice a1 N.keys.length c1, .slice a2 N.vals.length c2, .slice a3 N.kids.length c3, .int .i64 N.next] 26)
  have hq3 := hz3.alloc hz3.size (.cells #[.bool true, .slice b1 0 d1, .slice b2 0 d2, .slice b3 0 d3, .int .i64 0] 26)
  have AX3 : Hid (Box 26 ((W2.alloc (.cells #[.bool N.leaf, .slice a1 N.keys.length c1, .slice a2 N.vals.length c2, .slice a3 N.kids.length c3, .int .i64 N.next] 26)).alloc (.cells #[.bool true, .slice b1 0 d1, .slice b2 0 d2, .slice b3 0 d3, .int .i64 0] 26)) (W2.heap.size) (.bool N.leaf) (.slice a1 N.keys.length c1) (.slice a2 N.vals.length c2) (.slice a3 N.kids.length c3) (.int .i64 N.next)) := (Box.new (t := 26) W2 _ _ _ _ _).alloc _
  have BX3 : Hid (Box 26 ((W2.alloc (.cells #[.bool N.leaf, .slice a1 N.keys.length c1, .slice a2 N.vals.length c2, .slice a3 N.kids.length c3, .int .i64 N.next] 26)).alloc (.cells #[.bool true, .slice b1 0 d1, .slice b2 0 d2, .slice b3 0 d3, .int .i64 0] 26)) (W2.heap.size + 1) (.bool true) (.slice b1 0 d1) (.slice b2 0 d2) (.slice b3 0 d3) (.int .i64 0)) := by
    have := Box.new (t := 26) (W2.alloc (.cells #[.bool N.leaf, .slice a1 N.keys.length c1, .slice a2 N.vals.length c2, .slice a3 N.kids.length c3, .int .i64 N.next] 26)) (.bool true) (.slice b1 0 d1) (.slice b2 0 d2) (.slice b3 0 d3) (.int .i64 0)
    rwa [show (W2.alloc (.cells #[.bool N.leaf, .slice a1 N.keys.length c1, .slice a2 N.vals.length c2, .slice a3 N.kids.length c3, .int .i64 N.next] 26)).heap.size = W2.heap.size + 1 by simp] at this
  have NX3 := hide (NX2.out.belowW hq3)
  have NA3 := hide (NA2.out.belowW hq3)
  have AA3 := hide (AA2.out.belowW hq3)
  have BA3 := hide (BA2.out.belowW hq3)
  have HB3 := hide (HB2'.out.trans (hq3.mono HB2'.out.size))
  clear hz3 hq3 NX2 NA2 AA2 BA2 HB2'
  generalize ((W2.alloc (.cells #[.bool N.leaf, .slice a1 N.keys.length c1, .slice a2 N.vals.length c2, .slice a3 N.kids.length c3, .int .i64 N.next] 26)).alloc (.cells #[.bool true, .slice b1 0 d1, .slice b2 0 d2, .slice b3 0 d3, .int .i64 0] 26)) = W3 at *
  generalize W2.heap.size = bA at *
  obtain ⟨k0, k1, k2, k3, k4, f0, f1, f2, f3, f4⟩ := NX3.out.cells
  go_upto_region 5 with fail
  clear k0 k1 k2 k3 k4 f0 f1 f2 f3 f4
  refine wp_region_held_drew (S := fun w' => Box 26 w' (bA) (.bool N.leaf) (.slice a1 N.keys.length c1) (.slice a2 N.vals.length c2) (.slice a3 N.kids.length c3) (.int .i64 N.next) ∧ Box 26 w' (bA + 1) (.bool true) (.slice b1 0 d1) (.slice b2 0 d2) (.slice b3 0 d3) (.int .i64 0) ∧ Box 26 w' (w.heap.size) (.bool N.leaf) (.slice ak N.keys.length ck) (.slice av N.vals.length cv) (.slice ai N.kids.length ci) (.int .i64 N.next)) (by kernel_rfl) ⟨AX3.out.belowW (below_drewN _ _ 1), BX3.out.belowW (below_drewN _ _ 1), NX3.out.belowW (below_drewN _ _ 1)⟩ (fun hH => ?_)
  refine take_to 0 22 (.agg #[.bool N.leaf, .slice a1 N.keys.length c1, .slice a2 N.vals.length c2, .slice a3 N.kids.length c3, .int .i64 N.next]) rfl (by kernel_rfl) (by kernel_rfl) (by kernel_rfl) (fun _ _ _ h => h) rfl (by rfl) (fun w hw => op_load _ _ 26 (.tmp 3) rfl (.pointer (some ⟨_, 0, none⟩)) _ rfl (load26 hw.1)) hH ?_
  simp only [Act.put, List.setIfInBounds_toArray, List.set_cons_zero, List.set_cons_succ]
  refine take_to 2 24 (.agg #[.bool N.leaf, .slice ak N.keys.length ck, .slice av N.vals.length cv, .slice ai N.kids.length ci, .int .i64 N.next]) rfl (by kernel_rfl) (by kernel_rfl) (by kernel_rfl) (fun _ _ _ h => h) rfl (by rfl) (fun w hw => op_load _ _ 26 (.tmp 1) rfl (.pointer (some ⟨_, 0, none⟩)) _ rfl (load26 hw.2.2)) hH ?_
  simp only [Act.put, List.setIfInBounds_toArray, List.set_cons_zero, List.set_cons_succ]
  have hE : Below W3.heap.size W3 W3.drew := below_drewN _ _ 1
  clear hH
  generalize W3.drew = T0 at hE ⊢
  refine step_call1_to 1 23 17 rfl (by kernel_rfl) rfl (by rfl) (.tmp 22) _ rfl _ rfl Try.enters17 (HTO.out T0 _ _ _ (AA3.out.belowW hE)) ?_
  rintro e T1 ⟨r1, r2, rfl, hq1, hr1⟩
  have hT1 := hE.trans (hq1.mono hE.size)
  refine ⟨_, rfl, ⟨AX3.out.belowW hT1, BX3.out.belowW hT1, NX3.out.belowW hT1⟩, ?_⟩
  simp only [Act.put, List.setIfInBounds_toArray, List.set_cons_zero, List.set_cons_succ]
  refine step_call1_to 3 25 17 rfl (by kernel_rfl) rfl (by rfl) (.tmp 24) _ rfl _ rfl Try.enters17 (HTO.out T1 _ _ _ (NA3.out.belowW hT1)) ?_
  rintro e T2 ⟨r3, r4, rfl, hq2, hr2⟩
  have hT2 := hT1.trans (hq2.mono hT1.size)
  refine ⟨_, rfl, ⟨AX3.out.belowW hT2, BX3.out.belowW hT2, NX3.out.belowW hT2⟩, ?_⟩
  simp only [Act.put, List.setIfInBounds_toArray, List.set_cons_zero, List.set_cons_succ]
  have hr1' := hr1.belowW hq2
  refine step_call2_to 4 26 16 rfl (by kernel_rfl) rfl (by rfl) (.tmp 23) (.tmp 25) _ rfl _ _ rfl rfl Try.enters16 (HSM.out T2 _ _ _ _ _ _ hr1' hr2) ?_
  rintro e T3 ⟨rfl, hq3⟩
  have hT3 := hT2.trans (hq3.mono hT2.size)
  refine ⟨_, rfl, ⟨AX3.out.belowW hT3, BX3.out.belowW hT3, NX3.out.belowW hT3⟩, ?_⟩
  simp only [Act.put, List.setIfInBounds_toArray, List.set_cons_zero, List.set_cons_succ]
  refine take_to 5 27 (.bool true) rfl (by kernel_rfl) (by kernel_rfl) (by kernel_rfl) (fun _ _ _ h => h) rfl (by rfl) (fun w hw => by rfl) ⟨AX3.out.belowW hT3, BX3.out.belowW hT3, NX3.out.belowW hT3⟩ ?_
  simp only [Act.put, List.setIfInBounds_toArray, List.set_cons_zero, List.set_cons_succ]
  refine take_to 6 28 (.slice u1 0 u2) rfl (by kernel_rfl) (by kernel_rfl) (by kernel_rfl) (fun _ _ _ h => h) rfl (by rfl) (fun w hw => by rfl) ⟨AX3.out.belowW hT3, BX3.out.belowW hT3, NX3.out.belowW hT3⟩ ?_
  simp only [Act.put, List.setIfInBounds_toArray, List.set_cons_zero, List.set_cons_succ]
  refine take_to 7 29 (.int .i64 0) rfl (by kernel_rfl) (by kernel_rfl) (by kernel_rfl) (fun _ _ _ h => h) rfl (by rfl) (fun w hw => op_len _ _ (.tmp 28) 28 5 Try.underlying28 rfl u1 0 u2 rfl) ⟨AX3.out.belowW hT3, BX3.out.belowW hT3, NX3.out.belowW hT3⟩ ?_
  simp only [Act.put, List.setIfInBounds_toArray, List.set_cons_zero, List.set_cons_succ]
  refine take_to 8 30 (.bool true) rfl (by kernel_rfl) (by kernel_rfl) (by kernel_rfl) (fun _ _ _ h => h) rfl (by rfl) (fun w hw => op_eql3 _ _ (.tmp 29) (.const (.int .i64 0)) _ rfl 0 0 rfl rfl true (by decide)) ⟨AX3.out.belowW hT3, BX3.out.belowW hT3, NX3.out.belowW hT3⟩ ?_
  simp only [Act.put, List.setIfInBounds_toArray, List.set_cons_zero, List.set_cons_succ]
  refine take_to 9 31 (.bool true) rfl (by kernel_rfl) (by kernel_rfl) (by kernel_rfl) (fun _ _ _ h => h) rfl (by rfl) (fun w hw => by rfl) ⟨AX3.out.belowW hT3, BX3.out.belowW hT3, NX3.out.belowW hT3⟩ ?_
  simp only [Act.put, List.setIfInBounds_toArray, List.set_cons_zero, List.set_cons_succ]
  refine take_to 10 32 (.bool true) rfl (by kernel_rfl) (by kernel_rfl) (by kernel_rfl) (fun _ _ _ h => h) rfl (by rfl) (fun w hw => by rfl) ⟨AX3.out.belowW hT3, BX3.out.belowW hT3, NX3.out.belowW hT3⟩ ?_
  simp only [Act.put, List.setIfInBounds_toArray, List.set_cons_zero, List.set_cons_succ]
  refine take_to 11 33 (.agg #[.bool true, .slice b1 0 d1, .slice b2 0 d2, .slice b3 0 d3, .int .i64 0]) rfl (by kernel_rfl) (by kernel_rfl) (by kernel_rfl) (fun _ _ _ h => h) rfl (by rfl) (fun w hw => op_load _ _ 26 (.tmp 5) rfl (.pointer (some ⟨_, 0, none⟩)) _ rfl (load26 hw.2.1)) ⟨AX3.out.belowW hT3, BX3.out.belowW hT3, NX3.out.belowW hT3⟩ ?_
  simp only [Act.put, List.setIfInBounds_toArray, List.set_cons_zero, List.set_cons_succ]
  refine take_to 13 35 (.agg #[.bool true, .slice none 0 0, .slice none 0 0, .slice none 0 0, .int .i64 0]) rfl (by kernel_rfl) (by kernel_rfl) (by kernel_rfl) (fun _ _ _ h => h) rfl (by rfl) (fun w hw => op_build43 _ _ (.const (.bool true)) rfl rfl) ⟨AX3.out.belowW hT3, BX3.out.belowW hT3, NX3.out.belowW hT3⟩ ?_
  simp only [Act.put, List.setIfInBounds_toArray, List.set_cons_zero, List.set_cons_succ]
  refine step_call1_to 12 34 17 rfl (by kernel_rfl) rfl (by rfl) (.tmp 33) _ rfl _ rfl Try.enters17 (HTE.out T3 _ _ _ (BA3.out.belowW hT3)) ?_
  rintro e T4 ⟨r5, r6, rfl, hq4, hr4⟩
  have hT4 := hT3.trans (hq4.mono hT3.size)
  refine ⟨_, rfl, ⟨AX3.out.belowW hT4, BX3.out.belowW hT4, NX3.out.belowW hT4⟩, ?_⟩
  simp only [Act.put, List.setIfInBounds_toArray, List.set_cons_zero, List.set_cons_succ]
  refine step_call2_to 14 36 16 rfl (by kernel_rfl) rfl (by rfl) (.tmp 34) (.tmp 35) _ rfl _ _ rfl rfl Try.enters16 (HSE.out T4 _ _ _ _ _ _ hr4 ⟨StAt.nil _, StAt.nil _, InAt.nil _⟩) ?_
  rintro e T5 ⟨rfl, hq5⟩
  have hT5 := hT4.trans (hq5.mono hT4.size)
  refine ⟨_, rfl, ⟨AX3.out.belowW hT5, BX3.out.belowW hT5, NX3.out.belowW hT5⟩, ?_⟩
  simp only [Act.put, List.setIfInBounds_toArray, List.set_cons_zero, List.set_cons_succ]
  refine take_to 15 37 (.bool true) rfl (by kernel_rfl) (by kernel_rfl) (by kernel_rfl) (fun _ _ _ h => h) rfl (by rfl) (fun w hw => by rfl) ⟨AX3.out.belowW hT5, BX3.out.belowW hT5, NX3.out.belowW hT5⟩ ?_
  simp only [Act.put, List.setIfInBounds_toArray, List.set_cons_zero, List.set_cons_succ]
  refine take_to 16 38 (.bool true) rfl (by kernel_rfl) (by kernel_rfl) (by kernel_rfl) (fun _ _ _ h => h) rfl (by rfl) (fun w hw => by rfl) ⟨AX3.out.belowW hT5, BX3.out.belowW hT5, NX3.out.belowW hT5⟩ ?_
  simp only [Act.put, List.setIfInBounds_toArray, List.set_cons_zero, List.set_cons_succ]
  refine step_call0_to 17 39 11 rfl (by kernel_rfl) rfl (by rfl) _ rfl Try.enters11 (awake_any T5) ?_
  rintro e T6 ⟨rfl, hq6⟩
  have hT6 := hT5.trans (hq6.mono hT5.size)
  refine ⟨_, rfl, ⟨AX3.out.belowW hT6, BX3.out.belowW hT6, NX3.out.belowW hT6⟩, ?_⟩
  simp only [Act.put, List.setIfInBounds_toArray, List.set_cons_zero, List.set_cons_succ]
  refine step_to 18 40 (.bool true) T6 rfl (by kernel_rfl) rfl (by rfl) (by rfl) ⟨AX3.out.belowW hT6, BX3.out.belowW hT6, NX3.out.belowW hT6⟩ ?_
  simp only [Act.put, List.setIfInBounds_toArray, List.set_cons_zero, List.set_cons_succ]
  refine step_to 19 2 (.bool true) T6 rfl (by kernel_rfl) rfl (by rfl) (by rfl) ⟨AX3.out.belowW hT6, BX3.out.belowW hT6, NX3.out.belowW hT6⟩ ?_
  simp only [Act.put, List.setIfInBounds_toArray, List.set_cons_zero, List.set_cons_succ]
  refine wpAnyH_done (by kernel_rfl) ?_ _
  go_wp2
  go_ret
  exact ⟨rfl, HB3.out.trans (hT6.mono HB3.out.size)⟩
set_option maxHeartbeats 1000000 in
set_option maxRecDepth 100000 in
theorem splits_not {w : World} {N : Nd} {vk vv vi : Value} (h : NdAt w N vk vv vi) (hf : Fits N) (hs : N.sound = false) :
    Calls Try.prog 7 #[.agg #[.bool N.leaf, vk, vv, vi, .int .i64 N.next]] w fun e w' => e = .returned (.bool true) ∧ Below w.heap.size w w' := by
  have HFIT : Hid (∀ W, Below w.heap.size w W → Calls Try.prog 12 #[.agg #[.bool N.leaf, vk, vv, vi, .int .i64 N.next]] W fun e w' => e = .returned (.bool false) ∧ Below W.heap.size W w') := fun W hW => by
    have := lfit_any (h.belowW hW) hf
    rw [hs] at this
    exact this
  have HAW := hide awake_any
  obtain ⟨ak, ck, rfl, _, _⟩ := h.keys.len
  obtain ⟨av, cv, rfl, _, _⟩ := h.vals.len
  obtain ⟨ai, ci, rfl, _, _⟩ := h.kids.len
  have HB0 : Hid (Below w.heap.size w (w.alloc (.cells #[.bool N.leaf, .slice ak N.keys.length ck, .slice av N.vals.length cv, .slice ai N.kids.length ci, .int .i64 N.next] 26))) := (Below.refl _ _).alloc (Nat.le_refl _) _
  have HFW := hide (HFIT.out _ HB0.out)
  clear h hf hs HFIT
  go_enter Try.func7, Try.ntmps7
  go_wp2_with fail
  refine HFW.out.mono ?_
  rintro e W1 ⟨rfl, hb1⟩
  have HB1 := hide (HB0.out.trans (hb1.mono HB0.out.size))
  have HA1 := hide (HAW.out W1)
  clear hb1
  go_wp2_with (go_at_call 11; refine HA1.out.mono ?_; rintro e W2 ⟨rfl, hb2⟩)
  go_ret
  exact ⟨rfl, HB1.out.trans (hb2.mono HB1.out.size)⟩
theorem splits_walk {w : World} {N : Nd} {vk vv vi : Value} (h : NdAt w N vk vv vi) (hf : Fits N) :
    Calls Try.prog 7 #[.agg #[.bool N.leaf, vk, vv, vi, .int .i64 N.next]] w fun e w' => e = .returned (.bool true) ∧ Below w.heap.size w w' := by
  cases hs : N.sound with
  | false => exact splits_not h hf hs
  | true =>
    by_cases h2 : N.keys.length < 2
    · exact splits_few h hf hs h2
    · cases hl : N.leaf with
      | true => exact splits_leaf h hf hs hl (by omega)
      | false => exact splits_inner h hf hs hl (by omega)
end Go.Proofs.Ytjcobejaldfibaa
