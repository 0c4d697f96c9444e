/- The walk of NodeCuts. -/
import Derived.Test.YtjcobejaldfibaaLft
namespace Go.Proofs.Ytjcobejaldfibaa
open Go.RowKit
set_option linter.unusedVariables false
set_option linter.unusedSimpArgs false

theorem step_call0_to {P : Program} {ops : Array Oper} {Q : Exit → Act → World → Prop} {md : Region.Mode} {S : World → Prop} {o : Oper} {fuel : Nat} {listed : Array Bool} {a : Act} {w : World} {R : Ending → World → Prop} (j dst f : Nat) (hj : ops[j]? = some o)
    (hr : Region.ready md ops listed = [j]) (hd : o.dst = some dst) (hw : Region.wanted o (yielded ops a.tmps) = true) (ts : Array TypeId) (hop : o.op = Op.call { callee := Callee.value (Operand.func f), args := #[], argTypes := ts })
    (hcf : ∀ args w, (callFunc f args).run P w = .ok (.enter f args) w) (hc : Calls P f #[] w R)
    (hK : ∀ e w', R e w' → ∃ v, e = .returned v ∧ S w' ∧ wpAnyH P md ops Q S fuel (listed.setIfInBounds j true) (a.put (some dst) v) w') : wpAnyH P md ops Q S (fuel + 1) listed a w := by
  refine step_by j hj hr (fun K hK' => ?_)
  rw [if_pos hw]
  have hrun : (execOp a.eval o).run P w = .ok (.enter f #[]) w := by
    have hff : a.eval (.func f) = .func (.func f) #[] #[] := rfl
    unfold execOp
    simp [hop, resolve, hff, Deferred.ofValue, invoke]
    exact hcf _ _
  unfold Oper.wp
  rw [hrun, Oper.upon_enter]
  refine hc.mono ?_
  intro e w' hR
  obtain ⟨v, rfl, hS, hW⟩ := hK e w' hR
  show K (a.put o.dst v) w'
  rw [hd]
  exact hK' _ _ hS hW
theorem op_call3_to {P : Program} {ops : Array Oper} {Q : Exit → Act → World → Prop} {o : Oper} {a : Act} {w : World} {K : Act → World → Prop} {i : Nat} {R : Ending → World → Prop} (dst f : Nat) (hi : ops[i]? = some o)
    (hd : o.dst = some dst) (hw : Region.wanted o (yielded ops a.tmps) = true) (x y z : Operand) (ts : Array TypeId) (hop : o.op = Op.call { callee := Callee.value (Operand.func f), args := #[x, y, z], argTypes := ts })
    (vx vy vz : Value) (hx : a.eval x = vx) (hy : a.eval y = vy) (hz : a.eval z = vz) (hcf : ∀ args w, (callFunc f args).run P w = .ok (.enter f args) w) (hc : Calls P f #[vx, vy, vz] w R)
    (hK : ∀ e w', R e w' → ∃ v, e = .returned v ∧ K (a.put (some dst) v) w') : wpOp P ops Q i K a w := by
  refine wpOp_step hi (fun K' hK' => ?_)
  rw [if_pos hw]
  have hrun : (execOp a.eval o).run P w = .ok (.enter f #[vx, vy, vz]) w := by
    have hff : a.eval (.func f) = .func (.func f) #[] #[] := rfl
    unfold execOp
    simp [hop, resolve, hff, Deferred.ofValue, invoke, hx, hy, hz]
    exact hcf _ _
  unfold Oper.wp
  rw [hrun, Oper.upon_enter]
  refine hc.mono ?_
  intro e w' hR
  obtain ⟨v, rfl, hW⟩ := hK e w' hR
  show K' (a.put o.dst v) w'
  rw [hd]
  exact hK' _ _ hW
theorem op_alloc26 (ρ : Operand → Value) (o : Oper) (ho : o.op = .alloc 26) (w : World) : (execOp ρ o).run Try.prog w = .ok (.value (.pointer (some ⟨w.heap.size, 0, none⟩))) (w.alloc (.cells #[.bool false, .slice none 0 0, .slice none 0 0, .slice none 0 0, .int .i64 0] 26)) := by
  unfold execOp
  rw [ho]
  kernel_rfl
theorem op_eql38 (ρ : Operand → Value) (o : Oper) (x y : Operand) (tt : TypeId) (ho : o.op = .binOp .eql 38 x y tt) (n m : Int) (hx : ρ x = .int .i64 n) (hy : ρ y = .int .i64 m) (b : Bool) (hb : (n == m) = b) {w : World} : (execOp ρ o).run Try.prog w = .ok (.value (.bool b)) w := by
  have hu := Try.underlying38
  unfold execOp
  simp only [ho, hx, hy]
  simp [go_sem, hu, hb]
theorem merge_lf {w : World} {L R : Nd} {vk vv vi uk uv ui kv : Value} {k : List UInt8} (hL : NdAt w L vk vv vi) (hR : NdAt w R uk uv ui) (hfL : Fits L) (hfR : Fits R) (hfM : Fits (mergeN L k R)) (hk : Sl w kv k) (hl : Lf L) (hr : Lf R) :
    Calls Try.prog 14 #[.agg #[.bool true, vk, vv, vi, .int .i64 L.next], kv, .agg #[.bool true, uk, uv, ui, .int .i64 R.next]] w fun e w' => ∃ ok ov oi, e = .returned (.agg #[.bool true, ok, ov, oi, .int .i64 (mergeN L k R).next]) ∧ Below w.heap.size w w' ∧ NdAt w' (mergeN L k R) ok ov oi := by
  have := merge_leaf hL hR hfL hfR hfM hk hl.lf hr.lf hl.mat hr.mat
  rw [hl.lf, hr.lf, (hl.merge hr k).lf] at this
  exact this.mono (fun e w' ⟨a, b, c, h1, h2, h3⟩ => ⟨a, b, c, h1, h2, h3.at⟩)
theorem merge_own {w : World} {L R : Nd} {vk vv vi uk uv ui kv : Value} {k : List UInt8} (hL : NdAt w L vk vv vi) (hR : NdAt w R uk uv ui) (hfL : Fits L) (hfR : Fits R) (hfM : Fits (mergeN L k R)) (hk : Sl w kv k) (hl : Lf L) (hr : Lf R) :
    Calls Try.prog 14 #[.agg #[.bool true, vk, vv, vi, .int .i64 L.next], kv, .agg #[.bool true, uk, uv, ui, .int .i64 R.next]] w fun e w' => ∃ ok ov oi, e = .returned (.agg #[.bool true, ok, ov, oi, .int .i64 (mergeN L k R).next]) ∧ Below w.heap.size w w' ∧ NdOwn w.heap.size w' (mergeN L k R) ok ov oi := by
  have := merge_leaf hL hR hfL hfR hfM hk hl.lf hr.lf hl.mat hr.mat
  rw [hl.lf, hr.lf, (hl.merge hr k).lf] at this
  exact this
theorem wp_with_act {P : Program} {c : Code} {Q : Exit → Act → World → Prop} {a : Act} {w : World} (h : ∀ a0, a0 = a → c.wp P Q a0 w) : c.wp P Q a w := h a rfl
theorem split_lf {w : World} {N : Nd} {vk vv vi : Value} (h : NdAt w N vk vv vi) (hf : Fits N) (hh : N.half ≠ 0) (hl : Lf N) :
    Calls Try.prog 13 #[.agg #[.bool true, vk, vv, vi, .int .i64 N.next]] w fun e w' => ∃ ak av ai uk bk bv bi, e = .returned (.tuple #[.agg #[.bool true, ak, av, ai, .int .i64 N.left.next], uk, .agg #[.bool true, bk, bv, bi, .int .i64 N.right.next]]) ∧ Below w.heap.size w w' ∧ NdAt w' N.left ak av ai ∧ Sl w' uk N.key ∧ NdAt w' N.right bk bv bi := by
  refine (split_leaf h hf hh hl.mat hl.lf).mono ?_
  rintro e w' ⟨ak, av, ai, uk, bk, bv, bi, rfl, h1, h2, h3, h4⟩
  rw [hl.left.lf, hl.right.lf]
  exact ⟨ak, av, ai, uk, bk, bv, bi, rfl, h1, h2.at, Row.of_owns h3, h4.at⟩
theorem enc_code {w : World} {N : Nd} {vk vv vi : Value} (h : NdAt w N vk vv vi) (hf : Fits N) (hl : Lf N) (hs : N.sound = true) :
    Calls Try.prog 15 #[.agg #[.bool true, vk, vv, vi, .int .i64 N.next]] w fun e w' => ∃ v, e = .returned (.tuple #[v, .int .i64 (if N.size ≤ 504 then 0 else 60)]) ∧ Below w.heap.size w w' := by
  refine (encode_leaf h hf hl.lf).mono (fun e w' hE => ?_)
  rcases hE.out with ⟨h1, _⟩ | ⟨_, h2, rfl⟩ | ⟨_, h2, v, rfl, _⟩
  · rw [hs] at h1; cases h1
  · rw [if_neg (by omega)]; exact ⟨_, rfl, hE.below⟩
  · rw [if_pos h2]; exact ⟨_, rfl, hE.below⟩
theorem geq_str (s p : ByteArray) (w : World) : (binOp .geq 9 (.string s) (.string p)).run Try.prog w = .ok (.bool (!Op.bytesLess s.toList p.toList)) w := by simp [binOp, Op.stringOp]
set_option maxHeartbeats 2000000 in
set_option maxRecDepth 100000 in
theorem cuts_main {w : World} {N : Nd} {vk vv vi : Value} (h : NdAt w N vk vv vi) (hf : Fits N) (hs : N.sound = true) (hl : N.leaf = true) (h4 : 4 ≤ N.keys.length) :
    Calls Try.prog 4 #[.agg #[.bool true, vk, vv, vi, .int .i64 N.next]] w fun e w' => e = .returned (.bool true) ∧ Below w.heap.size w w' := by
  have HFIT : Hid (∀ W, Below w.heap.size w W → Calls Try.prog 12 #[.agg #[.bool true, vk, vv, vi, .int .i64 N.next]] W fun e w' => e = .returned (.bool true) ∧ Below W.heap.size W w') := fun W hW => by
    have := lfit_any (h.belowW hW) hf
    rw [hs, hl] at this
    exact this
  have SD := sd_of hs
  have LN := lf_of hl SD.mat
  have LA := LN.left
  have LB := LN.right
  have lA := left_len LN
  have lB := right_len LN
  have lC := left_len LA
  have lD := right_len LA
  have lE := left_len LB
  have lF := right_len LB
  have hhN : N.half = N.keys.length / 2 := rfl
  have hhA : N.left.half = N.left.keys.length / 2 := rfl
  have hhB : N.right.half = N.right.keys.length / 2 := rfl
  have HSN : Hid (∀ W a b c, NdAt W N a b c → Calls Try.prog 13 #[.agg #[.bool true, a, b, c, .int .i64 N.next]] W fun e w' => ∃ ak av ai uk bk bv bi, e = .returned (.tuple #[.agg #[.bool true, ak, av, ai, .int .i64 N.left.next], uk, .agg #[.bool true, bk, bv, bi, .int .i64 N.right.next]]) ∧ Below W.heap.size W w' ∧ NdAt w' N.left ak av ai ∧ Sl w' uk N.key ∧ NdAt w' N.right bk bv bi) := fun W a b c hW => split_lf hW hf (by omega) LN
  have HSA : Hid (∀ W a b c, NdAt W N.left a b c → Calls Try.prog 13 #[.agg #[.bool true, a, b, c, .int .i64 N.left.next]] W fun e w' => ∃ ak av ai uk bk bv bi, e = .returned (.tuple #[.agg #[.bool true, ak, av, ai, .int .i64 N.left.left.next], uk, .agg #[.bool true, bk, bv, bi, .int .i64 N.left.right.next]]) ∧ Below W.heap.size W w' ∧ NdAt w' N.left.left ak av ai ∧ Sl w' uk N.left.key ∧ NdAt w' N.left.right bk bv bi) := fun W a b c hW => split_lf hW (fits_left hf LN) (by omega) LA
  have HSB : Hid (∀ W a b c, NdAt W N.right a b c → Calls Try.prog 13 #[.agg #[.bool true, a, b, c, .int .i64 N.right.next]] W fun e w' => ∃ ak av ai uk bk bv bi, e = .returned (.tuple #[.agg #[.bool true, ak, av, ai, .int .i64 N.right.left.next], uk, .agg #[.bool true, bk, bv, bi, .int .i64 N.right.right.next]]) ∧ Below W.heap.size W w' ∧ NdAt w' N.right.left ak av ai ∧ Sl w' uk N.right.key ∧ NdAt w' N.right.right bk bv bi) := fun W a b c hW => split_lf hW (fits_right hf LN) (by omega) LB
  have eM1 : mergeN N.left.left N.left.key N.left.right = N.left := merge_halves LA _
  have eM3 : mergeN (mergeN N.left N.key N.right.left) N.right.key N.right.right = N := by
    rw [merge_assoc LA LB.left LB.right, merge_halves LB, merge_halves LN]
  have HM1 : Hid (∀ W a b c x y z kv, NdAt W N.left.left a b c → NdAt W N.left.right x y z → Sl W kv N.left.key → Calls Try.prog 14 #[.agg #[.bool true, a, b, c, .int .i64 N.left.left.next], kv, .agg #[.bool true, x, y, z, .int .i64 N.left.right.next]] W fun e w' => ∃ ok ov oi, e = .returned (.agg #[.bool true, ok, ov, oi, .int .i64 N.left.next]) ∧ Below W.heap.size W w' ∧ NdAt w' N.left ok ov oi) := fun W a b c x y z kv h1 h2 h3 => by
    have := merge_lf h1 h2 (fits_left (fits_left hf LN) LA) (fits_right (fits_left hf LN) LA) (by rw [eM1]; exact fits_left hf LN) h3 LA.left LA.right
    rw [eM1] at this
    exact this
  have hfM2 : Fits (mergeN N.left N.key N.right.left) := by
    have hA := fits_left hf LN
    have hB := fits_left (fits_right hf LN) LB
    have q1 := hf.keys
    have q2 := hf.vals
    have q3 := LN.vl
    have q4 := LA.vl
    have q5 := LB.left.vl
    refine ⟨?_, ?_, ?_, ?_, ?_⟩
    · unfold mergeN
      simp [LA.lf]
      omega
    · unfold mergeN
      simp
      omega
    · unfold mergeN
      simp [LA.kd, LB.left.kd]
    · unfold mergeN
      simp [LA.lf]
      intro k hk
      rcases hk with hk | hk
      · exact hA.key k hk
      · exact hB.key k hk
    · unfold mergeN
      simp
      intro k hk
      rcases hk with hk | hk
      · exact hA.val k hk
      · exact hB.val k hk
  have HM2 : Hid (∀ W a b c x y z kv, NdAt W N.left a b c → NdAt W N.right.left x y z → Sl W kv N.key → Calls Try.prog 14 #[.agg #[.bool true, a, b, c, .int .i64 N.left.next], kv, .agg #[.bool true, x, y, z, .int .i64 N.right.left.next]] W fun e w' => ∃ ok ov oi, e = .returned (.agg #[.bool true, ok, ov, oi, .int .i64 (mergeN N.left N.key N.right.left).next]) ∧ Below W.heap.size W w' ∧ NdAt w' (mergeN N.left N.key N.right.left) ok ov oi) := fun W a b c x y z kv h1 h2 h3 => merge_lf h1 h2 (fits_left hf LN) (fits_left (fits_right hf LN) LB) hfM2 h3 LA LB.left
  have HM3 : Hid (∀ W a b c x y z kv, NdAt W (mergeN N.left N.key N.right.left) a b c → NdAt W N.right.right x y z → Sl W kv N.right.key → Calls Try.prog 14 #[.agg #[.bool true, a, b, c, .int .i64 (mergeN N.left N.key N.right.left).next], kv, .agg #[.bool true, x, y, z, .int .i64 N.right.right.next]] W fun e w' => ∃ ok ov oi, e = .returned (.agg #[.bool true, ok, ov, oi, .int .i64 N.next]) ∧ Below W.heap.size W w' ∧ NdOwn W.heap.size w' N ok ov oi) := fun W a b c x y z kv h1 h2 h3 => by
    have := merge_own h1 h2 hfM2 (fits_right (fits_right hf LN) LB) (by rw [eM3]; exact hf) h3 (LA.merge LB.left _) LB.right
    rw [eM3] at this
    exact this
  have HEN : Hid (∀ W a b c, NdAt W N a b c → Calls Try.prog 15 #[.agg #[.bool true, a, b, c, .int .i64 N.next]] W fun e w' => ∃ v, e = .returned (.tuple #[v, .int .i64 (if N.size ≤ 504 then 0 else 60)]) ∧ Below W.heap.size W w') := fun W a b c hW => enc_code hW hf LN hs
  have HTO : Hid (∀ W a b c, NdAt W N a b c → Calls Try.prog 17 #[.agg #[.bool true, a, b, c, .int .i64 N.next]] W fun e w' => ∃ uk uv, e = .returned (.agg #[.bool true, uk, uv, c, .int .i64 N.next]) ∧ Below W.heap.size W w' ∧ RdAt w' N uk uv c) := fun W a b c hW => by
    have := to_any hW hf
    rw [hl] at this
    exact this
  have HSM : Hid (∀ W a b c x y z, RdAt W N a b c → RdAt W N x y z → Calls Try.prog 16 #[.agg #[.bool true, a, b, c, .int .i64 N.next], .agg #[.bool true, x, y, z, .int .i64 N.next]] W fun e w' => e = .returned (.bool true) ∧ Below W.heap.size W w') := fun W a b c x y z h1 h2 => by
    have := same_any h1 h2 hf
    rw [hl] at this
    exact this
  have kL : N.left.key = N.keys.getD N.left.half [] := by unfold Nd.key; rw [left_eq LN]; exact getD_take _ _ _ (by rw [← left_eq LN]; omega)
  have kM : N.right.key = N.keys.getD (N.half + N.right.half) [] := by
    have e : N.right.keys = N.keys.drop N.half := congrArg Nd.keys (right_eq LN)
    show N.right.keys.getD N.right.half [] = _
    rw [e]
    exact getD_drop _ _ _
  have kK : N.key = N.keys.getD N.half [] := rfl
  have HLK : Hid (blt N.left.key N.key = true) := by rw [Hid, kL, kK]; exact rises SD (by omega) (by omega)
  have HKM : Hid (blt N.key N.right.key = true) := by rw [Hid, kM, kK]; exact rises SD (by omega) (by omega)
  have hsum : N.left.left.keys.length + N.left.right.keys.length + N.right.left.keys.length + N.right.right.keys.length = N.keys.length := by omega
  have hnk3 := hf.keys
  obtain ⟨ak, ck, rfl, _, _⟩ := h.keys.len
  obtain ⟨av, cv, rfl, _, _⟩ := h.vals.len
  obtain ⟨ai, ci, rfl, _, _⟩ := h.kids.len
  have HB0 : Hid (Below w.heap.size w (w.alloc (.cells #[.bool true, .slice ak N.keys.length ck, .slice av N.vals.length cv, .slice ai N.kids.length ci, .int .i64 N.next] 26))) := (Below.refl _ _).alloc (Nat.le_refl _) _
  have HX0 : Hid (Box 26 (w.alloc (.cells #[.bool true, .slice ak N.keys.length ck, .slice av N.vals.length cv, .slice ai N.kids.length ci, .int .i64 N.next] 26)) w.heap.size (.bool true) (.slice ak N.keys.length ck) (.slice av N.vals.length cv) (.slice ai N.kids.length ci) (.int .i64 N.next)) := Box.new _ _ _ _ _ _
  have HN0 := hide (h.belowW HB0.out)
  have hl4 : ¬ (N.keys.length < 4) := by omega
  have HSUM := hide hsum
  clear h hf hs hl h4 SD LN LA LB lA lB lC lD lE lF hhN hhA hhB eM1 eM3 hfM2 kL kM kK hsum
  generalize hszz : (if N.size ≤ 504 then (0 : Int) else 60) = gc at *
  have hgc : gc = 0 ∨ gc = 60 := by rw [← hszz]; split <;> simp
  clear hszz
  generalize N.left.left = C at *
  generalize N.left.right = D at *
  generalize N.left.key = KL at *
  generalize N.right.left = E at *
  generalize N.right.right = F at *
  generalize N.right.key = KM at *
  generalize N.left = A at *
  generalize N.right = B at *
  generalize N.key = KK at *
  generalize mergeN A KK E = M2 at *
  go_enter Try.func4, Try.ntmps4
  go_upto_region 1 with fail
  generalize (w.alloc (.cells #[.bool true, .slice ak N.keys.length ck, .slice av N.vals.length cv, .slice ai N.kids.length ci, .int .i64 N.next] 26)) = W0 at *
  obtain ⟨k0, k1, k2, k3, k4, f0, f1, f2, f3, f4⟩ := HX0.out.cells
  go_wp2_with fail
  refine (HFIT.out W0 HB0.out).mono ?_
  rintro e W1 ⟨rfl, hb1⟩
  have HB1 := hide (HB0.out.trans (hb1.mono HB0.out.size))
  have NX1 := hide (HX0.out.belowW hb1)
  have NA1 := hide (HN0.out.belowW hb1)
  clear hb1 k0 k1 k2 k3 k4 f0 f1 f2 f3 f4 HX0 HB0 HN0 HFIT
  obtain ⟨k0, k1, k2, k3, k4, f0, f1, f2, f3, f4⟩ := NX1.out.cells
  go_wp2_with fail
  refine (HSN.out W1 _ _ _ NA1.out).mono ?_
  rintro e W2 ⟨ak, av, ai, kkv, bk, bv, bi, rfl, hq2, ha2, hkk2, hb2⟩
  clear k0 k1 k2 k3 k4 f0 f1 f2 f3 f4
  have NX2 := hide (NX1.out.belowW hq2)
  have NA2 := hide (NA1.out.belowW hq2)
  have HB2 := hide (HB1.out.trans (hq2.mono HB1.out.size))
  clear NX1 NA1 HB1 hq2
  obtain ⟨av1, avc1, ea1, _, _⟩ := ha2.keys.len
  obtain ⟨av2, avc2, ea2, _, _⟩ := ha2.vals.len
  obtain ⟨av3, avc3, ea3, _, _⟩ := ha2.kids.len
  obtain ⟨bv1, bvc1, eb1, _, _⟩ := hb2.keys.len
  obtain ⟨bv2, bvc2, eb2, _, _⟩ := hb2.vals.len
  obtain ⟨bv3, bvc3, eb3, _, _⟩ := hb2.kids.len
  obtain ⟨kka, kkc, ekk, _, _⟩ := hkk2.len
  subst ea1 ea2 ea3 eb1 eb2 eb3 ekk
  have AA2 := hide ha2
  have BA2 := hide hb2
  have kkS2 := hide hkk2
  clear ha2 hb2 hkk2
  go_upto_region 4 with fail
  have hz3 := (Below.refl W2.heap.size W2).alloc (Nat.le_refl _) (.cells #[.bool true, .slice av1 A.keys.length avc1, .slice av2 A.vals.length avc2, .slice av3 A.kids.length avc3, .int .i64 A.next] 26)
  have hq3 := hz3.alloc hz3.size (.cells #[.bool true, .slice bv1 B.keys.length bvc1, .slice bv2 B.vals.length bvc2, .slice bv3 B.kids.length bvc3, .int .i64 B.next] 26)
  have AX3 : Hid (Box 26 ((W2.alloc (.cells #[.bool true, .slice av1 A.keys.length avc1, .slice av2 A.vals.length avc2, .slice av3 A.kids.length avc3, .int .i64 A.next] 26)).alloc (.cells #[.bool true, .slice bv1 B.keys.length bvc1, .slice bv2 B.vals.length bvc2, .slice bv3 B.kids.length bvc3, .int .i64 B.next] 26)) W2.heap.size (.bool true) (.slice av1 A.keys.length avc1) (.slice av2 A.vals.length avc2) (.slice av3 A.kids.length avc3) (.int .i64 A.next)) := (Box.new (t := 26) W2 _ _ _ _ _).alloc _
  have BX3 : Hid (Box 26 ((W2.alloc (.cells #[.bool true, .slice av1 A.keys.length avc1, .slice av2 A.vals.length avc2, .slice av3 A.kids.length avc3, .int .i64 A.next] 26)).alloc (.cells #[.bool true, .slice bv1 B.keys.length bvc1, .slice bv2 B.vals.length bvc2, .slice bv3 B.kids.length bvc3, .int .i64 B.next] 26)) (W2.heap.size + 1) (.bool true) (.slice bv1 B.keys.length bvc1) (.slice bv2 B.vals.length bvc2) (.slice bv3 B.kids.length bvc3) (.int .i64 B.next)) := by
    have := Box.new (t := 26) (W2.alloc (.cells #[.bool true, .slice av1 A.keys.length avc1, .slice av2 A.vals.length avc2, .slice av3 A.kids.length avc3, .int .i64 A.next] 26)) (.bool true) (.slice bv1 B.keys.length bvc1) (.slice bv2 B.vals.length bvc2) (.slice bv3 B.kids.length bvc3) (.int .i64 B.next)
    rwa [show (W2.alloc (.cells #[.bool true, .slice av1 A.keys.length avc1, .slice av2 A.vals.length avc2, .slice av3 A.kids.length avc3, .int .i64 A.next] 26)).heap.size = W2.heap.size + 1 by simp] at this
  have NX3 := hide (NX2.out.belowW hq3)
  have NA3 := hide (NA2.out.belowW hq3)
  have AA3 := hide (AA2.out.belowW hq3)
  have BA3 := hide (BA2.out.belowW hq3)
  have kkS3 := hide (kkS2.out.belowW hq3)
  have HB3 := hide (HB2.out.trans (hq3.mono HB2.out.size))
  clear NX2 NA2 AA2 BA2 kkS2 HB2 hq3
  clear hz3
  generalize ((W2.alloc (.cells #[.bool true, .slice av1 A.keys.length avc1, .slice av2 A.vals.length avc2, .slice av3 A.kids.length avc3, .int .i64 A.next] 26)).alloc (.cells #[.bool true, .slice bv1 B.keys.length bvc1, .slice bv2 B.vals.length bvc2, .slice bv3 B.kids.length bvc3, .int .i64 B.next] 26)) = W3 at *
  generalize W2.heap.size = bA at *
  obtain ⟨k0, k1, k2, k3, k4, f0, f1, f2, f3, f4⟩ := AX3.out.cells
  go_wp2_with fail
  refine (HSA.out W3 _ _ _ AA3.out).mono ?_
  rintro e W4 ⟨ck, cv, ci, klv, dk, dv, di, rfl, hq4, hc4, hkl4, hd4⟩
  clear k0 k1 k2 k3 k4 f0 f1 f2 f3 f4
  have NX4 := hide (NX3.out.belowW hq4)
  have NA4 := hide (NA3.out.belowW hq4)
  have AA4 := hide (AA3.out.belowW hq4)
  have BA4 := hide (BA3.out.belowW hq4)
  have kkS4 := hide (kkS3.out.belowW hq4)
  have AX4 := hide (AX3.out.belowW hq4)
  have BX4 := hide (BX3.out.belowW hq4)
  have HB4 := hide (HB3.out.trans (hq4.mono HB3.out.size))
  clear NX3 NA3 AA3 BA3 kkS3 AX3 BX3 HB3 hq4
  obtain ⟨cv1, cvc1, ec1, _, _⟩ := hc4.keys.len
  obtain ⟨cv2, cvc2, ec2, _, _⟩ := hc4.vals.len
  obtain ⟨cv3, cvc3, ec3, _, _⟩ := hc4.kids.len
  obtain ⟨dv1, dvc1, ed1, _, _⟩ := hd4.keys.len
  obtain ⟨dv2, dvc2, ed2, _, _⟩ := hd4.vals.len
  obtain ⟨dv3, dvc3, ed3, _, _⟩ := hd4.kids.len
  obtain ⟨kla, klc, ekl, _, _⟩ := hkl4.len
  subst ec1 ec2 ec3 ed1 ed2 ed3 ekl
  have CA4 := hide hc4
  have DA4 := hide hd4
  have klS4 := hide hkl4
  clear hc4 hd4 hkl4
  go_upto_region 5 with fail
  have hz5 := (Below.refl W4.heap.size W4).alloc (Nat.le_refl _) (.cells #[.bool true, .slice cv1 C.keys.length cvc1, .slice cv2 C.vals.length cvc2, .slice cv3 C.kids.length cvc3, .int .i64 C.next] 26)
  have hq5 := hz5.alloc hz5.size (.cells #[.bool true, .slice dv1 D.keys.length dvc1, .slice dv2 D.vals.length dvc2, .slice dv3 D.kids.length dvc3, .int .i64 D.next] 26)
  have CX5 : Hid (Box 26 ((W4.alloc (.cells #[.bool true, .slice cv1 C.keys.length cvc1, .slice cv2 C.vals.length cvc2, .slice cv3 C.kids.length cvc3, .int .i64 C.next] 26)).alloc (.cells #[.bool true, .slice dv1 D.keys.length dvc1, .slice dv2 D.vals.length dvc2, .slice dv3 D.kids.length dvc3, .int .i64 D.next] 26)) W4.heap.size (.bool true) (.slice cv1 C.keys.length cvc1) (.slice cv2 C.vals.length cvc2) (.slice cv3 C.kids.length cvc3) (.int .i64 C.next)) := (Box.new (t := 26) W4 _ _ _ _ _).alloc _
  have DX5 : Hid (Box 26 ((W4.alloc (.cells #[.bool true, .slice cv1 C.keys.length cvc1, .slice cv2 C.vals.length cvc2, .slice cv3 C.kids.length cvc3, .int .i64 C.next] 26)).alloc (.cells #[.bool true, .slice dv1 D.keys.length dvc1, .slice dv2 D.vals.length dvc2, .slice dv3 D.kids.length dvc3, .int .i64 D.next] 26)) (W4.heap.size + 1) (.bool true) (.slice dv1 D.keys.length dvc1) (.slice dv2 D.vals.length dvc2) (.slice dv3 D.kids.length dvc3) (.int .i64 D.next)) := by
    have := Box.new (t := 26) (W4.alloc (.cells #[.bool true, .slice cv1 C.keys.length cvc1, .slice cv2 C.vals.length cvc2, .slice cv3 C.kids.length cvc3, .int .i64 C.next] 26)) (.bool true) (.slice dv1 D.keys.length dvc1) (.slice dv2 D.vals.length dvc2) (.slice dv3 D.kids.length dvc3) (.int .i64 D.next)
    rwa [show (W4.alloc (.cells #[.bool true, .slice cv1 C.keys.length cvc1, .slice cv2 C.vals.length cvc2, .slice cv3 C.kids.length cvc3, .int .i64 C.next] 26)).heap.size = W4.heap.size + 1 by simp] at this
  have NX5 := hide (NX4.out.belowW hq5)
  have NA5 := hide (NA4.out.belowW hq5)
  have AA5 := hide (AA4.out.belowW hq5)
  have BA5 := hide (BA4.out.belowW hq5)
  have kkS5 := hide (kkS4.out.belowW hq5)
  have AX5 := hide (AX4.out.belowW hq5)
  have BX5 := hide (BX4.out.belowW hq5)
  have CA5 := hide (CA4.out.belowW hq5)
  have DA5 := hide (DA4.out.belowW hq5)
  have klS5 := hide (klS4.out.belowW hq5)
  have HB5 := hide (HB4.out.trans (hq5.mono HB4.out.size))
  clear NX4 NA4 AA4 BA4 kkS4 AX4 BX4 CA4 DA4 klS4 HB4 hq5
  clear hz5
  generalize ((W4.alloc (.cells #[.bool true, .slice cv1 C.keys.length cvc1, .slice cv2 C.vals.length cvc2, .slice cv3 C.kids.length cvc3, .int .i64 C.next] 26)).alloc (.cells #[.bool true, .slice dv1 D.keys.length dvc1, .slice dv2 D.vals.length dvc2, .slice dv3 D.kids.length dvc3, .int .i64 D.next] 26)) = W5 at *
  generalize W4.heap.size = bC at *
  obtain ⟨k0, k1, k2, k3, k4, f0, f1, f2, f3, f4⟩ := BX5.out.cells
  go_wp2_with fail
  refine (HSB.out W5 _ _ _ BA5.out).mono ?_
  rintro e W6 ⟨ek, ev, ei, kmv, fk, fv, fi, rfl, hq6, he6, hkm6, hf6⟩
  clear k0 k1 k2 k3 k4 f0 f1 f2 f3 f4
  have NX6 := hide (NX5.out.belowW hq6)
  have NA6 := hide (NA5.out.belowW hq6)
  have AA6 := hide (AA5.out.belowW hq6)
  have BA6 := hide (BA5.out.belowW hq6)
  have kkS6 := hide (kkS5.out.belowW hq6)
  have AX6 := hide (AX5.out.belowW hq6)
  have BX6 := hide (BX5.out.belowW hq6)
  have CA6 := hide (CA5.out.belowW hq6)
  have DA6 := hide (DA5.out.belowW hq6)
  have klS6 := hide (klS5.out.belowW hq6)
  have CX6 := hide (CX5.out.belowW hq6)
  have DX6 := hide (DX5.out.belowW hq6)
  have HB6 := hide (HB5.out.trans (hq6.mono HB5.out.size))
  clear NX5 NA5 AA5 BA5 kkS5 AX5 BX5 CA5 DA5 klS5 CX5 DX5 HB5 hq6
  obtain ⟨ev1, evc1, ee1, _, _⟩ := he6.keys.len
  obtain ⟨ev2, evc2, ee2, _, _⟩ := he6.vals.len
  obtain ⟨ev3, evc3, ee3, _, _⟩ := he6.kids.len
  obtain ⟨fv1, fvc1, ef1, _, _⟩ := hf6.keys.len
  obtain ⟨fv2, fvc2, ef2, _, _⟩ := hf6.vals.len
  obtain ⟨fv3, fvc3, ef3, _, _⟩ := hf6.kids.len
  obtain ⟨kma, kmc, ekm, _, _⟩ := hkm6.len
  subst ee1 ee2 ee3 ef1 ef2 ef3 ekm
  have EA6 := hide he6
  have FA6 := hide hf6
  have kmS6 := hide hkm6
  clear he6 hf6 hkm6
  go_upto_region 6 with fail
  have hz7 := (Below.refl W6.heap.size W6).alloc (Nat.le_refl _) (.cells #[.bool true, .slice ev1 E.keys.length evc1, .slice ev2 E.vals.length evc2, .slice ev3 E.kids.length evc3, .int .i64 E.next] 26)
  have hq7 := hz7.alloc hz7.size (.cells #[.bool true, .slice fv1 F.keys.length fvc1, .slice fv2 F.vals.length fvc2, .slice fv3 F.kids.length fvc3, .int .i64 F.next] 26)
  have EX7 : Hid (Box 26 ((W6.alloc (.cells #[.bool true, .slice ev1 E.keys.length evc1, .slice ev2 E.vals.length evc2, .slice ev3 E.kids.length evc3, .int .i64 E.next] 26)).alloc (.cells #[.bool true, .slice fv1 F.keys.length fvc1, .slice fv2 F.vals.length fvc2, .slice fv3 F.kids.length fvc3, .int .i64 F.next] 26)) W6.heap.size (.bool true) (.slice ev1 E.keys.length evc1) (.slice ev2 E.vals.length evc2) (.slice ev3 E.kids.length evc3) (.int .i64 E.next)) := (Box.new (t := 26) W6 _ _ _ _ _).alloc _
  have FX7 : Hid (Box 26 ((W6.alloc (.cells #[.bool true, .slice ev1 E.keys.length evc1, .slice ev2 E.vals.length evc2, .slice ev3 E.kids.length evc3, .int .i64 E.next] 26)).alloc (.cells #[.bool true, .slice fv1 F.keys.length fvc1, .slice fv2 F.vals.length fvc2, .slice fv3 F.kids.length fvc3, .int .i64 F.next] 26)) (W6.heap.size + 1) (.bool true) (.slice fv1 F.keys.length fvc1) (.slice fv2 F.vals.length fvc2) (.slice fv3 F.kids.length fvc3) (.int .i64 F.next)) := by
    have := Box.new (t := 26) (W6.alloc (.cells #[.bool true, .slice ev1 E.keys.length evc1, .slice ev2 E.vals.length evc2, .slice ev3 E.kids.length evc3, .int .i64 E.next] 26)) (.bool true) (.slice fv1 F.keys.length fvc1) (.slice fv2 F.vals.length fvc2) (.slice fv3 F.kids.length fvc3) (.int .i64 F.next)
    rwa [show (W6.alloc (.cells #[.bool true, .slice ev1 E.keys.length evc1, .slice ev2 E.vals.length evc2, .slice ev3 E.kids.length evc3, .int .i64 E.next] 26)).heap.size = W6.heap.size + 1 by simp] at this
  have NX7 := hide (NX6.out.belowW hq7)
  have NA7 := hide (NA6.out.belowW hq7)
  have AA7 := hide (AA6.out.belowW hq7)
  have BA7 := hide (BA6.out.belowW hq7)
  have kkS7 := hide (kkS6.out.belowW hq7)
  have AX7 := hide (AX6.out.belowW hq7)
  have BX7 := hide (BX6.out.belowW hq7)
  have CA7 := hide (CA6.out.belowW hq7)
  have DA7 := hide (DA6.out.belowW hq7)
  have klS7 := hide (klS6.out.belowW hq7)
  have CX7 := hide (CX6.out.belowW hq7)
  have DX7 := hide (DX6.out.belowW hq7)
  have EA7 := hide (EA6.out.belowW hq7)
  have FA7 := hide (FA6.out.belowW hq7)
  have kmS7 := hide (kmS6.out.belowW hq7)
  have HB7 := hide (HB6.out.trans (hq7.mono HB6.out.size))
  clear NX6 NA6 AA6 BA6 kkS6 AX6 BX6 CA6 DA6 klS6 CX6 DX6 EA6 FA6 kmS6 HB6 hq7
  clear hz7
  generalize ((W6.alloc (.cells #[.bool true, .slice ev1 E.keys.length evc1, .slice ev2 E.vals.length evc2, .slice ev3 E.kids.length evc3, .int .i64 E.next] 26)).alloc (.cells #[.bool true, .slice fv1 F.keys.length fvc1, .slice fv2 F.vals.length fvc2, .slice fv3 F.kids.length fvc3, .int .i64 F.next] 26)) = W7 at *
  generalize W6.heap.size = bE at *
  have hcl := run_str klS7.out
  have hck := run_str kkS7.out
  have hcm := run_str kmS7.out
  have q1 : Op.bytesLess (strOf KL).toList (strOf KK).toList = true := by rw [strOf_toList, strOf_toList]; exact HLK.out
  have q2 : Op.bytesLess (strOf KK).toList (strOf KM).toList = true := by rw [strOf_toList, strOf_toList]; exact HKM.out
  have hsi : (C.keys.length : Int) + (D.keys.length : Int) + (E.keys.length : Int) + (F.keys.length : Int) = (N.keys.length : Int) := by have := HSUM.out; omega
  have hs1 : C.keys.length + D.keys.length + E.keys.length + F.keys.length ≤ 5864062014805 := by have := HSUM.out; omega
  obtain ⟨k0, k1, k2, k3, k4, kf0, kf1, kf2, kf3, kf4⟩ := NX7.out.cells
  obtain ⟨j0, j1, j2, j3, j4, jf0, jf1, jf2, jf3, jf4⟩ := CX7.out.cells
  obtain ⟨i0, i1, i2, i3, i4, if0, if1, if2, if3, if4⟩ := DX7.out.cells
  obtain ⟨m0, m1, m2, m3, m4, mf0, mf1, mf2, mf3, mf4⟩ := EX7.out.cells
  obtain ⟨p0, p1, p2, p3, p4, pf0, pf1, pf2, pf3, pf4⟩ := FX7.out.cells
  go_upto_region 8 with fail
  clear k0 k1 k2 k3 k4 kf0 kf1 kf2 kf3 kf4 j0 j1 j2 j3 j4 jf0 jf1 jf2 jf3 jf4 i0 i1 i2 i3 i4 if0 if1 if2 if3 if4 m0 m1 m2 m3 m4 mf0 mf1 mf2 mf3 mf4 p0 p1 p2 p3 p4 pf0 pf1 pf2 pf3 pf4 hcl hck hcm q1 q2 hsi hs1
  refine wp_with_act (fun a0 ha0 => ?_)
  refine Code.wp_mono (Q := fun e a' U => e = .normal ∧ ∃ p x1 x2 x3 y1 y2 y3 z1 z2 z3, (Below W7.heap.size W7 U ∧ Box 26 U p (.bool true) z1 z2 z3 (.int .i64 N.next) ∧ NdAt U N z1 z2 z3) ∧ a' = ((((((((((a0.put (some 83) (.agg #[.bool true, .slice cv1 C.keys.length cvc1, .slice cv2 C.vals.length cvc2, .slice cv3 C.kids.length cvc3, .int .i64 C.next])).put (some 84) (.slice kla KL.length klc)).put (some 85) (.agg #[.bool true, .slice dv1 D.keys.length dvc1, .slice dv2 D.vals.length dvc2, .slice dv3 D.kids.length dvc3, .int .i64 D.next])).put (some 86) (.agg #[.bool true, x1, x2, x3, .int .i64 A.next])).put (some 87) (.slice kka KK.length kkc)).put (some 88) (.agg #[.bool true, .slice ev1 E.keys.length evc1, .slice ev2 E.vals.length evc2, .slice ev3 E.kids.length evc3, .int .i64 E.next])).put (some 89) (.agg #[.bool true, y1, y2, y3, .int .i64 M2.next])).put (some 90) (.slice kma KM.length kmc)).put (some 91) (.agg #[.bool true, .slice fv1 F.keys.length fvc1, .slice fv2 F.vals.length fvc2, .slice fv3 F.kids.length fvc3, .int .i64 F.next])).put (some 92) (.agg #[.bool true, z1, z2, z3, .int .i64 N.next])).put (some 12) (.pointer (some ⟨p, 0, none⟩))) ?cont ?region
  case region =>
    rw [ha0]
    refine wp_region_held_drew (S := fun w' => Box 26 w' (bC) (.bool true) (.slice cv1 C.keys.length cvc1) (.slice cv2 C.vals.length cvc2) (.slice cv3 C.kids.length cvc3) (.int .i64 C.next) ∧ Box 26 w' (bC + 1) (.bool true) (.slice dv1 D.keys.length dvc1) (.slice dv2 D.vals.length dvc2) (.slice dv3 D.kids.length dvc3) (.int .i64 D.next) ∧ Box 26 w' (bE) (.bool true) (.slice ev1 E.keys.length evc1) (.slice ev2 E.vals.length evc2) (.slice ev3 E.kids.length evc3) (.int .i64 E.next) ∧ Box 26 w' (bE + 1) (.bool true) (.slice fv1 F.keys.length fvc1) (.slice fv2 F.vals.length fvc2) (.slice fv3 F.kids.length fvc3) (.int .i64 F.next)) (by kernel_rfl) ⟨CX7.out.belowW (below_drewN _ _ 1), DX7.out.belowW (below_drewN _ _ 1), EX7.out.belowW (below_drewN _ _ 1), FX7.out.belowW (below_drewN _ _ 1)⟩ (fun hH => ?_)
    refine take_to 0 83 (.agg #[.bool true, .slice cv1 C.keys.length cvc1, .slice cv2 C.vals.length cvc2, .slice cv3 C.kids.length cvc3, .int .i64 C.next]) rfl (by kernel_rfl) (by kernel_rfl) (by kernel_rfl) (fun _ _ _ h => (by cases h.1)) rfl (by rfl) (fun w hw => op_load _ _ 26 (.tmp 6) rfl (.pointer (some ⟨_, 0, none⟩)) _ rfl (load26 hw.1)) hH ?_
    simp only [Act.put, List.setIfInBounds_toArray, List.set_cons_zero, List.set_cons_succ]
    refine take_to 1 84 (.slice kla KL.length klc) rfl (by kernel_rfl) (by kernel_rfl) (by kernel_rfl) (fun _ _ _ h => (by cases h.1)) rfl (by rfl) (fun w hw => by rfl) hH ?_
    simp only [Act.put, List.setIfInBounds_toArray, List.set_cons_zero, List.set_cons_succ]
    refine take_to 2 85 (.agg #[.bool true, .slice dv1 D.keys.length dvc1, .slice dv2 D.vals.length dvc2, .slice dv3 D.kids.length dvc3, .int .i64 D.next]) rfl (by kernel_rfl) (by kernel_rfl) (by kernel_rfl) (fun _ _ _ h => (by cases h.1)) rfl (by rfl) (fun w hw => op_load _ _ 26 (.tmp 8) rfl (.pointer (some ⟨_, 0, none⟩)) _ rfl (load26 hw.2.1)) hH ?_
    simp only [Act.put, List.setIfInBounds_toArray, List.set_cons_zero, List.set_cons_succ]
    refine take_to 4 87 (.slice kka KK.length kkc) rfl (by kernel_rfl) (by kernel_rfl) (by kernel_rfl) (fun _ _ _ h => (by cases h.1)) rfl (by rfl) (fun w hw => by rfl) hH ?_
    simp only [Act.put, List.setIfInBounds_toArray, List.set_cons_zero, List.set_cons_succ]
    refine take_to 5 88 (.agg #[.bool true, .slice ev1 E.keys.length evc1, .slice ev2 E.vals.length evc2, .slice ev3 E.kids.length evc3, .int .i64 E.next]) rfl (by kernel_rfl) (by kernel_rfl) (by kernel_rfl) (fun _ _ _ h => (by cases h.1)) rfl (by rfl) (fun w hw => op_load _ _ 26 (.tmp 9) rfl (.pointer (some ⟨_, 0, none⟩)) _ rfl (load26 hw.2.2.1)) hH ?_
    simp only [Act.put, List.setIfInBounds_toArray, List.set_cons_zero, List.set_cons_succ]
    refine take_to 7 90 (.slice kma KM.length kmc) rfl (by kernel_rfl) (by kernel_rfl) (by kernel_rfl) (fun _ _ _ h => (by cases h.1)) rfl (by rfl) (fun w hw => by rfl) hH ?_
    simp only [Act.put, List.setIfInBounds_toArray, List.set_cons_zero, List.set_cons_succ]
    refine take_to 8 91 (.agg #[.bool true, .slice fv1 F.keys.length fvc1, .slice fv2 F.vals.length fvc2, .slice fv3 F.kids.length fvc3, .int .i64 F.next]) rfl (by kernel_rfl) (by kernel_rfl) (by kernel_rfl) (fun _ _ _ h => (by cases h.1)) rfl (by rfl) (fun w hw => op_load _ _ 26 (.tmp 11) rfl (.pointer (some ⟨_, 0, none⟩)) _ rfl (load26 hw.2.2.2)) hH ?_
    simp only [Act.put, List.setIfInBounds_toArray, List.set_cons_zero, List.set_cons_succ]
    have hU0 : Below W7.heap.size W7 W7.drew := below_drewN _ _ 1
    clear hH
    generalize W7.drew = U0 at hU0 ⊢
    refine wpAnyH_all (rs := [3, 10]) (by kernel_rfl) (by simp) ?_
    intro n hn
    rcases (by simpa using hn : n = 3 ∨ n = 10) with rfl | rfl
    · refine op_call3_to 86 14 rfl rfl (by rfl) (.tmp 83) (.tmp 84) (.tmp 85) _ rfl _ _ _ rfl rfl rfl Try.enters14 (HM1.out U0 _ _ _ _ _ _ _ (CA7.out.belowW hU0) (DA7.out.belowW hU0) (klS7.out.belowW hU0)) ?_
      rintro e U1 ⟨x1, x2, x3, rfl, hq, hr⟩
      have hU1 := hU0.trans (hq.mono hU0.size)
      have hr1 := hr
      clear hq hr
      refine ⟨_, rfl, ⟨CX7.out.belowW hU1, DX7.out.belowW hU1, EX7.out.belowW hU1, FX7.out.belowW hU1⟩, ?_⟩
      simp only [Act.put, List.setIfInBounds_toArray, List.set_cons_zero, List.set_cons_succ]
      refine wpAnyH_all (rs := [6, 10]) (by kernel_rfl) (by simp) ?_
      intro n hn
      rcases (by simpa using hn : n = 6 ∨ n = 10) with rfl | rfl
      · refine op_call3_to 89 14 rfl rfl (by rfl) (.tmp 86) (.tmp 87) (.tmp 88) _ rfl _ _ _ rfl rfl rfl Try.enters14 (HM2.out U1 _ _ _ _ _ _ _ hr1 (EA7.out.belowW hU1) (kkS7.out.belowW hU1)) ?_
        rintro e U2 ⟨y1, y2, y3, rfl, hq, hr⟩
        have hU2 := hU1.trans (hq.mono hU1.size)
        have hr2 := hr
        clear hq hr
        refine ⟨_, rfl, ⟨CX7.out.belowW hU2, DX7.out.belowW hU2, EX7.out.belowW hU2, FX7.out.belowW hU2⟩, ?_⟩
        simp only [Act.put, List.setIfInBounds_toArray, List.set_cons_zero, List.set_cons_succ]
        refine wpAnyH_all (rs := [9, 10]) (by kernel_rfl) (by simp) ?_
        intro n hn
        rcases (by simpa using hn : n = 9 ∨ n = 10) with rfl | rfl
        · refine op_call3_to 92 14 rfl rfl (by rfl) (.tmp 89) (.tmp 90) (.tmp 91) _ rfl _ _ _ rfl rfl rfl Try.enters14 (HM3.out U2 _ _ _ _ _ _ _ hr2 (FA7.out.belowW hU2) (kmS7.out.belowW hU2)) ?_
          rintro e U3 ⟨z1, z2, z3, rfl, hq, hr⟩
          have hU3 := hU2.trans (hq.mono hU2.size)
          have hr3 := hr
          clear hq hr
          refine ⟨_, rfl, ⟨CX7.out.belowW hU3, DX7.out.belowW hU3, EX7.out.belowW hU3, FX7.out.belowW hU3⟩, ?_⟩
          simp only [Act.put, List.setIfInBounds_toArray, List.set_cons_zero, List.set_cons_succ]
          have hal : Below U3.heap.size U3 (U3.alloc (.cells #[.bool false, .slice none 0 0, .slice none 0 0, .slice none 0 0, .int .i64 0] 26)) := (Below.refl _ _).alloc (Nat.le_refl _) _
          have hU4 := hU3.trans (hal.mono hU3.size)
          have hp4 := Box.new (t := 26) U3 (.bool false) (.slice none 0 0) (.slice none 0 0) (.slice none 0 0) (.int .i64 0)
          have hpp4 : W7.heap.size ≤ U3.heap.size := hU3.size
          refine step_to 10 12 (.pointer (some ⟨U3.heap.size, 0, none⟩)) (U3.alloc (.cells #[.bool false, .slice none 0 0, .slice none 0 0, .slice none 0 0, .int .i64 0] 26)) rfl (by kernel_rfl) rfl (by rfl) (op_alloc26 _ _ rfl _) ⟨CX7.out.belowW hU4, DX7.out.belowW hU4, EX7.out.belowW hU4, FX7.out.belowW hU4⟩ ?_
          simp only [Act.put, List.setIfInBounds_toArray, List.set_cons_zero, List.set_cons_succ]
          have hs5 : Below W7.heap.size W7 ((U3.alloc (.cells #[.bool false, .slice none 0 0, .slice none 0 0, .slice none 0 0, .int .i64 0] 26)).setRow (U3.heap.size) #[.bool true, z1, z2, z3, .int .i64 N.next]) := below_setRow hU4 hpp4 _
          have hat5 : NdAt ((U3.alloc (.cells #[.bool false, .slice none 0 0, .slice none 0 0, .slice none 0 0, .int .i64 0] 26)).setRow (U3.heap.size) #[.bool true, z1, z2, z3, .int .i64 N.next]) N z1 z2 z3 := hr3.at.belowW (below_setRow ((Below.refl _ _).alloc (Nat.le_refl _) _) (Nat.le_refl _) _)
          refine step_store_to 11 ((U3.alloc (.cells #[.bool false, .slice none 0 0, .slice none 0 0, .slice none 0 0, .int .i64 0] 26)).setRow (U3.heap.size) #[.bool true, z1, z2, z3, .int .i64 N.next]) rfl (by kernel_rfl) rfl (by rfl) 26 (.tmp 12) (.tmp 92) rfl (.pointer (some ⟨U3.heap.size, 0, none⟩)) (.agg #[.bool true, z1, z2, z3, .int .i64 N.next]) rfl rfl (store26 hp4 _ _ _ _ _ (by rfl) (owns_one hr3.keys) (owns_one hr3.vals) (one_of_owns hr3.kids) (by rfl)) ⟨CX7.out.belowW hs5, DX7.out.belowW hs5, EX7.out.belowW hs5, FX7.out.belowW hs5⟩ ?_
          refine wpAnyH_done (by kernel_rfl) ?_ _
          exact ⟨rfl, U3.heap.size, x1, x2, x3, y1, y2, y3, z1, z2, z3, ⟨hs5, box_setRow hp4 _ _ _ _ _, hat5⟩, rfl⟩
        · have hal : Below U2.heap.size U2 (U2.alloc (.cells #[.bool false, .slice none 0 0, .slice none 0 0, .slice none 0 0, .int .i64 0] 26)) := (Below.refl _ _).alloc (Nat.le_refl _) _
          have hU6 := hU2.trans (hal.mono hU2.size)
          have hp6 := Box.new (t := 26) U2 (.bool false) (.slice none 0 0) (.slice none 0 0) (.slice none 0 0) (.int .i64 0)
          have hpp6 : W7.heap.size ≤ U2.heap.size := hU2.size
          have haM26 := hr2.belowW hal
          refine op_to 12 (.pointer (some ⟨U2.heap.size, 0, none⟩)) (U2.alloc (.cells #[.bool false, .slice none 0 0, .slice none 0 0, .slice none 0 0, .int .i64 0] 26)) rfl rfl (by rfl) (op_alloc26 _ _ rfl _) ⟨⟨CX7.out.belowW hU6, DX7.out.belowW hU6, EX7.out.belowW hU6, FX7.out.belowW hU6⟩, ?_⟩
          simp only [Act.put, List.setIfInBounds_toArray, List.set_cons_zero, List.set_cons_succ]
          refine step_call3_to 9 92 14 rfl (by kernel_rfl) rfl (by rfl) (.tmp 89) (.tmp 90) (.tmp 91) _ rfl _ _ _ rfl rfl rfl Try.enters14 (HM3.out (U2.alloc (.cells #[.bool false, .slice none 0 0, .slice none 0 0, .slice none 0 0, .int .i64 0] 26)) _ _ _ _ _ _ _ haM26 (FA7.out.belowW hU6) (kmS7.out.belowW hU6)) ?_
          rintro e U7 ⟨z1, z2, z3, rfl, hq, hr⟩
          have hU7 := hU6.trans (hq.mono hU6.size)
          have hp7 := hp6.belowW hq
          have hpl7 := hp6.lt
          have hr7 := hr
          clear hq hr
          refine ⟨_, rfl, ⟨CX7.out.belowW hU7, DX7.out.belowW hU7, EX7.out.belowW hU7, FX7.out.belowW hU7⟩, ?_⟩
          simp only [Act.put, List.setIfInBounds_toArray, List.set_cons_zero, List.set_cons_succ]
          have hs8 : Below W7.heap.size W7 (U7.setRow (U2.heap.size) #[.bool true, z1, z2, z3, .int .i64 N.next]) := below_setRow hU7 hpp6 _
          have hat8 : NdAt (U7.setRow (U2.heap.size) #[.bool true, z1, z2, z3, .int .i64 N.next]) N z1 z2 z3 := (hr7.keep (fun k hk => setRow_other _ _ k _ (by have := hpl7; omega))).at
          refine step_store_to 11 (U7.setRow (U2.heap.size) #[.bool true, z1, z2, z3, .int .i64 N.next]) rfl (by kernel_rfl) rfl (by rfl) 26 (.tmp 12) (.tmp 92) rfl (.pointer (some ⟨U2.heap.size, 0, none⟩)) (.agg #[.bool true, z1, z2, z3, .int .i64 N.next]) rfl rfl (store26 hp7 _ _ _ _ _ (by rfl) (owns_one hr7.keys) (owns_one hr7.vals) (one_of_owns hr7.kids) (by rfl)) ⟨CX7.out.belowW hs8, DX7.out.belowW hs8, EX7.out.belowW hs8, FX7.out.belowW hs8⟩ ?_
          refine wpAnyH_done (by kernel_rfl) ?_ _
          exact ⟨rfl, U2.heap.size, x1, x2, x3, y1, y2, y3, z1, z2, z3, ⟨hs8, box_setRow hp7 _ _ _ _ _, hat8⟩, rfl⟩
      · have hal : Below U1.heap.size U1 (U1.alloc (.cells #[.bool false, .slice none 0 0, .slice none 0 0, .slice none 0 0, .int .i64 0] 26)) := (Below.refl _ _).alloc (Nat.le_refl _) _
        have hU9 := hU1.trans (hal.mono hU1.size)
        have hp9 := Box.new (t := 26) U1 (.bool false) (.slice none 0 0) (.slice none 0 0) (.slice none 0 0) (.int .i64 0)
        have hpp9 : W7.heap.size ≤ U1.heap.size := hU1.size
        have haM19 := hr1.belowW hal
        refine op_to 12 (.pointer (some ⟨U1.heap.size, 0, none⟩)) (U1.alloc (.cells #[.bool false, .slice none 0 0, .slice none 0 0, .slice none 0 0, .int .i64 0] 26)) rfl rfl (by rfl) (op_alloc26 _ _ rfl _) ⟨⟨CX7.out.belowW hU9, DX7.out.belowW hU9, EX7.out.belowW hU9, FX7.out.belowW hU9⟩, ?_⟩
        simp only [Act.put, List.setIfInBounds_toArray, List.set_cons_zero, List.set_cons_succ]
        refine step_call3_to 6 89 14 rfl (by kernel_rfl) rfl (by rfl) (.tmp 86) (.tmp 87) (.tmp 88) _ rfl _ _ _ rfl rfl rfl Try.enters14 (HM2.out (U1.alloc (.cells #[.bool false, .slice none 0 0, .slice none 0 0, .slice none 0 0, .int .i64 0] 26)) _ _ _ _ _ _ _ haM19 (EA7.out.belowW hU9) (kkS7.out.belowW hU9)) ?_
        rintro e U10 ⟨y1, y2, y3, rfl, hq, hr⟩
        have hU10 := hU9.trans (hq.mono hU9.size)
        have hp10 := hp9.belowW hq
        have hr10 := hr
        clear hq hr
        refine ⟨_, rfl, ⟨CX7.out.belowW hU10, DX7.out.belowW hU10, EX7.out.belowW hU10, FX7.out.belowW hU10⟩, ?_⟩
        simp only [Act.put, List.setIfInBounds_toArray, List.set_cons_zero, List.set_cons_succ]
        refine step_call3_to 9 92 14 rfl (by kernel_rfl) rfl (by rfl) (.tmp 89) (.tmp 90) (.tmp 91) _ rfl _ _ _ rfl rfl rfl Try.enters14 (HM3.out U10 _ _ _ _ _ _ _ hr10 (FA7.out.belowW hU10) (kmS7.out.belowW hU10)) ?_
        rintro e U11 ⟨z1, z2, z3, rfl, hq, hr⟩
        have hU11 := hU10.trans (hq.mono hU10.size)
        have hp11 := hp10.belowW hq
        have hpl11 := hp10.lt
        have hr11 := hr
        clear hq hr
        refine ⟨_, rfl, ⟨CX7.out.belowW hU11, DX7.out.belowW hU11, EX7.out.belowW hU11, FX7.out.belowW hU11⟩, ?_⟩
        simp only [Act.put, List.setIfInBounds_toArray, List.set_cons_zero, List.set_cons_succ]
        have hs12 : Below W7.heap.size W7 (U11.setRow (U1.heap.size) #[.bool true, z1, z2, z3, .int .i64 N.next]) := below_setRow hU11 hpp9 _
        have hat12 : NdAt (U11.setRow (U1.heap.size) #[.bool true, z1, z2, z3, .int .i64 N.next]) N z1 z2 z3 := (hr11.keep (fun k hk => setRow_other _ _ k _ (by have := hpl11; omega))).at
        refine step_store_to 11 (U11.setRow (U1.heap.size) #[.bool true, z1, z2, z3, .int .i64 N.next]) rfl (by kernel_rfl) rfl (by rfl) 26 (.tmp 12) (.tmp 92) rfl (.pointer (some ⟨U1.heap.size, 0, none⟩)) (.agg #[.bool true, z1, z2, z3, .int .i64 N.next]) rfl rfl (store26 hp11 _ _ _ _ _ (by rfl) (owns_one hr11.keys) (owns_one hr11.vals) (one_of_owns hr11.kids) (by rfl)) ⟨CX7.out.belowW hs12, DX7.out.belowW hs12, EX7.out.belowW hs12, FX7.out.belowW hs12⟩ ?_
        refine wpAnyH_done (by kernel_rfl) ?_ _
        exact ⟨rfl, U1.heap.size, x1, x2, x3, y1, y2, y3, z1, z2, z3, ⟨hs12, box_setRow hp11 _ _ _ _ _, hat12⟩, rfl⟩
    · have hal : Below U0.heap.size U0 (U0.alloc (.cells #[.bool false, .slice none 0 0, .slice none 0 0, .slice none 0 0, .int .i64 0] 26)) := (Below.refl _ _).alloc (Nat.le_refl _) _
      have hU13 := hU0.trans (hal.mono hU0.size)
      have hp13 := Box.new (t := 26) U0 (.bool false) (.slice none 0 0) (.slice none 0 0) (.slice none 0 0) (.int .i64 0)
      have hpp13 : W7.heap.size ≤ U0.heap.size := hU0.size
      refine op_to 12 (.pointer (some ⟨U0.heap.size, 0, none⟩)) (U0.alloc (.cells #[.bool false, .slice none 0 0, .slice none 0 0, .slice none 0 0, .int .i64 0] 26)) rfl rfl (by rfl) (op_alloc26 _ _ rfl _) ⟨⟨CX7.out.belowW hU13, DX7.out.belowW hU13, EX7.out.belowW hU13, FX7.out.belowW hU13⟩, ?_⟩
      simp only [Act.put, List.setIfInBounds_toArray, List.set_cons_zero, List.set_cons_succ]
      refine step_call3_to 3 86 14 rfl (by kernel_rfl) rfl (by rfl) (.tmp 83) (.tmp 84) (.tmp 85) _ rfl _ _ _ rfl rfl rfl Try.enters14 (HM1.out (U0.alloc (.cells #[.bool false, .slice none 0 0, .slice none 0 0, .slice none 0 0, .int .i64 0] 26)) _ _ _ _ _ _ _ (CA7.out.belowW hU13) (DA7.out.belowW hU13) (klS7.out.belowW hU13)) ?_
      rintro e U14 ⟨x1, x2, x3, rfl, hq, hr⟩
      have hU14 := hU13.trans (hq.mono hU13.size)
      have hp14 := hp13.belowW hq
      have hr14 := hr
      clear hq hr
      refine ⟨_, rfl, ⟨CX7.out.belowW hU14, DX7.out.belowW hU14, EX7.out.belowW hU14, FX7.out.belowW hU14⟩, ?_⟩
      simp only [Act.put, List.setIfInBounds_toArray, List.set_cons_zero, List.set_cons_succ]
      refine step_call3_to 6 89 14 rfl (by kernel_rfl) rfl (by rfl) (.tmp 86) (.tmp 87) (.tmp 88) _ rfl _ _ _ rfl rfl rfl Try.enters14 (HM2.out U14 _ _ _ _ _ _ _ hr14 (EA7.out.belowW hU14) (kkS7.out.belowW hU14)) ?_
      rintro e U15 ⟨y1, y2, y3, rfl, hq, hr⟩
      have hU15 := hU14.trans (hq.mono hU14.size)
      have hp15 := hp14.belowW hq
      have hr15 := hr
      clear hq hr
      refine ⟨_, rfl, ⟨CX7.out.belowW hU15, DX7.out.belowW hU15, EX7.out.belowW hU15, FX7.out.belowW hU15⟩, ?_⟩
      simp only [Act.put, List.setIfInBounds_toArray, List.set_cons_zero, List.set_cons_succ]
      refine step_call3_to 9 92 14 rfl (by kernel_rfl) rfl (by rfl) (.tmp 89) (.tmp 90) (.tmp 91) _ rfl _ _ _ rfl rfl rfl Try.enters14 (HM3.out U15 _ _ _ _ _ _ _ hr15 (FA7.out.belowW hU15) (kmS7.out.belowW hU15)) ?_
      rintro e U16 ⟨z1, z2, z3, rfl, hq, hr⟩
      have hU16 := hU15.trans (hq.mono hU15.size)
      have hp16 := hp15.belowW hq
      have hpl16 := hp15.lt
      have hr16 := hr
      clear hq hr
      refine ⟨_, rfl, ⟨CX7.out.belowW hU16, DX7.out.belowW hU16, EX7.out.belowW hU16, FX7.out.belowW hU16⟩, ?_⟩
      simp only [Act.put, List.setIfInBounds_toArray, List.set_cons_zero, List.set_cons_succ]
      have hs17 : Below W7.heap.size W7 (U16.setRow (U0.heap.size) #[.bool true, z1, z2, z3, .int .i64 N.next]) := below_setRow hU16 hpp13 _
      have hat17 : NdAt (U16.setRow (U0.heap.size) #[.bool true, z1, z2, z3, .int .i64 N.next]) N z1 z2 z3 := (hr16.keep (fun k hk => setRow_other _ _ k _ (by have := hpl16; omega))).at
      refine step_store_to 11 (U16.setRow (U0.heap.size) #[.bool true, z1, z2, z3, .int .i64 N.next]) rfl (by kernel_rfl) rfl (by rfl) 26 (.tmp 12) (.tmp 92) rfl (.pointer (some ⟨U0.heap.size, 0, none⟩)) (.agg #[.bool true, z1, z2, z3, .int .i64 N.next]) rfl rfl (store26 hp16 _ _ _ _ _ (by rfl) (owns_one hr16.keys) (owns_one hr16.vals) (one_of_owns hr16.kids) (by rfl)) ⟨CX7.out.belowW hs17, DX7.out.belowW hs17, EX7.out.belowW hs17, FX7.out.belowW hs17⟩ ?_
      refine wpAnyH_done (by kernel_rfl) ?_ _
      exact ⟨rfl, U0.heap.size, x1, x2, x3, y1, y2, y3, z1, z2, z3, ⟨hs17, box_setRow hp16 _ _ _ _ _, hat17⟩, rfl⟩
  case cont =>
    rintro e a' U ⟨rfl, p, x1, x2, x3, y1, y2, y3, z1, z2, z3, ⟨hbU, hxU, hnU⟩, ha'⟩
    rw [ha', ha0]
    simp only [Act.put, List.setIfInBounds_toArray, List.set_cons_zero, List.set_cons_succ]
    clear ha' ha0
    have NXu := hide (NX7.out.belowW hbU)
    have NAu := hide (NA7.out.belowW hbU)
    have HBu := hide (HB7.out.trans (hbU.mono HB7.out.size))
    have XXu := hide hxU
    have XAu := hide hnU
    clear NX7 NA7 AA7 BA7 kkS7 AX7 BX7 CA7 DA7 klS7 CX7 DX7 EA7 FA7 kmS7 EX7 FX7 HB7 hbU hxU hnU HSN HSA HSB HM1 HM2 HM3 HLK HKM HSUM
    obtain ⟨zv1, zc1, ez1, _, _⟩ := XAu.out.keys.len
    obtain ⟨zv2, zc2, ez2, _, _⟩ := XAu.out.vals.len
    obtain ⟨zv3, zc3, ez3, _, _⟩ := XAu.out.kids.len
    subst ez1 ez2 ez3
    obtain ⟨k0, k1, k2, k3, k4, f0, f1, f2, f3, f4⟩ := XXu.out.cells
    go_wp2_with fail
    refine (HEN.out U _ _ _ XAu.out).mono ?_
    rintro e U1 ⟨v1, rfl, hb1⟩
    clear k0 k1 k2 k3 k4 f0 f1 f2 f3 f4
    have NXb := hide (NXu.out.belowW hb1)
    have NAb := hide (NAu.out.belowW hb1)
    have XXb := hide (XXu.out.belowW hb1)
    have XAb := hide (XAu.out.belowW hb1)
    have HBb := hide (HBu.out.trans (hb1.mono HBu.out.size))
    clear NXu NAu XXu XAu HBu hb1
    obtain ⟨k0, k1, k2, k3, k4, f0, f1, f2, f3, f4⟩ := NXb.out.cells
    go_wp2_with fail
    refine (HEN.out U1 _ _ _ NAb.out).mono ?_
    rintro e U2 ⟨v2, rfl, hb2⟩
    clear k0 k1 k2 k3 k4 f0 f1 f2 f3 f4
    have NXc := hide (NXb.out.belowW hb2)
    have NAc := hide (NAb.out.belowW hb2)
    have XXc := hide (XXb.out.belowW hb2)
    have XAc := hide (XAb.out.belowW hb2)
    have HBc := hide (HBb.out.trans (hb2.mono HBb.out.size))
    clear NXb NAb XXb XAb HBb hb2 HEN
    go_upto_region 11 with fail
    rcases hgc with rfl | rfl
    · refine wp_region_held_drew (S := fun w' => Box 26 w' p (.bool true) (.slice zv1 N.keys.length zc1) (.slice zv2 N.vals.length zc2) (.slice zv3 N.kids.length zc3) (.int .i64 N.next) ∧ Box 26 w' w.heap.size (.bool true) (.slice ak N.keys.length ck) (.slice av N.vals.length cv) (.slice ai N.kids.length ci) (.int .i64 N.next)) (by kernel_rfl) ⟨XXc.out.belowW (below_drewN _ _ 1), NXc.out.belowW (below_drewN _ _ 1)⟩ (fun hH => ?_)
      refine take_to 0 103 (.agg #[.bool true, .slice zv1 N.keys.length zc1, .slice zv2 N.vals.length zc2, .slice zv3 N.kids.length zc3, .int .i64 N.next]) rfl (by kernel_rfl) (by kernel_rfl) (by kernel_rfl) (fun _ _ _ h => h) rfl (by rfl) (fun w hw => op_load _ _ 26 (.tmp 12) rfl (.pointer (some ⟨_, 0, none⟩)) _ rfl (load26 hw.1)) hH ?_
      simp only [Act.put, List.setIfInBounds_toArray, List.set_cons_zero, List.set_cons_succ]
      refine take_to 2 105 (.agg #[.bool true, .slice ak N.keys.length ck, .slice av N.vals.length cv, .slice ai N.kids.length ci, .int .i64 N.next]) rfl (by kernel_rfl) (by kernel_rfl) (by kernel_rfl) (fun _ _ _ h => h) rfl (by rfl) (fun w hw => op_load _ _ 26 (.tmp 1) rfl (.pointer (some ⟨_, 0, none⟩)) _ rfl (load26 hw.2)) hH ?_
      simp only [Act.put, List.setIfInBounds_toArray, List.set_cons_zero, List.set_cons_succ]
      have hT0 : Below U2.heap.size U2 U2.drew := below_drewN _ _ 1
      clear hH
      generalize U2.drew = T0 at hT0 ⊢
      refine step_call1_to 1 104 17 rfl (by kernel_rfl) rfl (by rfl) (.tmp 103) _ rfl _ rfl Try.enters17 (HTO.out T0 _ _ _ (XAc.out.belowW hT0)) ?_
      rintro e T1 ⟨r1, r2, rfl, hq1, hr1⟩
      have hT1 := hT0.trans (hq1.mono hT0.size)
      refine ⟨_, rfl, ⟨XXc.out.belowW hT1, NXc.out.belowW hT1⟩, ?_⟩
      simp only [Act.put, List.setIfInBounds_toArray, List.set_cons_zero, List.set_cons_succ]
      refine step_call1_to 3 106 17 rfl (by kernel_rfl) rfl (by rfl) (.tmp 105) _ rfl _ rfl Try.enters17 (HTO.out T1 _ _ _ (NAc.out.belowW hT1)) ?_
      rintro e T2 ⟨r3, r4, rfl, hq2, hr2⟩
      have hT2 := hT1.trans (hq2.mono hT1.size)
      have hr1' := hr1.belowW hq2
      refine ⟨_, rfl, ⟨XXc.out.belowW hT2, NXc.out.belowW hT2⟩, ?_⟩
      simp only [Act.put, List.setIfInBounds_toArray, List.set_cons_zero, List.set_cons_succ]
      refine step_call2_to 4 107 16 rfl (by kernel_rfl) rfl (by rfl) (.tmp 104) (.tmp 106) _ rfl _ _ rfl rfl Try.enters16 (HSM.out T2 _ _ _ _ _ _ hr1' hr2) ?_
      rintro e T3 ⟨rfl, hq3⟩
      have hT3 := hT2.trans (hq3.mono hT2.size)
      refine ⟨_, rfl, ⟨XXc.out.belowW hT3, NXc.out.belowW hT3⟩, ?_⟩
      simp only [Act.put, List.setIfInBounds_toArray, List.set_cons_zero, List.set_cons_succ]
      refine take_to 5 108 (.bool true) rfl (by kernel_rfl) (by kernel_rfl) (by kernel_rfl) (fun _ _ _ h => h) rfl (by rfl) (fun w hw => by rfl) ⟨XXc.out.belowW hT3, NXc.out.belowW hT3⟩ ?_
      simp only [Act.put, List.setIfInBounds_toArray, List.set_cons_zero, List.set_cons_succ]
      refine take_to 6 109 (.int .i64 0) rfl (by kernel_rfl) (by kernel_rfl) (by kernel_rfl) (fun _ _ _ h => h) rfl (by rfl) (fun w hw => by rfl) ⟨XXc.out.belowW hT3, NXc.out.belowW hT3⟩ ?_
      simp only [Act.put, List.setIfInBounds_toArray, List.set_cons_zero, List.set_cons_succ]
      refine take_to 7 110 (.int .i64 0) rfl (by kernel_rfl) (by kernel_rfl) (by kernel_rfl) (fun _ _ _ h => h) rfl (by rfl) (fun w hw => by rfl) ⟨XXc.out.belowW hT3, NXc.out.belowW hT3⟩ ?_
      simp only [Act.put, List.setIfInBounds_toArray, List.set_cons_zero, List.set_cons_succ]
      refine take_to 8 111 (.bool true) rfl (by kernel_rfl) (by kernel_rfl) (by kernel_rfl) (fun _ _ _ h => h) rfl (by rfl) (fun w hw => op_eql38 _ _ (.tmp 109) (.tmp 110) _ rfl 0 0 rfl rfl true (by decide)) ⟨XXc.out.belowW hT3, NXc.out.belowW hT3⟩ ?_
      simp only [Act.put, List.setIfInBounds_toArray, List.set_cons_zero, List.set_cons_succ]
      refine take_to 9 112 (.bool true) rfl (by kernel_rfl) (by kernel_rfl) (by kernel_rfl) (fun _ _ _ h => h) rfl (by rfl) (fun w hw => by rfl) ⟨XXc.out.belowW hT3, NXc.out.belowW hT3⟩ ?_
      simp only [Act.put, List.setIfInBounds_toArray, List.set_cons_zero, List.set_cons_succ]
      refine take_to 10 113 (.bool true) rfl (by kernel_rfl) (by kernel_rfl) (by kernel_rfl) (fun _ _ _ h => h) rfl (by rfl) (fun w hw => by rfl) ⟨XXc.out.belowW hT3, NXc.out.belowW hT3⟩ ?_
      simp only [Act.put, List.setIfInBounds_toArray, List.set_cons_zero, List.set_cons_succ]
      refine take_to 11 114 (.int .i64 0) rfl (by kernel_rfl) (by kernel_rfl) (by kernel_rfl) (fun _ _ _ h => h) rfl (by rfl) (fun w hw => by rfl) ⟨XXc.out.belowW hT3, NXc.out.belowW hT3⟩ ?_
      simp only [Act.put, List.setIfInBounds_toArray, List.set_cons_zero, List.set_cons_succ]
      refine take_to 12 115 (.bool true) rfl (by kernel_rfl) (by kernel_rfl) (by kernel_rfl) (fun _ _ _ h => h) rfl (by rfl) (fun w hw => op_eql38 _ _ (.tmp 114) (.const (.int .i64 0)) _ rfl 0 0 rfl rfl true (by decide)) ⟨XXc.out.belowW hT3, NXc.out.belowW hT3⟩ ?_
      simp only [Act.put, List.setIfInBounds_toArray, List.set_cons_zero, List.set_cons_succ]
      refine take_to 13 116 (.bool true) rfl (by kernel_rfl) (by kernel_rfl) (by kernel_rfl) (fun _ _ _ h => h) rfl (by rfl) (fun w hw => by rfl) ⟨XXc.out.belowW hT3, NXc.out.belowW hT3⟩ ?_
      simp only [Act.put, List.setIfInBounds_toArray, List.set_cons_zero, List.set_cons_succ]
      refine skip_to 14 117 rfl (by kernel_rfl) (by kernel_rfl) (by kernel_rfl) (fun _ _ _ h => h) rfl (by rfl) ⟨XXc.out.belowW hT3, NXc.out.belowW hT3⟩ ?_
      simp only [Act.put, List.setIfInBounds_toArray, List.set_cons_zero, List.set_cons_succ]
      refine skip_to 15 118 rfl (by kernel_rfl) (by kernel_rfl) (by kernel_rfl) (fun _ _ _ h => h) rfl (by rfl) ⟨XXc.out.belowW hT3, NXc.out.belowW hT3⟩ ?_
      simp only [Act.put, List.setIfInBounds_toArray, List.set_cons_zero, List.set_cons_succ]
      refine take_to 16 119 (.bool true) rfl (by kernel_rfl) (by kernel_rfl) (by kernel_rfl) (fun _ _ _ h => h) rfl (by rfl) (fun w hw => by rfl) ⟨XXc.out.belowW hT3, NXc.out.belowW hT3⟩ ?_
      simp only [Act.put, List.setIfInBounds_toArray, List.set_cons_zero, List.set_cons_succ]
      refine take_to 17 120 (.bool true) rfl (by kernel_rfl) (by kernel_rfl) (by kernel_rfl) (fun _ _ _ h => h) rfl (by rfl) (fun w hw => by rfl) ⟨XXc.out.belowW hT3, NXc.out.belowW hT3⟩ ?_
      simp only [Act.put, List.setIfInBounds_toArray, List.set_cons_zero, List.set_cons_succ]
      refine take_to 18 121 (.bool true) rfl (by kernel_rfl) (by kernel_rfl) (by kernel_rfl) (fun _ _ _ h => h) rfl (by rfl) (fun w hw => by rfl) ⟨XXc.out.belowW hT3, NXc.out.belowW hT3⟩ ?_
      simp only [Act.put, List.setIfInBounds_toArray, List.set_cons_zero, List.set_cons_succ]
      refine step_call0_to 19 122 11 rfl (by kernel_rfl) rfl (by rfl) _ rfl Try.enters11 (awake_any T3) ?_
      rintro e T4 ⟨rfl, hq4⟩
      have hT4 := hT3.trans (hq4.mono hT3.size)
      refine ⟨_, rfl, ⟨XXc.out.belowW hT4, NXc.out.belowW hT4⟩, ?_⟩
      simp only [Act.put, List.setIfInBounds_toArray, List.set_cons_zero, List.set_cons_succ]
      refine step_to 20 123 (.bool true) T4 rfl (by kernel_rfl) rfl (by rfl) (by rfl) ⟨XXc.out.belowW hT4, NXc.out.belowW hT4⟩ ?_
      simp only [Act.put, List.setIfInBounds_toArray, List.set_cons_zero, List.set_cons_succ]
      refine step_to 21 2 (.bool true) T4 rfl (by kernel_rfl) rfl (by rfl) (by rfl) ⟨XXc.out.belowW hT4, NXc.out.belowW hT4⟩ ?_
      simp only [Act.put, List.setIfInBounds_toArray, List.set_cons_zero, List.set_cons_succ]
      refine wpAnyH_done (by kernel_rfl) ?_ _
      go_wp2
      go_ret
      exact ⟨rfl, HBc.out.trans (hT4.mono HBc.out.size)⟩
    · refine wp_region_held_drew (S := fun w' => Box 26 w' p (.bool true) (.slice zv1 N.keys.length zc1) (.slice zv2 N.vals.length zc2) (.slice zv3 N.kids.length zc3) (.int .i64 N.next) ∧ Box 26 w' w.heap.size (.bool true) (.slice ak N.keys.length ck) (.slice av N.vals.length cv) (.slice ai N.kids.length ci) (.int .i64 N.next)) (by kernel_rfl) ⟨XXc.out.belowW (below_drewN _ _ 1), NXc.out.belowW (below_drewN _ _ 1)⟩ (fun hH => ?_)
      refine take_to 0 103 (.agg #[.bool true, .slice zv1 N.keys.length zc1, .slice zv2 N.vals.length zc2, .slice zv3 N.kids.length zc3, .int .i64 N.next]) rfl (by kernel_rfl) (by kernel_rfl) (by kernel_rfl) (fun _ _ _ h => h) rfl (by rfl) (fun w hw => op_load _ _ 26 (.tmp 12) rfl (.pointer (some ⟨_, 0, none⟩)) _ rfl (load26 hw.1)) hH ?_
      simp only [Act.put, List.setIfInBounds_toArray, List.set_cons_zero, List.set_cons_succ]
      refine take_to 2 105 (.agg #[.bool true, .slice ak N.keys.length ck, .slice av N.vals.length cv, .slice ai N.kids.length ci, .int .i64 N.next]) rfl (by kernel_rfl) (by kernel_rfl) (by kernel_rfl) (fun _ _ _ h => h) rfl (by rfl) (fun w hw => op_load _ _ 26 (.tmp 1) rfl (.pointer (some ⟨_, 0, none⟩)) _ rfl (load26 hw.2)) hH ?_
      simp only [Act.put, List.setIfInBounds_toArray, List.set_cons_zero, List.set_cons_succ]
      have hT0 : Below U2.heap.size U2 U2.drew := below_drewN _ _ 1
      clear hH
      generalize U2.drew = T0 at hT0 ⊢
      refine step_call1_to 1 104 17 rfl (by kernel_rfl) rfl (by rfl) (.tmp 103) _ rfl _ rfl Try.enters17 (HTO.out T0 _ _ _ (XAc.out.belowW hT0)) ?_
      rintro e T1 ⟨r1, r2, rfl, hq1, hr1⟩
      have hT1 := hT0.trans (hq1.mono hT0.size)
      refine ⟨_, rfl, ⟨XXc.out.belowW hT1, NXc.out.belowW hT1⟩, ?_⟩
      simp only [Act.put, List.setIfInBounds_toArray, List.set_cons_zero, List.set_cons_succ]
      refine step_call1_to 3 106 17 rfl (by kernel_rfl) rfl (by rfl) (.tmp 105) _ rfl _ rfl Try.enters17 (HTO.out T1 _ _ _ (NAc.out.belowW hT1)) ?_
      rintro e T2 ⟨r3, r4, rfl, hq2, hr2⟩
      have hT2 := hT1.trans (hq2.mono hT1.size)
      have hr1' := hr1.belowW hq2
      refine ⟨_, rfl, ⟨XXc.out.belowW hT2, NXc.out.belowW hT2⟩, ?_⟩
      simp only [Act.put, List.setIfInBounds_toArray, List.set_cons_zero, List.set_cons_succ]
      refine step_call2_to 4 107 16 rfl (by kernel_rfl) rfl (by rfl) (.tmp 104) (.tmp 106) _ rfl _ _ rfl rfl Try.enters16 (HSM.out T2 _ _ _ _ _ _ hr1' hr2) ?_
      rintro e T3 ⟨rfl, hq3⟩
      have hT3 := hT2.trans (hq3.mono hT2.size)
      refine ⟨_, rfl, ⟨XXc.out.belowW hT3, NXc.out.belowW hT3⟩, ?_⟩
      simp only [Act.put, List.setIfInBounds_toArray, List.set_cons_zero, List.set_cons_succ]
      refine take_to 5 108 (.bool true) rfl (by kernel_rfl) (by kernel_rfl) (by kernel_rfl) (fun _ _ _ h => h) rfl (by rfl) (fun w hw => by rfl) ⟨XXc.out.belowW hT3, NXc.out.belowW hT3⟩ ?_
      simp only [Act.put, List.setIfInBounds_toArray, List.set_cons_zero, List.set_cons_succ]
      refine take_to 6 109 (.int .i64 60) rfl (by kernel_rfl) (by kernel_rfl) (by kernel_rfl) (fun _ _ _ h => h) rfl (by rfl) (fun w hw => by rfl) ⟨XXc.out.belowW hT3, NXc.out.belowW hT3⟩ ?_
      simp only [Act.put, List.setIfInBounds_toArray, List.set_cons_zero, List.set_cons_succ]
      refine take_to 7 110 (.int .i64 60) rfl (by kernel_rfl) (by kernel_rfl) (by kernel_rfl) (fun _ _ _ h => h) rfl (by rfl) (fun w hw => by rfl) ⟨XXc.out.belowW hT3, NXc.out.belowW hT3⟩ ?_
      simp only [Act.put, List.setIfInBounds_toArray, List.set_cons_zero, List.set_cons_succ]
      refine take_to 8 111 (.bool true) rfl (by kernel_rfl) (by kernel_rfl) (by kernel_rfl) (fun _ _ _ h => h) rfl (by rfl) (fun w hw => op_eql38 _ _ (.tmp 109) (.tmp 110) _ rfl 60 60 rfl rfl true (by decide)) ⟨XXc.out.belowW hT3, NXc.out.belowW hT3⟩ ?_
      simp only [Act.put, List.setIfInBounds_toArray, List.set_cons_zero, List.set_cons_succ]
      refine take_to 9 112 (.bool true) rfl (by kernel_rfl) (by kernel_rfl) (by kernel_rfl) (fun _ _ _ h => h) rfl (by rfl) (fun w hw => by rfl) ⟨XXc.out.belowW hT3, NXc.out.belowW hT3⟩ ?_
      simp only [Act.put, List.setIfInBounds_toArray, List.set_cons_zero, List.set_cons_succ]
      refine take_to 10 113 (.bool true) rfl (by kernel_rfl) (by kernel_rfl) (by kernel_rfl) (fun _ _ _ h => h) rfl (by rfl) (fun w hw => by rfl) ⟨XXc.out.belowW hT3, NXc.out.belowW hT3⟩ ?_
      simp only [Act.put, List.setIfInBounds_toArray, List.set_cons_zero, List.set_cons_succ]
      refine take_to 11 114 (.int .i64 60) rfl (by kernel_rfl) (by kernel_rfl) (by kernel_rfl) (fun _ _ _ h => h) rfl (by rfl) (fun w hw => by rfl) ⟨XXc.out.belowW hT3, NXc.out.belowW hT3⟩ ?_
      simp only [Act.put, List.setIfInBounds_toArray, List.set_cons_zero, List.set_cons_succ]
      refine take_to 12 115 (.bool false) rfl (by kernel_rfl) (by kernel_rfl) (by kernel_rfl) (fun _ _ _ h => h) rfl (by rfl) (fun w hw => op_eql38 _ _ (.tmp 114) (.const (.int .i64 0)) _ rfl 60 0 rfl rfl false (by decide)) ⟨XXc.out.belowW hT3, NXc.out.belowW hT3⟩ ?_
      simp only [Act.put, List.setIfInBounds_toArray, List.set_cons_zero, List.set_cons_succ]
      refine take_to 13 116 (.bool false) rfl (by kernel_rfl) (by kernel_rfl) (by kernel_rfl) (fun _ _ _ h => h) rfl (by rfl) (fun w hw => by rfl) ⟨XXc.out.belowW hT3, NXc.out.belowW hT3⟩ ?_
      simp only [Act.put, List.setIfInBounds_toArray, List.set_cons_zero, List.set_cons_succ]
      refine take_to 14 117 (.int .i64 60) rfl (by kernel_rfl) (by kernel_rfl) (by kernel_rfl) (fun _ _ _ h => h) rfl (by rfl) (fun w hw => by rfl) ⟨XXc.out.belowW hT3, NXc.out.belowW hT3⟩ ?_
      simp only [Act.put, List.setIfInBounds_toArray, List.set_cons_zero, List.set_cons_succ]
      refine take_to 15 118 (.bool true) rfl (by kernel_rfl) (by kernel_rfl) (by kernel_rfl) (fun _ _ _ h => h) rfl (by rfl) (fun w hw => op_eql38 _ _ (.tmp 117) (.const (.int .i64 60)) _ rfl 60 60 rfl rfl true (by decide)) ⟨XXc.out.belowW hT3, NXc.out.belowW hT3⟩ ?_
      simp only [Act.put, List.setIfInBounds_toArray, List.set_cons_zero, List.set_cons_succ]
      refine take_to 16 119 (.bool true) rfl (by kernel_rfl) (by kernel_rfl) (by kernel_rfl) (fun _ _ _ h => h) rfl (by rfl) (fun w hw => by rfl) ⟨XXc.out.belowW hT3, NXc.out.belowW hT3⟩ ?_
      simp only [Act.put, List.setIfInBounds_toArray, List.set_cons_zero, List.set_cons_succ]
      refine take_to 17 120 (.bool true) rfl (by kernel_rfl) (by kernel_rfl) (by kernel_rfl) (fun _ _ _ h => h) rfl (by rfl) (fun w hw => by rfl) ⟨XXc.out.belowW hT3, NXc.out.belowW hT3⟩ ?_
      simp only [Act.put, List.setIfInBounds_toArray, List.set_cons_zero, List.set_cons_succ]
      refine take_to 18 121 (.bool true) rfl (by kernel_rfl) (by kernel_rfl) (by kernel_rfl) (fun _ _ _ h => h) rfl (by rfl) (fun w hw => by rfl) ⟨XXc.out.belowW hT3, NXc.out.belowW hT3⟩ ?_
      simp only [Act.put, List.setIfInBounds_toArray, List.set_cons_zero, List.set_cons_succ]
      refine step_call0_to 19 122 11 rfl (by kernel_rfl) rfl (by rfl) _ rfl Try.enters11 (awake_any T3) ?_
      rintro e T4 ⟨rfl, hq4⟩
      have hT4 := hT3.trans (hq4.mono hT3.size)
      refine ⟨_, rfl, ⟨XXc.out.belowW hT4, NXc.out.belowW hT4⟩, ?_⟩
      simp only [Act.put, List.setIfInBounds_toArray, List.set_cons_zero, List.set_cons_succ]
      refine step_to 20 123 (.bool true) T4 rfl (by kernel_rfl) rfl (by rfl) (by rfl) ⟨XXc.out.belowW hT4, NXc.out.belowW hT4⟩ ?_
      simp only [Act.put, List.setIfInBounds_toArray, List.set_cons_zero, List.set_cons_succ]
      refine step_to 21 2 (.bool true) T4 rfl (by kernel_rfl) rfl (by rfl) (by rfl) ⟨XXc.out.belowW hT4, NXc.out.belowW hT4⟩ ?_
      simp only [Act.put, List.setIfInBounds_toArray, List.set_cons_zero, List.set_cons_succ]
      refine wpAnyH_done (by kernel_rfl) ?_ _
      go_wp2
      go_ret
      exact ⟨rfl, HBc.out.trans (hT4.mono HBc.out.size)⟩
end Go.Proofs.Ytjcobejaldfibaa
