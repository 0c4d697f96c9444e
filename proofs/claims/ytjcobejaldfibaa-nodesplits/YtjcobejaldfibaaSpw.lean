/- The walk of NodeSplits. -/
import Derived.Test.YtjcobejaldfibaaCut
import Derived.Test.YtjcobejaldfibaaSpi
import Derived.Test.YtjcobejaldfibaaSpn
import Derived.Test.YtjcobejaldfibaaMri
namespace Go.Proofs.Ytjcobejaldfibaa
open Go.RowKit
set_option linter.unusedVariables false
set_option linter.unusedSimpArgs false

theorem left_lf (N : Nd) : N.left.leaf = N.leaf := by unfold Nd.left; cases h : N.leaf <;> rfl
theorem right_lf (N : Nd) : N.right.leaf = N.leaf := by unfold Nd.right; cases h : N.leaf <;> rfl
theorem left_next (N : Nd) : N.left.next = 0 := by unfold Nd.left; cases h : N.leaf <;> rfl
theorem right_next (N : Nd) : N.right.next = N.next := by unfold Nd.right; cases h : N.leaf <;> rfl
theorem left_keys (N : Nd) : N.left.keys = N.keys.take N.half := by unfold Nd.left; cases h : N.leaf <;> rfl
theorem right_keys (N : Nd) : N.right.keys = N.keys.drop (if N.leaf then N.half else N.half + 1) := by unfold Nd.right; cases h : N.leaf <;> rfl
theorem getD_mid {l : List (List UInt8)} {k : Nat} (h : k < l.length) : l.take k ++ ([l.getD k []] ++ l.drop (k + 1)) = l := by
  have e1 : l.getD k [] = l[k] := by simp [h]
  rw [e1]
  show l.take k ++ (l[k] :: l.drop (k + 1)) = l
  rw [← List.drop_eq_getElem_cons h, List.take_append_drop]
theorem merge_back {N : Nd} (hm : N.matched = true) (hh : N.half < N.keys.length) : mergeN N.left N.key N.right = N := by
  cases hl : N.leaf with
  | true => exact merge_halves (lf_of hl hm) _
  | false =>
    obtain ⟨lf, K, V, I, x⟩ := N
    simp only at hl
    subst hl
    simp [Nd.matched] at hm
    obtain ⟨rfl, hm⟩ := hm
    unfold mergeN Nd.left Nd.right Nd.key
    simp only [Bool.false_eq_true, if_false]
    rw [getD_mid hh]
    simp
theorem mat_left {N : Nd} (hm : N.matched = true) (hh : N.half < N.keys.length) : N.left.matched = true := by
  cases hl : N.leaf with
  | true => exact (lf_of hl hm).left.mat
  | false =>
    simp [Nd.matched, hl] at hm
    unfold Nd.left
    simp [Nd.matched, hl]
    omega
theorem mat_right {N : Nd} (hm : N.matched = true) (hh : N.half < N.keys.length) : N.right.matched = true := by
  cases hl : N.leaf with
  | true => exact (lf_of hl hm).right.mat
  | false =>
    simp [Nd.matched, hl] at hm
    unfold Nd.right
    simp [Nd.matched, hl]
    omega
theorem fit_left {N : Nd} (h : Fits N) (hm : N.matched = true) : Fits N.left := by
  cases hl : N.leaf with
  | true => exact fits_left h (lf_of hl hm)
  | false =>
    unfold Nd.left
    rw [hl]
    exact fits_part h false N.half 0 0 _ 0 _ _ (.inl rfl) (.inl rfl) (by simp; omega)
theorem fit_right {N : Nd} (h : Fits N) (hm : N.matched = true) : Fits N.right := by
  cases hl : N.leaf with
  | true => exact fits_right h (lf_of hl hm)
  | false =>
    unfold Nd.right
    rw [hl]
    exact fits_part h false (N.half + 1) 0 0 _ N.next _ _ (.inr rfl) (.inl rfl) (by simp)
theorem split_both {w : World} {N : Nd} {vk vv vi : Value} (h : NdAt w N vk vv vi) (hf : Fits N) (hh : N.half ≠ 0) (hm : N.matched = true) :
    Calls Try.prog 13 #[.agg #[.bool N.leaf, vk, vv, vi, .int .i64 N.next]] w fun e w' => ∃ ak av ai uk bk bv bi, e = .returned (.tuple #[.agg #[.bool N.leaf, ak, av, ai, .int .i64 0], uk, .agg #[.bool N.leaf, bk, bv, bi, .int .i64 N.next]]) ∧ Below w.heap.size w w' ∧ NdAt w' N.left ak av ai ∧ Sl w' uk N.key ∧ NdAt w' N.right bk bv bi := by
  have hs : Calls Try.prog 13 #[.agg #[.bool N.leaf, vk, vv, vi, .int .i64 N.next]] w (SplitEnd w N.left N.key N.right) := by
    cases hl : N.leaf with
    | true => exact split_leaf h hf hh hm hl
    | false => exact split_inner h hf hh hm hl
  refine hs.mono ?_
  rintro e w' ⟨ak, av, ai, uk, bk, bv, bi, rfl, h1, h2, h3, h4⟩
  rw [left_lf, right_lf, left_next, right_next]
  exact ⟨ak, av, ai, uk, bk, bv, bi, rfl, h1, h2.at, Row.of_owns h3, h4.at⟩
theorem merge_both {w : World} {N : Nd} {a b c x y z kv : Value} (hL : NdAt w N.left a b c) (hR : NdAt w N.right x y z) (hk : Sl w kv N.key) (hf : Fits N) (hm : N.matched = true) (hh : N.half < N.keys.length) :
    Calls Try.prog 14 #[.agg #[.bool N.leaf, a, b, c, .int .i64 0], kv, .agg #[.bool N.leaf, x, y, z, .int .i64 N.next]] w fun e w' => ∃ ok ov oi, e = .returned (.agg #[.bool N.leaf, ok, ov, oi, .int .i64 N.next]) ∧ Below w.heap.size w w' ∧ NdAt w' N ok ov oi := by
  have e := merge_back hm hh
  have hfM : Fits (mergeN N.left N.key N.right) := by rw [e]; exact hf
  have hs : Calls Try.prog 14 #[.agg #[.bool N.left.leaf, a, b, c, .int .i64 N.left.next], kv, .agg #[.bool N.right.leaf, x, y, z, .int .i64 N.right.next]] w fun e w' => ∃ ok ov oi, e = .returned (.agg #[.bool (mergeN N.left N.key N.right).leaf, ok, ov, oi, .int .i64 (mergeN N.left N.key N.right).next]) ∧ Below w.heap.size w w' ∧ NdOwn w.heap.size w' (mergeN N.left N.key N.right) ok ov oi := by
    cases hl : N.leaf with
    | true => exact merge_leaf hL hR (fit_left hf hm) (fit_right hf hm) hfM hk (by rw [left_lf]; exact hl) (by rw [right_lf]; exact hl) (mat_left hm hh) (mat_right hm hh)
    | false => exact merge_inner hL hR (fit_left hf hm) (fit_right hf hm) hfM hk (by rw [left_lf]; exact hl) (by rw [right_lf]; exact hl) (mat_left hm hh) (mat_right hm hh)
  rw [left_lf, right_lf, left_next, right_next, e] at hs
  exact hs.mono (fun e w' ⟨p, q, r, h1, h2, h3⟩ => ⟨p, q, r, h1, h2, h3.at⟩)
theorem op_eql3c (ρ : Operand → Value) (o : Oper) (x y : Operand) (tt : TypeId) (ho : o.op = .binOp .eql 3 x y tt) (n m : Int) (hx : ρ x = .int .i64 n) (hy : ρ y = .int .i64 m) (b : Bool) (hb : (n == m) = b) {w : World} : (execOp ρ o).run Try.prog w = .ok (.value (.bool b)) w := op_eql3 ρ o x y tt ho n m hx hy b hb
set_option maxHeartbeats 2000000 in
set_option maxRecDepth 100000 in
theorem splits_leaf {w : World} {N : Nd} {vk vv vi : Value} (h : NdAt w N vk vv vi) (hf : Fits N) (hs : N.sound = true) (hl : N.leaf = true) (h2 : 2 ≤ N.keys.length) :
    Calls Try.prog 7 #[.agg #[.bool true, vk, vv, vi, .int .i64 N.next]] w fun e w' => e = .returned (.bool true) ∧ Below w.heap.size w w' := by
  have HFIT : Hid (∀ W, Below w.heap.size w W → Calls Try.prog 12 #[.agg #[.bool true, vk, vv, vi, .int .i64 N.next]] W fun e w' => e = .returned (.bool true) ∧ Below W.heap.size W w') := fun W hW => by
    have := lfit_any (h.belowW hW) hf
    rw [hs, hl] at this
    exact this
  have hm := sound_matched hs
  have hhN : N.half = N.keys.length / 2 := rfl
  have hhl : N.half < N.keys.length := by omega
  have HSP : Hid (∀ W a b c, NdAt W N a b c → Calls Try.prog 13 #[.agg #[.bool true, a, b, c, .int .i64 N.next]] W fun e w' => ∃ ak av ai uk bk bv bi, e = .returned (.tuple #[.agg #[.bool true, ak, av, ai, .int .i64 0], uk, .agg #[.bool true, bk, bv, bi, .int .i64 N.next]]) ∧ Below W.heap.size W w' ∧ NdAt w' N.left ak av ai ∧ Sl w' uk N.key ∧ NdAt w' N.right bk bv bi) := fun W a b c hW => by
    have := split_both hW hf (by omega) hm
    rw [hl] at this
    exact this
  have HMG : Hid (∀ W a b c x y z kv, NdAt W N.left a b c → NdAt W N.right x y z → Sl W kv N.key → Calls Try.prog 14 #[.agg #[.bool true, a, b, c, .int .i64 0], kv, .agg #[.bool true, x, y, z, .int .i64 N.next]] W fun e w' => ∃ ok ov oi, e = .returned (.agg #[.bool true, ok, ov, oi, .int .i64 N.next]) ∧ Below W.heap.size W w' ∧ NdAt w' N ok ov oi) := fun W a b c x y z kv h1 h3 h4 => by
    have := merge_both h1 h3 h4 hf hm hhl
    rw [hl] at this
    exact this
  have HTO : Hid (∀ W a b c, NdAt W N a b c → Calls Try.prog 17 #[.agg #[.bool true, a, b, c, .int .i64 N.next]] W fun e w' => ∃ uk uv, e = .returned (.agg #[.bool true, uk, uv, c, .int .i64 N.next]) ∧ Below W.heap.size W w' ∧ RdAt w' N uk uv c) := fun W a b c hW => by
    have := to_any hW hf
    rw [hl] at this
    exact this
  have HSM : Hid (∀ W a b c x y z, RdAt W N a b c → RdAt W N x y z → Calls Try.prog 16 #[.agg #[.bool true, a, b, c, .int .i64 N.next], .agg #[.bool true, x, y, z, .int .i64 N.next]] W fun e w' => e = .returned (.bool true) ∧ Below W.heap.size W w') := fun W a b c x y z h1 h3 => by
    have := same_any h1 h3 hf
    rw [hl] at this
    exact this
  have lA : N.left.keys.length = N.half := by rw [left_keys, List.length_take]; omega
  have lB : N.right.keys.length = N.keys.length - N.half := by rw [right_keys, List.length_drop, hl]; rfl
  have hkey : N.key = N.keys.getD N.half [] := rfl
  have hnk3 := hf.keys
  have hhd : ((N.keys.length : Int)).tdiv 2 = (N.half : Int) := by rw [Int.tdiv_eq_ediv_of_nonneg (by omega)]; omega
  obtain ⟨r, hr⟩ : ∃ r : Nat, r = N.keys.length - N.half := ⟨_, rfl⟩
  have hsub : (N.keys.length : Int) - (N.half : Int) = (r : Int) := by omega
  have hhb : N.half ≤ 5864062014805 ∧ r ≤ 5864062014805 := by omega
  rw [← hr] at lB
  clear hr
  obtain ⟨ak, ck, rfl, _, _⟩ := h.keys.len
  obtain ⟨av, cv, rfl, _, _⟩ := h.vals.len
  obtain ⟨ai, ci, rfl, _, _⟩ := h.kids.len
  have HB0 : Hid (Below w.heap.size w (w.alloc (.cells #[.bool true, .slice ak N.keys.length ck, .slice av N.vals.length cv, .slice ai N.kids.length ci, .int .i64 N.next] 26))) := (Below.refl _ _).alloc (Nat.le_refl _) _
  have HX0 : Hid (Box 26 (w.alloc (.cells #[.bool true, .slice ak N.keys.length ck, .slice av N.vals.length cv, .slice ai N.kids.length ci, .int .i64 N.next] 26)) w.heap.size (.bool true) (.slice ak N.keys.length ck) (.slice av N.vals.length cv) (.slice ai N.kids.length ci) (.int .i64 N.next)) := Box.new _ _ _ _ _ _
  have HN0 := hide (h.belowW HB0.out)
  have hn2 : ¬ (N.keys.length < 2) := by omega
  clear h hf hs hl h2 hm hhN
  generalize N.left = A at *
  generalize N.right = B at *
  generalize N.key = KK at *
  generalize hhf : N.half = hf at *
  clear hhf
  have hwr : wrap64 (hf : Int) = (hf : Int) := wrap_id _ (Int.natCast_nonneg _) (by have := hhb.1; clear hhd; omega)
  have HLA := hide lA
  have HLB := hide lB
  have HKEY := hide hkey
  have HHL := hide hhl
  clear lA lB hkey
  go_enter Try.func7, Try.ntmps7
  go_upto_region 1 with fail
  generalize (w.alloc (.cells #[.bool true, .slice ak N.keys.length ck, .slice av N.vals.length cv, .slice ai N.kids.length ci, .int .i64 N.next] 26)) = W0 at *
  obtain ⟨k0, k1, k2, k3, k4, f0, f1, f2, f3, f4⟩ := HX0.out.cells
  go_wp2_with fail
  refine (HFIT.out W0 HB0.out).mono ?_
  rintro e W1 ⟨rfl, hq1⟩
  have HB1 := hide (HB0.out.trans (hq1.mono HB0.out.size))
  have NX1 := hide (HX0.out.belowW hq1)
  have NA1 := hide (HN0.out.belowW hq1)
  clear hq1 k0 k1 k2 k3 k4 f0 f1 f2 f3 f4 HX0 HB0 HN0 HFIT
  obtain ⟨k0, k1, k2, k3, k4, f0, f1, f2, f3, f4⟩ := NX1.out.cells
  go_wp2_with fail
  refine (HSP.out W1 _ _ _ NA1.out).mono ?_
  rintro e W2 ⟨lk, lv, li, uk, rk, rv, ri, rfl, hq2, hA2, hK2, hB2⟩
  clear k0 k1 k2 k3 k4 f0 f1 f2 f3 f4
  obtain ⟨a1, c1, e1, _, _⟩ := hA2.keys.len
  obtain ⟨a2, c2, e2, _, _⟩ := hA2.vals.len
  obtain ⟨a3, c3, e3, _, _⟩ := hA2.kids.len
  obtain ⟨b1, d1, e4, _, _⟩ := hB2.keys.len
  obtain ⟨b2, d2, e5, _, _⟩ := hB2.vals.len
  obtain ⟨b3, d3, e6, _, _⟩ := hB2.kids.len
  obtain ⟨u1, u2, e7, _, _⟩ := hK2.len
  subst e1 e2 e3 e4 e5 e6 e7
  have AA2 := hide hA2
  have BA2 := hide hB2
  have KS2 := hide hK2
  have HB2' := hide (HB1.out.trans (hq2.mono HB1.out.size))
  have NX2 := hide (NX1.out.belowW hq2)
  have NA2 := hide (NA1.out.belowW hq2)
  clear hA2 hB2 hK2 hq2 HB1 NX1 NA1 HSP
  rw [HLA.out] at AA2 ⊢
  rw [HLB.out] at BA2 ⊢
  generalize A.vals.length = n2 at *
  generalize A.kids.length = n3 at *
  generalize B.vals.length = m2 at *
  generalize B.kids.length = m3 at *
  go_upto_region 4 with fail
  have hz3 := (Below.refl W2.heap.size W2).alloc (Nat.le_refl _) (.cells #[.bool true, .slice a1 hf c1, .slice a2 n2 c2, .slice a3 n3 c3, .int .i64 0] 26)
  have hq3 := hz3.alloc hz3.size (.cells #[.bool true, .slice b1 r d1, .slice b2 m2 d2, .slice b3 m3 d3, .int .i64 N.next] 26)
  have AX3 : Hid (Box 26 ((W2.alloc (.cells #[.bool true, .slice a1 hf c1, .slice a2 n2 c2, .slice a3 n3 c3, .int .i64 0] 26)).alloc (.cells #[.bool true, .slice b1 r d1, .slice b2 m2 d2, .slice b3 m3 d3, .int .i64 N.next] 26)) (W2.heap.size) (.bool true) (.slice a1 hf c1) (.slice a2 n2 c2) (.slice a3 n3 c3) (.int .i64 0)) := (Box.new (t := 26) W2 _ _ _ _ _).alloc _
  have BX3 : Hid (Box 26 ((W2.alloc (.cells #[.bool true, .slice a1 hf c1, .slice a2 n2 c2, .slice a3 n3 c3, .int .i64 0] 26)).alloc (.cells #[.bool true, .slice b1 r d1, .slice b2 m2 d2, .slice b3 m3 d3, .int .i64 N.next] 26)) (W2.heap.size + 1) (.bool true) (.slice b1 r d1) (.slice b2 m2 d2) (.slice b3 m3 d3) (.int .i64 N.next)) := by
    have := Box.new (t := 26) (W2.alloc (.cells #[.bool true, .slice a1 hf c1, .slice a2 n2 c2, .slice a3 n3 c3, .int .i64 0] 26)) (.bool true) (.slice b1 r d1) (.slice b2 m2 d2) (.slice b3 m3 d3) (.int .i64 N.next)
    rwa [show (W2.alloc (.cells #[.bool true, .slice a1 hf c1, .slice a2 n2 c2, .slice a3 n3 c3, .int .i64 0] 26)).heap.size = W2.heap.size + 1 by simp] at this
  have NX3 := hide (NX2.out.belowW hq3)
  have NA3 := hide (NA2.out.belowW hq3)
  have AA3 := hide (AA2.out.belowW hq3)
  have BA3 := hide (BA2.out.belowW hq3)
  have KS3 := hide (KS2.out.belowW hq3)
  have HB3 := hide (HB2'.out.trans (hq3.mono HB2'.out.size))
  clear hz3 hq3 NX2 NA2 AA2 BA2 KS2 HB2'
  generalize ((W2.alloc (.cells #[.bool true, .slice a1 hf c1, .slice a2 n2 c2, .slice a3 n3 c3, .int .i64 0] 26)).alloc (.cells #[.bool true, .slice b1 r d1, .slice b2 m2 d2, .slice b3 m3 d3, .int .i64 N.next] 26)) = W3 at *
  generalize W2.heap.size = bA at *
  obtain ⟨gk, ok, ka, kd, hak, hkc, hks, _, _⟩ := NA3.out.keys.get hf HHL.out
  subst hak
  rw [← HKEY.out] at hkc hks
  have hcv1 : ∀ n, (convert 28 9 (.slice u1 KK.length u2)).run Try.prog (W3.drewN n) = .ok (.string (strOf KK)) (W3.drewN n) := fun n => run_str (KS3.out.belowW (below_drewN _ _ n))
  have hcv2 : ∀ n, (convert 28 9 (.slice ka KK.length kd)).run Try.prog (W3.drewN n) = .ok (.string (strOf KK)) (W3.drewN n) := fun n => run_str (hks.belowW (below_drewN _ _ n))
  clear hks
  generalize strOf KK = sk at *
  generalize KK.length = kn at *
  have hse : (sk.toList == sk.toList) = true := by simp
  obtain ⟨k0, k1, k2, k3, k4, f0, f1, f2, f3, f4⟩ := NX3.out.cells
  obtain ⟨j0, j1, j2, j3, j4, g0, g1, g2, g3, g4⟩ := AX3.out.cells
  obtain ⟨i0, i1, i2, i3, i4, p0, p1, p2, p3, p4⟩ := BX3.out.cells
  have HWR := hide hwr
  have HHD := hide hhd
  have HW7 : Hid (wrap64 ((N.keys.length : Int) - (hf : Int)) = (r : Int)) := by rw [hsub]; exact wrap_id _ (by clear hhd hwr hsub hhb; omega) (by have := hhb.2; clear hhd hwr hsub; omega)
  clear hwr hhd hsub hhl hhb
  go_upto_region 6 with fail
  have hhd := HHD.out
  go_upto_region 7 with fail
  clear hhd
  rw [HWR.out]
  go_upto_region 8 with fail
  rw [HW7.out]
  go_upto_region 10 with fail
  have hhl2 := HHL.out
  go_quiet (fail)
  go_upto_region 12 with fail
  clear k0 k1 k2 k3 k4 f0 f1 f2 f3 f4 j0 j1 j2 j3 j4 g0 g1 g2 g3 g4 i0 i1 i2 i3 i4 p0 p1 p2 p3 p4 hcv1 hcv2 hkc hse
  have hD : Below W3.heap.size W3 (W3.drewN nq) := below_drewN _ _ _
  generalize W3.drewN nq = W4 at *
  have hE : Below W3.heap.size W3 W4.drew := hD.trans ((below_drewN W4.heap.size W4 1).mono hD.size)
  refine wp_region_held_drew (S := fun w' => Box 26 w' (bA) (.bool true) (.slice a1 hf c1) (.slice a2 n2 c2) (.slice a3 n3 c3) (.int .i64 0) ∧ Box 26 w' (bA + 1) (.bool true) (.slice b1 r d1) (.slice b2 m2 d2) (.slice b3 m3 d3) (.int .i64 N.next) ∧ Box 26 w' (w.heap.size) (.bool true) (.slice (some ⟨gk, ok, none⟩) N.keys.length ck) (.slice av N.vals.length cv) (.slice ai N.kids.length ci) (.int .i64 N.next)) (by kernel_rfl) ⟨AX3.out.belowW hE, BX3.out.belowW hE, NX3.out.belowW hE⟩ (fun hH => ?_)
  refine take_to 0 104 (.agg #[.bool true, .slice a1 hf c1, .slice a2 n2 c2, .slice a3 n3 c3, .int .i64 0]) rfl (by kernel_rfl) (by kernel_rfl) (by kernel_rfl) (fun _ _ _ h => h) rfl (by rfl) (fun w hw => op_load _ _ 26 (.tmp 3) rfl (.pointer (some ⟨_, 0, none⟩)) _ rfl (load26 hw.1)) hH ?_
  simp only [Act.put, List.setIfInBounds_toArray, List.set_cons_zero, List.set_cons_succ]
  refine take_to 1 105 (.slice u1 kn u2) rfl (by kernel_rfl) (by kernel_rfl) (by kernel_rfl) (fun _ _ _ h => h) rfl (by rfl) (fun w hw => by rfl) hH ?_
  simp only [Act.put, List.setIfInBounds_toArray, List.set_cons_zero, List.set_cons_succ]
  refine take_to 2 106 (.agg #[.bool true, .slice b1 r d1, .slice b2 m2 d2, .slice b3 m3 d3, .int .i64 N.next]) rfl (by kernel_rfl) (by kernel_rfl) (by kernel_rfl) (fun _ _ _ h => h) rfl (by rfl) (fun w hw => op_load _ _ 26 (.tmp 5) rfl (.pointer (some ⟨_, 0, none⟩)) _ rfl (load26 hw.2.1)) hH ?_
  simp only [Act.put, List.setIfInBounds_toArray, List.set_cons_zero, List.set_cons_succ]
  refine take_to 5 109 (.agg #[.bool true, .slice (some ⟨gk, ok, none⟩) N.keys.length ck, .slice av N.vals.length cv, .slice ai N.kids.length ci, .int .i64 N.next]) rfl (by kernel_rfl) (by kernel_rfl) (by kernel_rfl) (fun _ _ _ h => h) rfl (by rfl) (fun w hw => op_load _ _ 26 (.tmp 1) rfl (.pointer (some ⟨_, 0, none⟩)) _ rfl (load26 hw.2.2)) hH ?_
  simp only [Act.put, List.setIfInBounds_toArray, List.set_cons_zero, List.set_cons_succ]
  clear hH
  generalize W4.drew = T0 at hE ⊢
  refine step_call3_to 3 107 14 rfl (by kernel_rfl) rfl (by rfl) (.tmp 104) (.tmp 105) (.tmp 106) _ rfl _ _ _ rfl rfl rfl Try.enters14 (HMG.out T0 _ _ _ _ _ _ _ (AA3.out.belowW hE) (BA3.out.belowW hE) (KS3.out.belowW hE)) ?_
  rintro e T1 ⟨z1, z2, z3, rfl, hq1, hz⟩
  have hT1 := hE.trans (hq1.mono hE.size)
  refine ⟨_, rfl, ⟨AX3.out.belowW hT1, BX3.out.belowW hT1, NX3.out.belowW hT1⟩, ?_⟩
  simp only [Act.put, List.setIfInBounds_toArray, List.set_cons_zero, List.set_cons_succ]
  refine step_call1_to 4 108 17 rfl (by kernel_rfl) rfl (by rfl) (.tmp 107) _ rfl _ rfl Try.enters17 (HTO.out T1 _ _ _ hz) ?_
  rintro e T2 ⟨r1, r2, rfl, hq2, hr1⟩
  have hT2 := hT1.trans (hq2.mono hT1.size)
  refine ⟨_, rfl, ⟨AX3.out.belowW hT2, BX3.out.belowW hT2, NX3.out.belowW hT2⟩, ?_⟩
  simp only [Act.put, List.setIfInBounds_toArray, List.set_cons_zero, List.set_cons_succ]
  refine step_call1_to 6 110 17 rfl (by kernel_rfl) rfl (by rfl) (.tmp 109) _ rfl _ rfl Try.enters17 (HTO.out T2 _ _ _ (NA3.out.belowW hT2)) ?_
  rintro e T3 ⟨r3, r4, rfl, hq3, hr2⟩
  have hT3 := hT2.trans (hq3.mono hT2.size)
  have hr1' := hr1.belowW hq3
  refine ⟨_, rfl, ⟨AX3.out.belowW hT3, BX3.out.belowW hT3, NX3.out.belowW hT3⟩, ?_⟩
  simp only [Act.put, List.setIfInBounds_toArray, List.set_cons_zero, List.set_cons_succ]
  refine step_call2_to 7 111 16 rfl (by kernel_rfl) rfl (by rfl) (.tmp 108) (.tmp 110) _ rfl _ _ rfl rfl Try.enters16 (HSM.out T3 _ _ _ _ _ _ hr1' hr2) ?_
  rintro e T4 ⟨rfl, hq4⟩
  have hT4 := hT3.trans (hq4.mono hT3.size)
  refine ⟨_, rfl, ⟨AX3.out.belowW hT4, BX3.out.belowW hT4, NX3.out.belowW hT4⟩, ?_⟩
  simp only [Act.put, List.setIfInBounds_toArray, List.set_cons_zero, List.set_cons_succ]
  refine take_to 8 112 (.bool true) rfl (by kernel_rfl) (by kernel_rfl) (by kernel_rfl) (fun _ _ _ h => h) rfl (by rfl) (fun w hw => by rfl) ⟨AX3.out.belowW hT4, BX3.out.belowW hT4, NX3.out.belowW hT4⟩ ?_
  simp only [Act.put, List.setIfInBounds_toArray, List.set_cons_zero, List.set_cons_succ]
  refine step_call0_to 9 113 11 rfl (by kernel_rfl) rfl (by rfl) _ rfl Try.enters11 (awake_any T4) ?_
  rintro e T5 ⟨rfl, hq5⟩
  have hT5 := hT4.trans (hq5.mono hT4.size)
  refine ⟨_, rfl, ⟨AX3.out.belowW hT5, BX3.out.belowW hT5, NX3.out.belowW hT5⟩, ?_⟩
  simp only [Act.put, List.setIfInBounds_toArray, List.set_cons_zero, List.set_cons_succ]
  refine step_to 10 114 (.bool true) T5 rfl (by kernel_rfl) rfl (by rfl) (by rfl) ⟨AX3.out.belowW hT5, BX3.out.belowW hT5, NX3.out.belowW hT5⟩ ?_
  simp only [Act.put, List.setIfInBounds_toArray, List.set_cons_zero, List.set_cons_succ]
  refine step_to 11 2 (.bool true) T5 rfl (by kernel_rfl) rfl (by rfl) (by rfl) ⟨AX3.out.belowW hT5, BX3.out.belowW hT5, NX3.out.belowW hT5⟩ ?_
  simp only [Act.put, List.setIfInBounds_toArray, List.set_cons_zero, List.set_cons_succ]
  refine wpAnyH_done (by kernel_rfl) ?_ _
  go_wp2
  go_ret
  exact ⟨rfl, HB3.out.trans (hT5.mono HB3.out.size)⟩
set_option maxHeartbeats 2000000 in
set_option maxRecDepth 100000 in
theorem splits_inner {w : World} {N : Nd} {vk vv vi : Value} (h : NdAt w N vk vv vi) (hf : Fits N) (hs : N.sound = true) (hl : N.leaf = false) (h2 : 2 ≤ N.keys.length) :
    Calls Try.prog 7 #[.agg #[.bool false, vk, vv, vi, .int .i64 N.next]] w fun e w' => e = .returned (.bool true) ∧ Below w.heap.size w w' := by
  have HFIT : Hid (∀ W, Below w.heap.size w W → Calls Try.prog 12 #[.agg #[.bool false, vk, vv, vi, .int .i64 N.next]] W fun e w' => e = .returned (.bool true) ∧ Below W.heap.size W w') := fun W hW => by
    have := lfit_any (h.belowW hW) hf
    rw [hs, hl] at this
    exact this
  have hm := sound_matched hs
  have hhN : N.half = N.keys.length / 2 := rfl
  have hhl : N.half < N.keys.length := by omega
  have HSP : Hid (∀ W a b c, NdAt W N a b c → Calls Try.prog 13 #[.agg #[.bool false, a, b, c, .int .i64 N.next]] W fun e w' => ∃ ak av ai uk bk bv bi, e = .returned (.tuple #[.agg #[.bool false, ak, av, ai, .int .i64 0], uk, .agg #[.bool false, bk, bv, bi, .int .i64 N.next]]) ∧ Below W.heap.size W w' ∧ NdAt w' N.left ak av ai ∧ Sl w' uk N.key ∧ NdAt w' N.right bk bv bi) := fun W a b c hW => by
    have := split_both hW hf (by omega) hm
    rw [hl] at this
    exact this
  have HMG : Hid (∀ W a b c x y z kv, NdAt W N.left a b c → NdAt W N.right x y z → Sl W kv N.key → Calls Try.prog 14 #[.agg #[.bool false, a, b, c, .int .i64 0], kv, .agg #[.bool false, x, y, z, .int .i64 N.next]] W fun e w' => ∃ ok ov oi, e = .returned (.agg #[.bool false, ok, ov, oi, .int .i64 N.next]) ∧ Below W.heap.size W w' ∧ NdAt w' N ok ov oi) := fun W a b c x y z kv h1 h3 h4 => by
    have := merge_both h1 h3 h4 hf hm hhl
    rw [hl] at this
    exact this
  have HTO : Hid (∀ W a b c, NdAt W N a b c → Calls Try.prog 17 #[.agg #[.bool false, a, b, c, .int .i64 N.next]] W fun e w' => ∃ uk uv, e = .returned (.agg #[.bool false, uk, uv, c, .int .i64 N.next]) ∧ Below W.heap.size W w' ∧ RdAt w' N uk uv c) := fun W a b c hW => by
    have := to_any hW hf
    rw [hl] at this
    exact this
  have HSM : Hid (∀ W a b c x y z, RdAt W N a b c → RdAt W N x y z → Calls Try.prog 16 #[.agg #[.bool false, a, b, c, .int .i64 N.next], .agg #[.bool false, x, y, z, .int .i64 N.next]] W fun e w' => e = .returned (.bool true) ∧ Below W.heap.size W w') := fun W a b c x y z h1 h3 => by
    have := same_any h1 h3 hf
    rw [hl] at this
    exact this
  have lA : N.left.keys.length = N.half := by rw [left_keys, List.length_take]; omega
  have lB : N.right.keys.length = N.keys.length - (N.half + 1) := by rw [right_keys, List.length_drop, hl]; rfl
  have hkey : N.key = N.keys.getD N.half [] := rfl
  have hnk3 := hf.keys
  have hhd : ((N.keys.length : Int)).tdiv 2 = (N.half : Int) := by rw [Int.tdiv_eq_ediv_of_nonneg (by omega)]; omega
  obtain ⟨r, hr⟩ : ∃ r : Nat, r = N.keys.length - (N.half + 1) := ⟨_, rfl⟩
  have hsub : (N.keys.length : Int) - (N.half : Int) = (r : Int) + 1 := by omega
  have hhb : N.half ≤ 5864062014805 ∧ r ≤ 5864062014805 := by omega
  rw [← hr] at lB
  clear hr
  obtain ⟨ak, ck, rfl, _, _⟩ := h.keys.len
  obtain ⟨av, cv, rfl, _, _⟩ := h.vals.len
  obtain ⟨ai, ci, rfl, _, _⟩ := h.kids.len
  have HB0 : Hid (Below w.heap.size w (w.alloc (.cells #[.bool false, .slice ak N.keys.length ck, .slice av N.vals.length cv, .slice ai N.kids.length ci, .int .i64 N.next] 26))) := (Below.refl _ _).alloc (Nat.le_refl _) _
  have HX0 : Hid (Box 26 (w.alloc (.cells #[.bool false, .slice ak N.keys.length ck, .slice av N.vals.length cv, .slice ai N.kids.length ci, .int .i64 N.next] 26)) w.heap.size (.bool false) (.slice ak N.keys.length ck) (.slice av N.vals.length cv) (.slice ai N.kids.length ci) (.int .i64 N.next)) := Box.new _ _ _ _ _ _
  have HN0 := hide (h.belowW HB0.out)
  have hn2 : ¬ (N.keys.length < 2) := by omega
  clear h hf hs hl h2 hm hhN
  generalize N.left = A at *
  generalize N.right = B at *
  generalize N.key = KK at *
  generalize hhf : N.half = hf at *
  clear hhf
  have hwr : wrap64 (hf : Int) = (hf : Int) := wrap_id _ (Int.natCast_nonneg _) (by have := hhb.1; clear hhd; omega)
  have HLA := hide lA
  have HLB := hide lB
  have HKEY := hide hkey
  have HHL := hide hhl
  clear lA lB hkey
  go_enter Try.func7, Try.ntmps7
  go_upto_region 1 with fail
  generalize (w.alloc (.cells #[.bool false, .slice ak N.keys.length ck, .slice av N.vals.length cv, .slice ai N.kids.length ci, .int .i64 N.next] 26)) = W0 at *
  obtain ⟨k0, k1, k2, k3, k4, f0, f1, f2, f3, f4⟩ := HX0.out.cells
  go_wp2_with fail
  refine (HFIT.out W0 HB0.out).mono ?_
  rintro e W1 ⟨rfl, hq1⟩
  have HB1 := hide (HB0.out.trans (hq1.mono HB0.out.size))
  have NX1 := hide (HX0.out.belowW hq1)
  have NA1 := hide (HN0.out.belowW hq1)
  clear hq1 k0 k1 k2 k3 k4 f0 f1 f2 f3 f4 HX0 HB0 HN0 HFIT
  obtain ⟨k0, k1, k2, k3, k4, f0, f1, f2, f3, f4⟩ := NX1.out.cells
  go_wp2_with fail
  refine (HSP.out W1 _ _ _ NA1.out).mono ?_
  rintro e W2 ⟨lk, lv, li, uk, rk, rv, ri, rfl, hq2, hA2, hK2, hB2⟩
  clear k0 k1 k2 k3 k4 f0 f1 f2 f3 f4
  obtain ⟨a1, c1, e1, _, _⟩ := hA2.keys.len
  obtain ⟨a2, c2, e2, _, _⟩ := hA2.vals.len
  obtain ⟨a3, c3, e3, _, _⟩ := hA2.kids.len
  obtain ⟨b1, d1, e4, _, _⟩ := hB2.keys.len
  obtain ⟨b2, d2, e5, _, _⟩ := hB2.vals.len
  obtain ⟨b3, d3, e6, _, _⟩ := hB2.kids.len
  obtain ⟨u1, u2, e7, _, _⟩ := hK2.len
  subst e1 e2 e3 e4 e5 e6 e7
  have AA2 := hide hA2
  have BA2 := hide hB2
  have KS2 := hide hK2
  have HB2' := hide (HB1.out.trans (hq2.mono HB1.out.size))
  have NX2 := hide (NX1.out.belowW hq2)
  have NA2 := hide (NA1.out.belowW hq2)
  clear hA2 hB2 hK2 hq2 HB1 NX1 NA1 HSP
  rw [HLA.out] at AA2 ⊢
  rw [HLB.out] at BA2 ⊢
  generalize A.vals.length = n2 at *
  generalize A.kids.length = n3 at *
  generalize B.vals.length = m2 at *
  generalize B.kids.length = m3 at *
  go_upto_region 4 with fail
  have hz3 := (Below.refl W2.heap.size W2).alloc (Nat.le_refl _) (.cells #[.bool false, .slice a1 hf c1, .slice a2 n2 c2, .slice a3 n3 c3, .int .i64 0] 26)
  have hq3 := hz3.alloc hz3.size (.cells #[.bool false, .slice b1 r d1, .slice b2 m2 d2, .slice b3 m3 d3, .int .i64 N.next] 26)
  have AX3 : Hid (Box 26 ((W2.alloc (.cells #[.bool false, .slice a1 hf c1, .slice a2 n2 c2, .slice a3 n3 c3, .int .i64 0] 26)).alloc (.cells #[.bool false, .slice b1 r d1, .slice b2 m2 d2, .slice b3 m3 d3, .int .i64 N.next] 26)) (W2.heap.size) (.bool false) (.slice a1 hf c1) (.slice a2 n2 c2) (.slice a3 n3 c3) (.int .i64 0)) := (Box.new (t := 26) W2 _ _ _ _ _).alloc _
  have BX3 : Hid (Box 26 ((W2.alloc (.cells #[.bool false, .slice a1 hf c1, .slice a2 n2 c2, .slice a3 n3 c3, .int .i64 0] 26)).alloc (.cells #[.bool false, .slice b1 r d1, .slice b2 m2 d2, .slice b3 m3 d3, .int .i64 N.next] 26)) (W2.heap.size + 1) (.bool false) (.slice b1 r d1) (.slice b2 m2 d2) (.slice b3 m3 d3) (.int .i64 N.next)) := by
    have := Box.new (t := 26) (W2.alloc (.cells #[.bool false, .slice a1 hf c1, .slice a2 n2 c2, .slice a3 n3 c3, .int .i64 0] 26)) (.bool false) (.slice b1 r d1) (.slice b2 m2 d2) (.slice b3 m3 d3) (.int .i64 N.next)
    rwa [show (W2.alloc (.cells #[.bool false, .slice a1 hf c1, .slice a2 n2 c2, .slice a3 n3 c3, .int .i64 0] 26)).heap.size = W2.heap.size + 1 by simp] at this
  have NX3 := hide (NX2.out.belowW hq3)
  have NA3 := hide (NA2.out.belowW hq3)
  have AA3 := hide (AA2.out.belowW hq3)
  have BA3 := hide (BA2.out.belowW hq3)
  have KS3 := hide (KS2.out.belowW hq3)
  have HB3 := hide (HB2'.out.trans (hq3.mono HB2'.out.size))
  clear hz3 hq3 NX2 NA2 AA2 BA2 KS2 HB2'
  generalize ((W2.alloc (.cells #[.bool false, .slice a1 hf c1, .slice a2 n2 c2, .slice a3 n3 c3, .int .i64 0] 26)).alloc (.cells #[.bool false, .slice b1 r d1, .slice b2 m2 d2, .slice b3 m3 d3, .int .i64 N.next] 26)) = W3 at *
  generalize W2.heap.size = bA at *
  obtain ⟨gk, ok, ka, kd, hak, hkc, hks, _, _⟩ := NA3.out.keys.get hf HHL.out
  subst hak
  rw [← HKEY.out] at hkc hks
  have hcv1 : ∀ n, (convert 28 9 (.slice u1 KK.length u2)).run Try.prog (W3.drewN n) = .ok (.string (strOf KK)) (W3.drewN n) := fun n => run_str (KS3.out.belowW (below_drewN _ _ n))
  have hcv2 : ∀ n, (convert 28 9 (.slice ka KK.length kd)).run Try.prog (W3.drewN n) = .ok (.string (strOf KK)) (W3.drewN n) := fun n => run_str (hks.belowW (below_drewN _ _ n))
  clear hks
  generalize strOf KK = sk at *
  generalize KK.length = kn at *
  have hse : (sk.toList == sk.toList) = true := by simp
  obtain ⟨k0, k1, k2, k3, k4, f0, f1, f2, f3, f4⟩ := NX3.out.cells
  obtain ⟨j0, j1, j2, j3, j4, g0, g1, g2, g3, g4⟩ := AX3.out.cells
  obtain ⟨i0, i1, i2, i3, i4, p0, p1, p2, p3, p4⟩ := BX3.out.cells
  have HWR := hide hwr
  have HHD := hide hhd
  have HW7 : Hid (wrap64 ((N.keys.length : Int) - (hf : Int)) = (r : Int) + 1) := by rw [hsub]; exact wrap_id _ (by clear hhd hwr hsub hhb; omega) (by have := hhb.2; clear hhd hwr hsub; omega)
  have HW9 : Hid (wrap64 (r : Int) = (r : Int)) := wrap_id _ (Int.natCast_nonneg _) (by have := hhb.2; clear hhd hwr hsub; omega)
  clear hwr hhd hsub hhl hhb
  go_upto_region 6 with fail
  have hhd := HHD.out
  go_upto_region 7 with fail
  clear hhd
  rw [HWR.out]
  go_upto_region 8 with fail
  rw [HW7.out]
  go_upto_region 9 with fail
  go_upto_region 10 with fail
  rw [HW9.out]
  have hhl2 := HHL.out
  go_quiet (fail)
  go_upto_region 12 with fail
  clear k0 k1 k2 k3 k4 f0 f1 f2 f3 f4 j0 j1 j2 j3 j4 g0 g1 g2 g3 g4 i0 i1 i2 i3 i4 p0 p1 p2 p3 p4 hcv1 hcv2 hkc hse
  have hD : Below W3.heap.size W3 (W3.drewN nq) := below_drewN _ _ _
  generalize W3.drewN nq = W4 at *
  have hE : Below W3.heap.size W3 W4.drew := hD.trans ((below_drewN W4.heap.size W4 1).mono hD.size)
  refine wp_region_held_drew (S := fun w' => Box 26 w' (bA) (.bool false) (.slice a1 hf c1) (.slice a2 n2 c2) (.slice a3 n3 c3) (.int .i64 0) ∧ Box 26 w' (bA + 1) (.bool false) (.slice b1 r d1) (.slice b2 m2 d2) (.slice b3 m3 d3) (.int .i64 N.next) ∧ Box 26 w' (w.heap.size) (.bool false) (.slice (some ⟨gk, ok, none⟩) N.keys.length ck) (.slice av N.vals.length cv) (.slice ai N.kids.length ci) (.int .i64 N.next)) (by kernel_rfl) ⟨AX3.out.belowW hE, BX3.out.belowW hE, NX3.out.belowW hE⟩ (fun hH => ?_)
  refine take_to 0 104 (.agg #[.bool false, .slice a1 hf c1, .slice a2 n2 c2, .slice a3 n3 c3, .int .i64 0]) rfl (by kernel_rfl) (by kernel_rfl) (by kernel_rfl) (fun _ _ _ h => h) rfl (by rfl) (fun w hw => op_load _ _ 26 (.tmp 3) rfl (.pointer (some ⟨_, 0, none⟩)) _ rfl (load26 hw.1)) hH ?_
  simp only [Act.put, List.setIfInBounds_toArray, List.set_cons_zero, List.set_cons_succ]
  refine take_to 1 105 (.slice u1 kn u2) rfl (by kernel_rfl) (by kernel_rfl) (by kernel_rfl) (fun _ _ _ h => h) rfl (by rfl) (fun w hw => by rfl) hH ?_
  simp only [Act.put, List.setIfInBounds_toArray, List.set_cons_zero, List.set_cons_succ]
  refine take_to 2 106 (.agg #[.bool false, .slice b1 r d1, .slice b2 m2 d2, .slice b3 m3 d3, .int .i64 N.next]) rfl (by kernel_rfl) (by kernel_rfl) (by kernel_rfl) (fun _ _ _ h => h) rfl (by rfl) (fun w hw => op_load _ _ 26 (.tmp 5) rfl (.pointer (some ⟨_, 0, none⟩)) _ rfl (load26 hw.2.1)) hH ?_
  simp only [Act.put, List.setIfInBounds_toArray, List.set_cons_zero, List.set_cons_succ]
  refine take_to 5 109 (.agg #[.bool false, .slice (some ⟨gk, ok, none⟩) N.keys.length ck, .slice av N.vals.length cv, .slice ai N.kids.length ci, .int .i64 N.next]) rfl (by kernel_rfl) (by kernel_rfl) (by kernel_rfl) (fun _ _ _ h => h) rfl (by rfl) (fun w hw => op_load _ _ 26 (.tmp 1) rfl (.pointer (some ⟨_, 0, none⟩)) _ rfl (load26 hw.2.2)) hH ?_
  simp only [Act.put, List.setIfInBounds_toArray, List.set_cons_zero, List.set_cons_succ]
  clear hH
  generalize W4.drew = T0 at hE ⊢
  refine step_call3_to 3 107 14 rfl (by kernel_rfl) rfl (by rfl) (.tmp 104) (.tmp 105) (.tmp 106) _ rfl _ _ _ rfl rfl rfl Try.enters14 (HMG.out T0 _ _ _ _ _ _ _ (AA3.out.belowW hE) (BA3.out.belowW hE) (KS3.out.belowW hE)) ?_
  rintro e T1 ⟨z1, z2, z3, rfl, hq1, hz⟩
  have hT1 := hE.trans (hq1.mono hE.size)
  refine ⟨_, rfl, ⟨AX3.out.belowW hT1, BX3.out.belowW hT1, NX3.out.belowW hT1⟩, ?_⟩
  simp only [Act.put, List.setIfInBounds_toArray, List.set_cons_zero, List.set_cons_succ]
  refine step_call1_to 4 108 17 rfl (by kernel_rfl) rfl (by rfl) (.tmp 107) _ rfl _ rfl Try.enters17 (HTO.out T1 _ _ _ hz) ?_
  rintro e T2 ⟨r1, r2, rfl, hq2, hr1⟩
  have hT2 := hT1.trans (hq2.mono hT1.size)
  refine ⟨_, rfl, ⟨AX3.out.belowW hT2, BX3.out.belowW hT2, NX3.out.belowW hT2⟩, ?_⟩
  simp only [Act.put, List.setIfInBounds_toArray, List.set_cons_zero, List.set_cons_succ]
  refine step_call1_to 6 110 17 rfl (by kernel_rfl) rfl (by rfl) (.tmp 109) _ rfl _ rfl Try.enters17 (HTO.out T2 _ _ _ (NA3.out.belowW hT2)) ?_
  rintro e T3 ⟨r3, r4, rfl, hq3, hr2⟩
  have hT3 := hT2.trans (hq3.mono hT2.size)
  have hr1' := hr1.belowW hq3
  refine ⟨_, rfl, ⟨AX3.out.belowW hT3, BX3.out.belowW hT3, NX3.out.belowW hT3⟩, ?_⟩
  simp only [Act.put, List.setIfInBounds_toArray, List.set_cons_zero, List.set_cons_succ]
  refine step_call2_to 7 111 16 rfl (by kernel_rfl) rfl (by rfl) (.tmp 108) (.tmp 110) _ rfl _ _ rfl rfl Try.enters16 (HSM.out T3 _ _ _ _ _ _ hr1' hr2) ?_
  rintro e T4 ⟨rfl, hq4⟩
  have hT4 := hT3.trans (hq4.mono hT3.size)
  refine ⟨_, rfl, ⟨AX3.out.belowW hT4, BX3.out.belowW hT4, NX3.out.belowW hT4⟩, ?_⟩
  simp only [Act.put, List.setIfInBounds_toArray, List.set_cons_zero, List.set_cons_succ]
  refine take_to 8 112 (.bool true) rfl (by kernel_rfl) (by kernel_rfl) (by kernel_rfl) (fun _ _ _ h => h) rfl (by rfl) (fun w hw => by rfl) ⟨AX3.out.belowW hT4, BX3.out.belowW hT4, NX3.out.belowW hT4⟩ ?_
  simp only [Act.put, List.setIfInBounds_toArray, List.set_cons_zero, List.set_cons_succ]
  refine step_call0_to 9 113 11 rfl (by kernel_rfl) rfl (by rfl) _ rfl Try.enters11 (awake_any T4) ?_
  rintro e T5 ⟨rfl, hq5⟩
  have hT5 := hT4.trans (hq5.mono hT4.size)
  refine ⟨_, rfl, ⟨AX3.out.belowW hT5, BX3.out.belowW hT5, NX3.out.belowW hT5⟩, ?_⟩
  simp only [Act.put, List.setIfInBounds_toArray, List.set_cons_zero, List.set_cons_succ]
  refine step_to 10 114 (.bool true) T5 rfl (by kernel_rfl) rfl (by rfl) (by rfl) ⟨AX3.out.belowW hT5, BX3.out.belowW hT5, NX3.out.belowW hT5⟩ ?_
  simp only [Act.put, List.setIfInBounds_toArray, List.set_cons_zero, List.set_cons_succ]
  refine step_to 11 2 (.bool true) T5 rfl (by kernel_rfl) rfl (by rfl) (by rfl) ⟨AX3.out.belowW hT5, BX3.out.belowW hT5, NX3.out.belowW hT5⟩ ?_
  simp only [Act.put, List.setIfInBounds_toArray, List.set_cons_zero, List.set_cons_succ]
  refine wpAnyH_done (by kernel_rfl) ?_ _
  go_wp2
  go_ret
  exact ⟨rfl, HB3.out.trans (hT5.mono HB3.out.size)⟩
end Go.Proofs.Ytjcobejaldfibaa
