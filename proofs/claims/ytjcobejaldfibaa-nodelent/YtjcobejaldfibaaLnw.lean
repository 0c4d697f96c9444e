/- NodeLent: the walk. -/
import Derived.Test.YtjcobejaldfibaaLnp
import Derived.Test.YtjcobejaldfibaaCut
namespace Go.Proofs.Ytjcobejaldfibaa
open Go.RowKit
set_option linter.unusedVariables false
set_option linter.unusedSimpArgs false

theorem load43' {w : World} {b : Nat} {c0 c1 c2 c3 c4 : Value} (h : Box 43 w b c0 c1 c2 c3 c4) : (Instr.loadAt 43 (.pointer (some ⟨b, 0, none⟩))).run Try.prog w = .ok (.agg #[c0, c1, c2, c3, c4]) w :=
  run_loadAt_mid w b 0 43 [c0, c1, c2, c3, c4] _ (fun j v hv => by rw [Nat.zero_add, cell_row h.heap]; simpa using hv) Try.underlying43 rfl Try.size43
set_option maxHeartbeats 4000000 in
set_option maxRecDepth 100000 in
theorem lent_walk {w : World} {N : Nd} {vk vv vi kv yv : Value} {K V : List UInt8} (h : NdAt w N vk vv vi) (hf : Rom N) (hk : Sl w kv K) (hkl : K.length ≤ 140737488355328) (hy : Sl w yv V) (hyl : V.length ≤ 140737488355328) :
    Calls Try.prog 8 #[.agg #[.bool N.leaf, vk, vv, vi, .int .i64 N.next], kv, yv] w fun e w' => e = .returned (.bool true) ∧ Below w.heap.size w w' := by
  obtain ⟨ak, ck, rfl, _, _⟩ := h.keys.len
  obtain ⟨av, cv, rfl, _, _⟩ := h.vals.len
  obtain ⟨ai, ci, rfl, _, _⟩ := h.kids.len
  obtain ⟨ka, kc, rfl, _, _⟩ := hk.len
  obtain ⟨ya, yc, rfl, _, _⟩ := hy.len
  have HF := hide hf
  have HKL := hide hkl
  have HYL := hide hyl
  have hq0 : Below w.heap.size w (w.alloc (.cells #[.bool N.leaf, .slice ak N.keys.length ck, .slice av N.vals.length cv, .slice ai N.kids.length ci, .int .i64 N.next] 26)) := (Below.refl _ _).alloc (Nat.le_refl _) _
  have HB0 := hide hq0
  have NX0 : Hid (Box 26 (w.alloc (.cells #[.bool N.leaf, .slice ak N.keys.length ck, .slice av N.vals.length cv, .slice ai N.kids.length ci, .int .i64 N.next] 26)) w.heap.size (.bool N.leaf) (.slice ak N.keys.length ck) (.slice av N.vals.length cv) (.slice ai N.kids.length ci) (.int .i64 N.next)) := Box.new _ _ _ _ _ _
  have NA0 := hide (h.belowW hq0)
  have KS0 := hide (hk.belowW hq0)
  have VS0 := hide (hy.belowW hq0)
  clear h hf hk hy hkl hyl hq0
  go_enter Try.func8, Try.ntmps8
  go_upto_region 1 with fail
  generalize w.alloc (.cells #[.bool N.leaf, .slice ak N.keys.length ck, .slice av N.vals.length cv, .slice ai N.kids.length ci, .int .i64 N.next] 26) = W0 at *
  have HTO := hide (to_any NA0.out HF.out.fits)
  obtain ⟨k0, k1, k2, k3, k4, f0, f1, f2, f3, f4⟩ := NX0.out.cells
  go_wp2_with fail
  refine HTO.out.mono ?_
  clear k0 k1 k2 k3 k4 f0 f1 f2 f3 f4 HTO
  rintro e W1 ⟨uk, uv, rfl, hq1, hr1⟩
  obtain ⟨u1, d1, rfl, _, _⟩ := hr1.keys.len
  obtain ⟨u2, d2, rfl, _, _⟩ := hr1.vals.len
  have hqa : Below W1.heap.size W1 (W1.alloc (.cells #[.bool N.leaf, .slice u1 N.keys.length d1, .slice u2 N.vals.length d2, .slice ai N.kids.length ci, .int .i64 N.next] 43)) := (Below.refl _ _).alloc (Nat.le_refl _) _
  have hq2 := hq1.trans (hqa.mono hq1.size)
  have HL2 : Hid (LS w (W1.alloc (.cells #[.bool N.leaf, .slice u1 N.keys.length d1, .slice u2 N.vals.length d2, .slice ai N.kids.length ci, .int .i64 N.next] 43)) N (.slice ak N.keys.length ck) (.slice av N.vals.length cv) (.slice ai N.kids.length ci) (.slice ka K.length kc) (.slice ya V.length yc) K V W1.heap.size (.slice u1 N.keys.length d1) (.slice u2 N.vals.length d2)) := ⟨HB0.out.trans (hq2.mono HB0.out.size), NX0.out.belowW hq2, NA0.out.belowW hq2, KS0.out.belowW hq2, VS0.out.belowW hq2, Box.new _ _ _ _ _ _, hr1.belowW hqa⟩
  clear hr1 hqa hq1 hq2 HB0 NX0 NA0 KS0 VS0
  go_upto_region 3 with fail
  generalize W1.alloc (.cells #[.bool N.leaf, .slice u1 N.keys.length d1, .slice u2 N.vals.length d2, .slice ai N.kids.length ci, .int .i64 N.next] 43) = W2 at *
  generalize W1.heap.size = bw at *
  have HPUT := hide (put_any HL2.out.nd HF.out.fits HL2.out.k HL2.out.v HKL.out HYL.out HF.out.rk HF.out.rv)
  obtain ⟨k0, k1, k2, k3, k4, f0, f1, f2, f3, f4⟩ := HL2.out.nb.cells
  go_wp2_with fail
  refine HPUT.out.mono ?_
  clear k0 k1 k2 k3 k4 f0 f1 f2 f3 f4 HPUT
  rintro e W3 ⟨p1, p2, p3, rfl, hq3, ho3⟩
  have HSH := hide (NdSh.of ho3 (put_fits HF.out.fits HKL.out HYL.out HF.out.rk HF.out.rv))
  clear ho3
  obtain ⟨p1, pn1, pc1, e1, _, _⟩ := HSH.out.keys
  obtain ⟨p2, pn2, pc2, e2, _, _⟩ := HSH.out.vals
  obtain ⟨p3, pn3, pc3, e3, _, _⟩ := HSH.out.kids
  subst e1 e2 e3
  have HSP := hide (spoil_any (lf := N.leaf) (nx := N.next) HSH.out hq3.size)
  go_wp2_with fail
  refine HSP.out.mono ?_
  rintro e W4 ⟨⟨v4, rfl⟩, ht4⟩
  have HL4 := hide (HL2.out.next (hq3.trans ht4.below))
  clear HSP HSH hq3 ht4 HL2
  go_upto_region 4 with fail
  have HDEL := hide (del_any HL4.out.nd HF.out.fits HL4.out.k)
  obtain ⟨k0, k1, k2, k3, k4, f0, f1, f2, f3, f4⟩ := HL4.out.nb.cells
  go_wp2_with fail
  refine HDEL.out.mono ?_
  clear k0 k1 k2 k3 k4 f0 f1 f2 f3 f4 HDEL
  rintro e W5 ⟨p1, p2, p3, rfl, hq5, ho5⟩
  have HSH := hide (NdSh.of ho5 (del_fits HF.out.fits))
  clear ho5
  obtain ⟨p1, pn1, pc1, e1, _, _⟩ := HSH.out.keys
  obtain ⟨p2, pn2, pc2, e2, _, _⟩ := HSH.out.vals
  obtain ⟨p3, pn3, pc3, e3, _, _⟩ := HSH.out.kids
  subst e1 e2 e3
  generalize delH N K = dh at *
  have hqa : Below W5.heap.size W5 (W5.alloc (.cells #[.bool N.leaf, .slice p1 pn1 pc1, .slice p2 pn2 pc2, .slice p3 pn3 pc3, .int .i64 N.next] 26)) := (Below.refl _ _).alloc (Nat.le_refl _) _
  have HD6 : Hid (Box 26 (W5.alloc (.cells #[.bool N.leaf, .slice p1 pn1 pc1, .slice p2 pn2 pc2, .slice p3 pn3 pc3, .int .i64 N.next] 26)) W5.heap.size (.bool N.leaf) (.slice p1 pn1 pc1) (.slice p2 pn2 pc2) (.slice p3 pn3 pc3) (.int .i64 N.next)) := Box.new _ _ _ _ _ _
  have HQ6 := hide (hq5.trans (hqa.mono hq5.size))
  have HSH6 := hide (HSH.out.keep (TyK.of_below (ts := [5, 28, 3]) hqa hq5.size))
  clear hqa hq5 HSH
  go_upto_region 5 with fail
  generalize W5.alloc (.cells #[.bool N.leaf, .slice p1 pn1 pc1, .slice p2 pn2 pc2, .slice p3 pn3 pc3, .int .i64 N.next] 26) = W6 at *
  generalize W5.heap.size = bd at *
  have HSP := hide (spoil_any (lf := N.leaf) (nx := N.next) HSH6.out HQ6.out.size)
  obtain ⟨k0, k1, k2, k3, k4, f0, f1, f2, f3, f4⟩ := HD6.out.cells
  go_wp2_with fail
  refine HSP.out.mono ?_
  clear k0 k1 k2 k3 k4 f0 f1 f2 f3 f4
  rintro e W7 ⟨⟨v7, rfl⟩, ht7⟩
  have HL7 := hide (HL4.out.next (HQ6.out.trans ht7.below))
  clear HSP HSH6 ht7 HL4 HQ6 HD6
  go_upto_region 6 with fail
  have HSPL := hide (split_sh HL7.out.nd HF.out.fits)
  obtain ⟨k0, k1, k2, k3, k4, f0, f1, f2, f3, f4⟩ := HL7.out.nb.cells
  go_wp2_with fail
  refine HSPL.out.mono ?_
  clear k0 k1 k2 k3 k4 f0 f1 f2 f3 f4 HSPL
  rintro e W8 ⟨l1, a1, b1, c1, x1, s, l2, a2, b2, c2, x2, rfl, hq8, hA8, hS8, hB8⟩
  obtain ⟨p1, pn1, pc1, e1, _, _⟩ := hA8.keys
  obtain ⟨p2, pn2, pc2, e2, _, _⟩ := hA8.vals
  obtain ⟨p3, pn3, pc3, e3, _, _⟩ := hA8.kids
  subst e1 e2 e3
  obtain ⟨q1, qn1, qc1, e1, _, _⟩ := hB8.keys
  obtain ⟨q2, qn2, qc2, e2, _, _⟩ := hB8.vals
  obtain ⟨q3, qn3, qc3, e3, _, _⟩ := hB8.kids
  subst e1 e2 e3
  have HS8 := hide hS8
  obtain ⟨sa, sn, sc, rfl, hsn, _⟩ := hS8
  have HA8 := hide hA8
  have HB8 := hide hB8
  have HQ8 := hide hq8
  clear hA8 hB8 hq8
  have hqa : Below W8.heap.size W8 (W8.alloc (.cells #[.bool l1, .slice p1 pn1 pc1, .slice p2 pn2 pc2, .slice p3 pn3 pc3, .int .i64 x1] 26)) := (Below.refl _ _).alloc (Nat.le_refl _) _
  have hqb := hqa.alloc hqa.size (.cells #[.bool l2, .slice q1 qn1 qc1, .slice q2 qn2 qc2, .slice q3 qn3 qc3, .int .i64 x2] 26)
  have HXA : Hid (Box 26 ((W8.alloc (.cells #[.bool l1, .slice p1 pn1 pc1, .slice p2 pn2 pc2, .slice p3 pn3 pc3, .int .i64 x1] 26)).alloc (.cells #[.bool l2, .slice q1 qn1 qc1, .slice q2 qn2 qc2, .slice q3 qn3 qc3, .int .i64 x2] 26)) W8.heap.size (.bool l1) (.slice p1 pn1 pc1) (.slice p2 pn2 pc2) (.slice p3 pn3 pc3) (.int .i64 x1)) := (Box.new _ _ _ _ _ _).alloc _
  have HXB : Hid (Box 26 ((W8.alloc (.cells #[.bool l1, .slice p1 pn1 pc1, .slice p2 pn2 pc2, .slice p3 pn3 pc3, .int .i64 x1] 26)).alloc (.cells #[.bool l2, .slice q1 qn1 qc1, .slice q2 qn2 qc2, .slice q3 qn3 qc3, .int .i64 x2] 26)) (W8.heap.size + 1) (.bool l2) (.slice q1 qn1 qc1) (.slice q2 qn2 qc2) (.slice q3 qn3 qc3) (.int .i64 x2)) := by
    have := Box.new (t := 26) (W8.alloc (.cells #[.bool l1, .slice p1 pn1 pc1, .slice p2 pn2 pc2, .slice p3 pn3 pc3, .int .i64 x1] 26)) (.bool l2) (.slice q1 qn1 qc1) (.slice q2 qn2 qc2) (.slice q3 qn3 qc3) (.int .i64 x2)
    rwa [show (W8.alloc (.cells #[.bool l1, .slice p1 pn1 pc1, .slice p2 pn2 pc2, .slice p3 pn3 pc3, .int .i64 x1] 26)).heap.size = W8.heap.size + 1 by simp] at this
  have htk := TyK.of_below (ts := [5, 28, 3]) hqb HQ8.out.size
  have HSA := hide (HA8.out.keep htk)
  have HSB := hide (HB8.out.keep htk)
  have HSS := hide (HS8.out.keep htk)
  have HQ9 := hide (HQ8.out.trans htk.below)
  clear hqa hqb htk HA8 HB8 HS8 HQ8
  go_upto_region 7 with fail
  generalize (W8.alloc (.cells #[.bool l1, .slice p1 pn1 pc1, .slice p2 pn2 pc2, .slice p3 pn3 pc3, .int .i64 x1] 26)).alloc (.cells #[.bool l2, .slice q1 qn1 qc1, .slice q2 qn2 qc2, .slice q3 qn3 qc3, .int .i64 x2] 26) = W9 at *
  generalize W8.heap.size = ba at *
  have HB7 : Hid (∀ U, TyK [5, 28, 3] W7.heap.size W9 U → W7.heap.size ≤ U.heap.size) := fun U hU => Nat.le_trans HQ9.out.size hU.below.size
  go_wp2
  go_loopw [14] (fun i wr => ∃ k : Nat, k ≤ sn ∧ i = .int .i64 (k : Int) ∧ Hid (TyK [5, 28, 3] W7.heap.size W9 wr)) (fun i _ => sn - (intOf i).toNat)
  case atStart => exact ⟨0, Nat.zero_le _, rfl, TyK.refl _ _ _⟩
  case round =>
    obtain ⟨k, hk, rfl, HT⟩ := hrel
    by_cases hkn : k < sn
    · obtain ⟨_, _, _, e0, _, hr⟩ := HSS.out.keep HT.out
      injection e0 with e1 e2 e3
      subst e1 e2 e3
      obtain ⟨g, C, ea, hgb, hC, hj⟩ := hr (by omega)
      obtain ⟨x, hx, hx1, hx2⟩ := hj k hkn
      subst ea
      have hck : wr.cell? ⟨g, k, none⟩ = some (.int .u8 x) := (cell_row hC).trans hx
      have hfk : wr.frozen? ⟨g, k, none⟩ = false := frozen_row hC
      have HST : Hid (∀ y : Int, 0 ≤ y → y < 256 → TyK [5, 28, 3] W7.heap.size W9 (wr.setCell ⟨g, k, none⟩ (.int .u8 y))) := fun y h1 h2 => HT.out.trans (TyK.set hC (by simp) hgb hx (.inr (.inl ⟨x, y, rfl, rfl, h1, h2⟩)))
      clear hr hj hC hx hgb
      go_wp2
      go_roundw
      case rel => exact ⟨k + 1, by omega, by go_num, HST.out _ (by first | omega | (split <;> omega)) (by first | omega | (split <;> omega))⟩
      case measure => simp [intOf]; omega
    · have hke : k = sn := by omega
      subst hke
      have HSP := hide (spoil_any (lf := l1) (nx := x1) (HSA.out.keep HT.out) (HB7.out _ HT.out))
      go_upto_region 11 with fail
      obtain ⟨k0, k1, k2, k3, k4, f0, f1, f2, f3, f4⟩ := (HT.out.box HXA.out (by decide)).cells
      go_wp2_with fail
      refine HSP.out.mono ?_
      clear k0 k1 k2 k3 k4 f0 f1 f2 f3 f4 HSP
      rintro e W10 ⟨⟨v10, rfl⟩, ht10⟩
      have HT10 := hide (HT.out.trans ht10)
      clear ht10 HT
      have HSP := hide (spoil_any (lf := l2) (nx := x2) (HSB.out.keep HT10.out) (HB7.out _ HT10.out))
      go_upto_region 12 with fail
      obtain ⟨k0, k1, k2, k3, k4, f0, f1, f2, f3, f4⟩ := (HT10.out.box HXB.out (by decide)).cells
      go_wp2_with fail
      refine HSP.out.mono ?_
      clear k0 k1 k2 k3 k4 f0 f1 f2 f3 f4 HSP
      rintro e W11 ⟨⟨v11, rfl⟩, ht11⟩
      have HL11 := hide (HL7.out.next (HQ9.out.trans (HT10.out.trans ht11).below))
      clear ht11 HT10 HSA HSB HSS HXA HXB HQ9 HB7 HL7
      go_upto_region 13 with fail
      have HMG := hide (merge_self HL11.out.nd HF.out HL11.out.k HKL.out)
      obtain ⟨k0, k1, k2, k3, k4, f0, f1, f2, f3, f4⟩ := HL11.out.nb.cells
      go_wp2_with fail
      refine HMG.out.mono ?_
      clear k0 k1 k2 k3 k4 f0 f1 f2 f3 f4 HMG
      rintro e W12 ⟨lm, m1, m2, m3, xm, rfl, hq12, hsh⟩
      obtain ⟨m1, mn1, mc1, e1, _, _⟩ := hsh.keys
      obtain ⟨m2, mn2, mc2, e2, _, _⟩ := hsh.vals
      obtain ⟨m3, mn3, mc3, e3, _, _⟩ := hsh.kids
      subst e1 e2 e3
      have HSP := hide (spoil_any (lf := lm) (nx := xm) hsh hq12.size)
      go_wp2_with fail
      refine HSP.out.mono ?_
      rintro e W13 ⟨⟨v13, rfl⟩, ht13⟩
      have HLZ := hide (HL11.out.next (hq12.trans ht13.below))
      clear HSP hsh hq12 ht13 HL11
      go_upto_region 14 with fail
      refine wp_region_held_drew (S := fun w' => Below W13.heap.size W13 w') (by kernel_rfl) (below_drewN _ _ 1) (fun hH => ?_)
      refine take_to 0 62 (.agg #[.bool N.leaf, .slice ak N.keys.length ck, .slice av N.vals.length cv, .slice ai N.kids.length ci, .int .i64 N.next]) rfl (by kernel_rfl) (by kernel_rfl) (by kernel_rfl) (fun _ _ _ h => h) rfl (by rfl) (fun w hw => op_load _ _ 26 (.tmp 3) rfl (.pointer (some ⟨_, 0, none⟩)) _ rfl (load26 (HLZ.out.nb.belowW hw))) hH ?_
      simp only [Act.put, List.setIfInBounds_toArray, List.set_cons_zero, List.set_cons_succ]
      refine take_to 2 64 (.agg #[.bool N.leaf, .slice u1 N.keys.length d1, .slice u2 N.vals.length d2, .slice ai N.kids.length ci, .int .i64 N.next]) rfl (by kernel_rfl) (by kernel_rfl) (by kernel_rfl) (fun _ _ _ h => h) rfl (by rfl) (fun w hw => op_load _ _ 43 (.tmp 7) rfl (.pointer (some ⟨_, 0, none⟩)) _ rfl (load43' (HLZ.out.wb.belowW hw))) hH ?_
      simp only [Act.put, List.setIfInBounds_toArray, List.set_cons_zero, List.set_cons_succ]
      have HTO := hide (to_any (HLZ.out.nd.belowW hH) HF.out.fits)
      refine step_call1_to 1 63 17 rfl (by kernel_rfl) rfl (by rfl) (.tmp 62) _ rfl _ rfl Try.enters17 HTO.out ?_
      rintro e T1 ⟨r1, r2, rfl, hq1, hr1⟩
      have hT1 := hH.trans (hq1.mono hH.size)
      refine ⟨_, rfl, hT1, ?_⟩
      simp only [Act.put, List.setIfInBounds_toArray, List.set_cons_zero, List.set_cons_succ]
      have HSM := hide (same_any hr1 (HLZ.out.rd.belowW hT1) HF.out.fits)
      refine step_call2_to 3 65 16 rfl (by kernel_rfl) rfl (by rfl) (.tmp 63) (.tmp 64) _ rfl _ _ rfl rfl Try.enters16 HSM.out ?_
      rintro e T2 ⟨rfl, hq2⟩
      have hT2 := hT1.trans (hq2.mono hT1.size)
      refine ⟨_, rfl, hT2, ?_⟩
      simp only [Act.put, List.setIfInBounds_toArray, List.set_cons_zero, List.set_cons_succ]
      refine take_to 4 66 (.bool true) rfl (by kernel_rfl) (by kernel_rfl) (by kernel_rfl) (fun _ _ _ h => h) rfl (by rfl) (fun w hw => by rfl) hT2 ?_
      simp only [Act.put, List.setIfInBounds_toArray, List.set_cons_zero, List.set_cons_succ]
      refine step_call0_to 5 67 11 rfl (by kernel_rfl) rfl (by rfl) _ rfl Try.enters11 (awake_any T2) ?_
      rintro e T4 ⟨rfl, hq4⟩
      have hT4 := hT2.trans (hq4.mono hT2.size)
      refine ⟨_, rfl, hT4, ?_⟩
      simp only [Act.put, List.setIfInBounds_toArray, List.set_cons_zero, List.set_cons_succ]
      refine step_to 6 68 (.bool true) T4 rfl (by kernel_rfl) rfl (by rfl) (by rfl) hT4 ?_
      simp only [Act.put, List.setIfInBounds_toArray, List.set_cons_zero, List.set_cons_succ]
      refine step_to 7 6 (.bool true) T4 rfl (by kernel_rfl) rfl (by rfl) (by rfl) hT4 ?_
      simp only [Act.put, List.setIfInBounds_toArray, List.set_cons_zero, List.set_cons_succ]
      refine wpAnyH_done (by kernel_rfl) ?_ _
      have HEND := hide (HLZ.out.below.trans (hT4.mono HLZ.out.below.size))
      clear hT4 hT2 hT1 hH hr1 hq1 hq2 hq4
      go_wp2
      go_ret
      exact ⟨rfl, HEND.out⟩
theorem lent_all {w : World} {N : Nd} {vk vv vi kv yv : Value} {K V : List UInt8} (h : NdAt w N vk vv vi) (hf : Fits N ∧ (N.keys.length + 1) * 24 ≤ 140737488355328 ∧ (N.vals.length + 1) * 24 ≤ 140737488355328) (hk : Sl w kv K) (hkl : K.length ≤ 140737488355328) (hy : Sl w yv V) (hyl : V.length ≤ 140737488355328) :
    Calls Try.prog 8 #[.agg #[.bool N.leaf, vk, vv, vi, .int .i64 N.next], kv, yv] w fun e w' => e = .returned (.bool true) ∧ Below w.heap.size w w' := lent_walk h ⟨hf.1, hf.2.1, hf.2.2⟩ hk hkl hy hyl
end Go.Proofs.Ytjcobejaldfibaa
