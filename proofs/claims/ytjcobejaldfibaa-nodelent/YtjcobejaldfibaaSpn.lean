/- Split where nothing is cut. -/
import Derived.Test.YtjcobejaldfibaaSpl
namespace Go.Proofs.Ytjcobejaldfibaa
open Go.RowKit
set_option linter.unusedVariables false
set_option linter.unusedSimpArgs false

set_option maxHeartbeats 1000000 in
theorem split_no {w : World} {N : Nd} {vk vv vi : Value} (h : NdAt w N vk vv vi) (hf : Fits N) (hh : N.half = 0 ∨ N.matched = false) :
    Calls Try.prog 13 #[.agg #[.bool N.leaf, vk, vv, vi, .int .i64 N.next]] w (SplitEnd w N [] ⟨true, [], [], [], 0⟩) := by
  have HM : Hid (∀ W, Below w.heap.size w W → Calls Try.prog 27 #[.agg #[.bool N.leaf, vk, vv, vi, .int .i64 N.next]] W fun e w' => e = .returned (.bool N.matched) ∧ Below W.heap.size W w') := fun W hW => matched_any (h.belowW hW) hf
  have HC : Hid (∀ W, Below w.heap.size w W → w.heap.size + 1 + 1 + 1 ≤ W.heap.size → Calls Try.prog 26 #[.agg #[.bool N.leaf, vk, vv, vi, .int .i64 N.next]] W fun e w' => ∃ lk lv li, e = .returned (.agg #[.bool N.leaf, lk, lv, li, .int .i64 N.next]) ∧ Below W.heap.size W w' ∧ NdOwn (w.heap.size + 1 + 1 + 1) w' N lk lv li) := fun W hW hr => (copied_any (h.belowW hW) hf).mono (fun e w' ⟨p, q, r, e1, e2, e3⟩ => ⟨p, q, r, e1, e2, e3.mono hr⟩)
  obtain ⟨ak, ck, rfl, hk1, hk2⟩ := h.keys.len
  obtain ⟨av, cv, rfl, hv1, hv2⟩ := h.vals.len
  obtain ⟨ai, ci, rfl, hi1, hi2⟩ := h.kids.len
  have hhd : ((N.keys.length : Int)).tdiv 2 = (N.half : Int) := by rw [Int.tdiv_eq_ediv_of_nonneg (by omega)]; unfold Nd.half; omega
  have hwr : wrap64 (N.half : Int) = (N.half : Int) := by unfold wrap64; have := hf.keys; have : N.half ≤ N.keys.length := Nat.div_le_self _ _; omega
  have H3 := hide (three w (.bool N.leaf) (.slice ak N.keys.length ck) (.slice av N.vals.length cv) (.slice ai N.kids.length ci) (.int .i64 N.next))
  have HTAIL : Hid (∀ (U : World) (lk lv li : Value), Below w.heap.size w U → Box 26 U (w.heap.size + 1) (.bool false) (.slice none 0 0) (.slice none 0 0) (.slice none 0 0) (.int .i64 0) → Box 26 U (w.heap.size + 1 + 1) (.bool false) (.slice none 0 0) (.slice none 0 0) (.slice none 0 0) (.int .i64 0) → NdOwn (w.heap.size + 1 + 1 + 1) U N lk lv li → SplitEnd w N [] ⟨true, [], [], [], 0⟩ (.returned (.tuple #[.agg #[.bool N.leaf, lk, lv, li, .int .i64 N.next], .slice none 0 0, .agg #[.bool true, .slice none 0 0, .slice none 0 0, .slice none 0 0, .int .i64 0]])) (((((((((((U.setCell ⟨w.heap.size + 1, 0, none⟩ (.bool N.leaf)).setCell ⟨w.heap.size + 1, 1, none⟩ lk).setCell ⟨w.heap.size + 1, 2, none⟩ lv).setCell ⟨w.heap.size + 1, 3, none⟩ li).setCell ⟨w.heap.size + 1, 4, none⟩ (.int .i64 N.next)).setCell ⟨w.heap.size + 1 + 1, 0, none⟩ (.bool true)).setCell ⟨w.heap.size + 1 + 1, 1, none⟩ (.slice none 0 0)).setCell ⟨w.heap.size + 1 + 1, 2, none⟩ (.slice none 0 0)).setCell ⟨w.heap.size + 1 + 1, 3, none⟩ (.slice none 0 0)).setCell ⟨w.heap.size + 1 + 1, 4, none⟩ (.int .i64 0)))) := fun U lk lv li hb hy hz ho => by
    have hb1 := below_setAll hb (w.heap.size + 1) (.bool N.leaf) lk lv li (.int .i64 N.next) (by omega) hb.size
    have hb2 := below_setAll hb1 (w.heap.size + 1 + 1) (.bool true) (.slice none 0 0) (.slice none 0 0) (.slice none 0 0) (.int .i64 0) (by omega) (by simpa [size_set] using hb.size)
    refine ⟨_, _, _, _, _, _, _, rfl, hb2, (ho.keep (fun k hk => ?_)).mono (by omega), World.ownsRow_nil _ _ _ _, ⟨TsOwn.nil _ _, TsOwn.nil _ _, World.ownsRow_nil _ _ _ _, fun k hk => by simp [Value.ownBlock] at hk⟩⟩
    simp only [set_stay _ _ _ (show k ≠ w.heap.size + 1 by omega), set_stay _ _ _ (show k ≠ w.heap.size + 1 + 1 by omega)]
  have HF := hide hf
  clear h hf hk1 hk2 hv1 hv2 hi1 hi2
  generalize hnk : N.keys.length = nk at *
  generalize N.vals.length = nv at *
  generalize N.kids.length = ni at *
  generalize hlf : N.leaf = lf at *
  generalize hx : N.next = x at *
  generalize hmm : N.matched = mm at *
  generalize hhf : N.half = hf at *
  clear hnk hmm hhf
  go_enter Try.func13, Try.ntmps13
  go_upto_region 1 with fail
  generalize (((w.alloc (.cells #[.bool lf, .slice ak nk ck, .slice av nv cv, .slice ai ni ci, .int .i64 x] 26)).alloc (.cells #[.bool false, .slice none 0 0, .slice none 0 0, .slice none 0 0, .int .i64 0] 26)).alloc (.cells #[.bool false, .slice none 0 0, .slice none 0 0, .slice none 0 0, .int .i64 0] 26)) = W0 at *
  by_cases h0 : hf = 0
  · subst h0
    have h00 : (((0 : Nat) : Int) == 0) = true := rfl
    obtain ⟨k0, k1, k2, k3, k4, f0, f1, f2, f3, f4⟩ := H3.out.x.cells
    have HX1 := H3
    have HW := hide H3.out.below
    go_upto_region 3 with fail
    go_wp2_with fail
    refine (HC.out W0 H3.out.below H3.out.z.lt).mono ?_
    rintro e U ⟨lk, lv, li, rfl, hb, ho⟩
    have hbU := H3.out.below.trans (hb.mono H3.out.below.size)
    have hy := H3.out.y.belowW hb
    have hz := H3.out.z.belowW hb
    have HQ := hide (HTAIL.out U lk lv li hbU hy hz ho)
    have HY := hide (hy.setAll (.bool lf) lk lv li (.int .i64 x))
    have HZ := hide ((hz.setOther (.bool lf) lk lv li (.int .i64 x) (show w.heap.size + 1 + 1 ≠ w.heap.size + 1 by omega)).setAll (.bool true) (.slice none 0 0) (.slice none 0 0) (.slice none 0 0) (.int .i64 0))
    have HY2 := hide (HY.out.setOther (.bool true) (.slice none 0 0) (.slice none 0 0) (.slice none 0 0) (.int .i64 0) (show w.heap.size + 1 ≠ w.heap.size + 1 + 1 by omega))
    obtain ⟨a1, c1, e1⟩ := owns_len (Classical.choose_spec ho.keys.out).2
    obtain ⟨a2, c2, e2⟩ := owns_len (Classical.choose_spec ho.vals.out).2
    obtain ⟨a3, c3, e3⟩ := owns_len ho.kids
    subst e1 e2 e3
    clear k0 k1 k2 k3 k4 f0 f1 f2 f3 f4 hb ho
    obtain ⟨j0, j1, j2, j3, j4, g0, g1, g2, g3, g4⟩ := hy.cells
    obtain ⟨i0, i1, i2, i3, i4, q0, q1, q2, q3, q4⟩ := hz.cells
    clear hy hz hbU
    go_wp2
    refine bodyPost_ret (results_ctc Try.results13 _ _ (w.heap.size + 1) (w.heap.size + 1 + 1) 26 26 _ _ (0, 0) (0, 0) _ rfl HY2.out.heap rfl HZ.out.heap Try.underlying26 rfl Try.size26 Try.size26) rfl ?_
    exact HQ.out
  · have hm0 : mm = false := hh.resolve_left h0
    subst hm0
    have hh0 : ¬ ((hf : Int) = 0) := by omega
    obtain ⟨k0, k1, k2, k3, k4, f0, f1, f2, f3, f4⟩ := H3.out.x.cells
    go_wp2_with fail
    refine (HM.out W0 H3.out.below).mono ?_
    rintro e W1 ⟨rfl, hb1⟩
    have H3' : Hid (Three w W1 (.bool lf) (.slice ak nk ck) (.slice av nv cv) (.slice ai ni ci) (.int .i64 x)) := ⟨H3.out.below.trans (hb1.mono H3.out.below.size), H3.out.x.belowW hb1, H3.out.y.belowW hb1, H3.out.z.belowW hb1⟩
    clear H3 hb1 k0 k1 k2 k3 k4 f0 f1 f2 f3 f4
    obtain ⟨k0, k1, k2, k3, k4, f0, f1, f2, f3, f4⟩ := H3'.out.x.cells
    go_upto_region 3 with fail
    go_wp2_with fail
    refine (HC.out W1 H3'.out.below H3'.out.z.lt).mono ?_
    rintro e U ⟨lk, lv, li, rfl, hb, ho⟩
    have hbU := H3'.out.below.trans (hb.mono H3'.out.below.size)
    have hy := H3'.out.y.belowW hb
    have hz := H3'.out.z.belowW hb
    have HQ := hide (HTAIL.out U lk lv li hbU hy hz ho)
    have HY := hide (hy.setAll (.bool lf) lk lv li (.int .i64 x))
    have HZ := hide ((hz.setOther (.bool lf) lk lv li (.int .i64 x) (show w.heap.size + 1 + 1 ≠ w.heap.size + 1 by omega)).setAll (.bool true) (.slice none 0 0) (.slice none 0 0) (.slice none 0 0) (.int .i64 0))
    have HY2 := hide (HY.out.setOther (.bool true) (.slice none 0 0) (.slice none 0 0) (.slice none 0 0) (.int .i64 0) (show w.heap.size + 1 ≠ w.heap.size + 1 + 1 by omega))
    obtain ⟨a1, c1, e1⟩ := owns_len (Classical.choose_spec ho.keys.out).2
    obtain ⟨a2, c2, e2⟩ := owns_len (Classical.choose_spec ho.vals.out).2
    obtain ⟨a3, c3, e3⟩ := owns_len ho.kids
    subst e1 e2 e3
    clear k0 k1 k2 k3 k4 f0 f1 f2 f3 f4 hb ho
    obtain ⟨j0, j1, j2, j3, j4, g0, g1, g2, g3, g4⟩ := hy.cells
    obtain ⟨i0, i1, i2, i3, i4, q0, q1, q2, q3, q4⟩ := hz.cells
    clear hy hz hbU
    go_wp2
    refine bodyPost_ret (results_ctc Try.results13 _ _ (w.heap.size + 1) (w.heap.size + 1 + 1) 26 26 _ _ (0, 0) (0, 0) _ rfl HY2.out.heap rfl HZ.out.heap Try.underlying26 rfl Try.size26 Try.size26) rfl ?_
    exact HQ.out
end Go.Proofs.Ytjcobejaldfibaa
