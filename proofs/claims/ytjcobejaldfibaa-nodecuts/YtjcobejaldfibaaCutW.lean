/- NodeCuts at every node. -/
import Derived.Test.YtjcobejaldfibaaCut
namespace Go.Proofs.Ytjcobejaldfibaa
open Go.RowKit
set_option linter.unusedVariables false
set_option linter.unusedSimpArgs false

set_option maxHeartbeats 1000000 in
set_option maxRecDepth 100000 in
theorem cuts_walk {w : World} {N : Nd} {vk vv vi : Value} (h : NdAt w N vk vv vi) (hf : Fits N) :
    Calls Try.prog 4 #[.agg #[.bool N.leaf, vk, vv, vi, .int .i64 N.next]] w fun e w' => e = .returned (.bool true) ∧ Below w.heap.size w w' := by
  by_cases hall : N.sound = true ∧ N.leaf = true ∧ 4 ≤ N.keys.length
  · rw [hall.2.1]
    exact cuts_main h hf hall.1 hall.2.1 hall.2.2
  · have HFIT : Hid (∀ W, Below w.heap.size w W → Calls Try.prog 12 #[.agg #[.bool N.leaf, vk, vv, vi, .int .i64 N.next]] W fun e w' => e = .returned (.bool N.sound) ∧ Below W.heap.size W w') := fun W hW => lfit_any (h.belowW hW) hf
    have HAW := hide awake_any
    obtain ⟨ak, ck, rfl, _, _⟩ := h.keys.len
    obtain ⟨av, cv, rfl, _, _⟩ := h.vals.len
    obtain ⟨ai, ci, rfl, _, _⟩ := h.kids.len
    have hk3 := hf.keys
    have HB0 : Hid (Below w.heap.size w (w.alloc (.cells #[.bool N.leaf, .slice ak N.keys.length ck, .slice av N.vals.length cv, .slice ai N.kids.length ci, .int .i64 N.next] 26))) := (Below.refl _ _).alloc (Nat.le_refl _) _
    have HX0 := hide (Box.new (t := 26) w (.bool N.leaf) (.slice ak N.keys.length ck) (.slice av N.vals.length cv) (.slice ai N.kids.length ci) (.int .i64 N.next))
    clear h hf
    generalize N.keys.length = nk at *
    generalize N.vals.length = nv at *
    generalize N.kids.length = ni at *
    generalize N.leaf = lf at *
    generalize N.sound = sd at *
    generalize N.next = x at *
    go_enter Try.func4, Try.ntmps4
    go_upto_region 1 with fail
    generalize (w.alloc (.cells #[.bool lf, .slice ak nk ck, .slice av nv cv, .slice ai ni ci, .int .i64 x] 26)) = W0 at *
    obtain ⟨k0, k1, k2, k3, k4, f0, f1, f2, f3, f4⟩ := HX0.out.cells
    go_wp2_with fail
    refine (HFIT.out W0 HB0.out).mono ?_
    rintro e W1 ⟨rfl, hb1⟩
    have HB1 := hide (HB0.out.trans (hb1.mono HB0.out.size))
    have HX1 := hide (HX0.out.belowW hb1)
    have HA1 := hide (HAW.out W1)
    clear hb1 k0 k1 k2 k3 k4 f0 f1 f2 f3 f4 HX0 HB0 HFIT
    obtain ⟨k0, k1, k2, k3, k4, f0, f1, f2, f3, f4⟩ := HX1.out.cells
    cases sd with
    | false =>
      go_wp2_with (go_at_call 11; refine HA1.out.mono ?_; rintro e W2 ⟨rfl, hb2⟩)
      go_ret
      exact ⟨rfl, HB1.out.trans (hb2.mono HB1.out.size)⟩
    | true =>
      cases lf with
      | false =>
        go_wp2_with (go_at_call 11; refine HA1.out.mono ?_; rintro e W2 ⟨rfl, hb2⟩)
        go_ret
        exact ⟨rfl, HB1.out.trans (hb2.mono HB1.out.size)⟩
      | true =>
        have h4 : nk < 4 := by
          rcases Nat.lt_or_ge nk 4 with h | h
          · exact h
          · exact absurd ⟨rfl, rfl, h⟩ hall
        go_wp2_with (go_at_call 11; refine HA1.out.mono ?_; rintro e W2 ⟨rfl, hb2⟩)
        go_ret
        exact ⟨rfl, HB1.out.trans (hb2.mono HB1.out.size)⟩
end Go.Proofs.Ytjcobejaldfibaa
