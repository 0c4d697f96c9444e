/- What NodeLent leans on. -/
import Derived.Test.YtjcobejaldfibaaSpo
import Derived.Test.YtjcobejaldfibaaSpn
import Derived.Test.YtjcobejaldfibaaSpi
import Derived.Test.YtjcobejaldfibaaMgb
import Derived.Test.YtjcobejaldfibaaMib
import Derived.Test.YtjcobejaldfibaaFdp
import Derived.Test.YtjcobejaldfibaaAwa
import Derived.Test.YtjcobejaldfibaaSam
namespace Go.Proofs.Ytjcobejaldfibaa
open Go.RowKit
set_option linter.unusedVariables false
set_option linter.unusedSimpArgs false

/-- A node with room for one more. -/
structure Rom (N : Nd) : Prop where
  fits : Fits N
  rk : (N.keys.length + 1) * 24 ≤ 140737488355328
  rv : (N.vals.length + 1) * 24 ≤ 140737488355328
theorem Rom.merge {N : Nd} {K : List UInt8} (h : Rom N) (hk : K.length ≤ 140737488355328) (hm : N.matched = true) : FitsB (mergeN N K N) := by
  have h1 := h.rk
  have h2 := h.rv
  refine ⟨?_, ?_, ?_, fun k hm => ?_, fun k hm => ?_⟩
  · unfold mergeN
    simp only [List.length_append]
    split <;> simp <;> omega
  · unfold mergeN
    simp only [List.length_append]
    omega
  · unfold mergeN
    simp only [List.length_append]
    unfold Nd.matched at hm
    split at hm
    · simp at hm
      obtain ⟨_, h3⟩ := hm
      first | omega | (rw [h3]; simp)
    · simp at hm
      omega
  · unfold mergeN at hm
    simp only [List.mem_append] at hm
    rcases hm with hm | hm | hm
    · exact h.fits.key k hm
    · split at hm
      · simp at hm
      · simp at hm
        subst hm
        exact hk
    · exact h.fits.key k hm
  · unfold mergeN at hm
    simp only [List.mem_append] at hm
    rcases hm with hm | hm
    · exact h.fits.val k hm
    · exact h.fits.val k hm
theorem fitsL {N : Nd} (h : Fits N) : Fits N.left := by
  unfold Nd.left
  split
  · exact fits_part h true N.half N.half 0 [] 0 _ _ (.inl rfl) (.inl rfl) (by simp)
  · exact fits_part h false N.half 0 0 _ 0 _ _ (.inl rfl) (.inl (by simp)) (by simp; omega)
theorem fitsR {N : Nd} (h : Fits N) : Fits N.right := by
  unfold Nd.right
  split
  · exact fits_part h true N.half N.half 0 [] N.next _ _ (.inr rfl) (.inr rfl) (by simp)
  · exact fits_part h false (N.half + 1) 0 0 _ N.next _ _ (.inr rfl) (.inl (by simp)) (by simp)
theorem key_len {N : Nd} (h : Fits N) : N.key.length ≤ 140737488355328 := by
  unfold Nd.key
  rw [List.getD_eq_getElem?_getD]
  cases e : N.keys[N.half]? with
  | none => simp
  | some k => exact h.key k (List.mem_of_getElem? e)
set_option maxHeartbeats 1000000 in
theorem merge_no {w : World} {N : Nd} {vk vv vi kv : Value} {K : List UInt8} (h : NdAt w N vk vv vi) (hf : Fits N) (hk : Sl w kv K) (hm : N.matched = false) :
    Calls Try.prog 14 #[.agg #[.bool N.leaf, vk, vv, vi, .int .i64 N.next], kv, .agg #[.bool N.leaf, vk, vv, vi, .int .i64 N.next]] w fun e w' => ∃ ok ov oi, e = .returned (.agg #[.bool N.leaf, ok, ov, oi, .int .i64 N.next]) ∧ Below w.heap.size w w' ∧ NdOwn w.heap.size w' N ok ov oi := by
  have HML : Hid (∀ W, Below w.heap.size w W → Calls Try.prog 27 #[.agg #[.bool N.leaf, vk, vv, vi, .int .i64 N.next]] W fun e w' => e = .returned (.bool false) ∧ Below W.heap.size W w') := fun W hW => by
    have := matched_any (h.belowW hW) hf
    rw [hm] at this
    exact this
  have HC : Hid (∀ W, Below w.heap.size w W → w.heap.size + 1 + 1 + 1 ≤ W.heap.size → Calls Try.prog 26 #[.agg #[.bool N.leaf, vk, vv, vi, .int .i64 N.next]] W fun e w' => ∃ lk lv li, e = .returned (.agg #[.bool N.leaf, lk, lv, li, .int .i64 N.next]) ∧ Below W.heap.size W w' ∧ NdOwn (w.heap.size + 1 + 1 + 1) w' N lk lv li) := fun W hW hr => (copied_any (h.belowW hW) hf).mono (fun e w' ⟨p, q, r, e1, e2, e3⟩ => ⟨p, q, r, e1, e2, e3.mono hr⟩)
  obtain ⟨ak, ck, rfl, hk1, hk2⟩ := h.keys.len
  obtain ⟨av, cv, rfl, hv1, hv2⟩ := h.vals.len
  obtain ⟨ai, ci, rfl, hi1, hi2⟩ := h.kids.len
  have HST := hide (mgSt_new w (.bool N.leaf) (.slice ak N.keys.length ck) (.slice av N.vals.length cv) (.slice ai N.kids.length ci) (.int .i64 N.next) (.bool N.leaf) (.slice ak N.keys.length ck) (.slice av N.vals.length cv) (.slice ai N.kids.length ci) (.int .i64 N.next))
  clear h hf hk hm hk1 hk2 hv1 hv2 hi1 hi2
  generalize N.keys.length = nk at *
  generalize N.vals.length = nv at *
  generalize N.kids.length = ni at *
  generalize N.next = x at *
  generalize N.leaf = lf at *
  go_enter Try.func14, Try.ntmps14
  go_upto_region 1 with fail
  generalize (((w.alloc (.cells #[.bool lf, .slice ak nk ck, .slice av nv cv, .slice ai ni ci, .int .i64 x] 26)).alloc (.cells #[.bool lf, .slice ak nk ck, .slice av nv cv, .slice ai ni ci, .int .i64 x] 26)).alloc (.cells #[.bool false, .slice none 0 0, .slice none 0 0, .slice none 0 0, .int .i64 0] 26)) = W0 at *
  obtain ⟨k0, k1, k2, k3, k4, f0, f1, f2, f3, f4⟩ := HST.out.x.cells
  obtain ⟨j0, j1, j2, j3, j4, g0, g1, g2, g3, g4⟩ := HST.out.y.cells
  have hbb : (lf != lf) = false := by cases lf <;> rfl
  go_wp2_with fail
  refine (HML.out W0 HST.out.below).mono ?_
  rintro e W1 ⟨rfl, hb1⟩
  have HS1 := hide (HST.out.next hb1)
  clear k0 k1 k2 k3 k4 f0 f1 f2 f3 f4 j0 j1 j2 j3 j4 g0 g1 g2 g3 g4 hb1 HST HML
  obtain ⟨k0, k1, k2, k3, k4, f0, f1, f2, f3, f4⟩ := HS1.out.x.cells
  go_wp2_with fail
  refine (HC.out W1 HS1.out.below (by have := HS1.out.z.lt; omega)).mono ?_
  rintro e U ⟨lk, lv, li, rfl, hb, ho⟩
  have HZ := hide (HS1.out.z.belowW hb)
  have HB := hide (HS1.out.below.trans (hb.mono HS1.out.below.size))
  have HO := hide ho
  obtain ⟨a1, c1, e1⟩ := owns_len (Classical.choose_spec ho.keys.out).2
  obtain ⟨a2, c2, e2⟩ := owns_len (Classical.choose_spec ho.vals.out).2
  obtain ⟨a3, c3, e3⟩ := owns_len ho.kids
  generalize N.keys.length = m1 at e1
  generalize N.vals.length = m2 at e2
  generalize N.kids.length = m3 at e3
  subst e1 e2 e3
  clear k0 k1 k2 k3 k4 f0 f1 f2 f3 f4 hb ho HS1
  obtain ⟨i0, i1, i2, i3, i4, q0, q1, q2, q3, q4⟩ := HZ.out.cells
  go_wp2
  refine bodyPost_ret (v := .agg #[.bool lf, .slice a1 m1 c1, .slice a2 m2 c2, .slice a3 m3 c3, .int .i64 x]) (results_cell_row Try.results14 _ _ (w.heap.size + 1 + 1) 26 #[.bool lf, .slice a1 m1 c1, .slice a2 m2 c2, .slice a3 m3 c3, .int .i64 x] (0, 0) _ rfl (HZ.out.setAll _ _ _ _ _).heap Try.underlying26 rfl Try.size26) rfl ?_
  refine ⟨_, _, _, rfl, below_setAll HB.out (w.heap.size + 1 + 1) _ _ _ _ _ (by omega) HB.out.size, (HO.out.keep (fun k hk => ?_)).mono (by omega)⟩
  simp only [set_stay _ _ _ (show k ≠ w.heap.size + 1 + 1 by omega)]
/-- Merge of a node with itself. -/
theorem merge_self {w : World} {N : Nd} {vk vv vi kv : Value} {K : List UInt8} (h : NdAt w N vk vv vi) (hf : Rom N) (hk : Sl w kv K) (hl : K.length ≤ 140737488355328) :
    Calls Try.prog 14 #[.agg #[.bool N.leaf, vk, vv, vi, .int .i64 N.next], kv, .agg #[.bool N.leaf, vk, vv, vi, .int .i64 N.next]] w fun e w' => ∃ lf ok ov oi x, e = .returned (.agg #[.bool lf, ok, ov, oi, .int .i64 x]) ∧ Below w.heap.size w w' ∧ NdSh w.heap.size w' ok ov oi := by
  cases hm : N.matched with
  | false => exact (merge_no h hf.fits hk hm).mono (fun e w' ⟨ok, ov, oi, e1, e2, e3⟩ => ⟨_, ok, ov, oi, _, e1, e2, NdSh.of e3 hf.fits⟩)
  | true =>
    cases hlf : N.leaf with
    | true =>
      have := merge_leafB h h hf.fits hf.fits (hf.merge hl hm) hk hlf hlf hm hm
      rw [hlf] at this
      exact this.mono (fun e w' ⟨ok, ov, oi, e1, e2, e3⟩ => ⟨_, ok, ov, oi, _, e1, e2, NdSh.ofB e3 (hf.merge hl hm)⟩)
    | false =>
      have := merge_innerB h h hf.fits hf.fits (hf.merge hl hm) hk hlf hlf hm hm
      rw [hlf] at this
      exact this.mono (fun e w' ⟨ok, ov, oi, e1, e2, e3⟩ => ⟨_, ok, ov, oi, _, e1, e2, NdSh.ofB e3 (hf.merge hl hm)⟩)
/-- Split of any node, by shape. -/
theorem split_sh {w : World} {N : Nd} {vk vv vi : Value} (h : NdAt w N vk vv vi) (hf : Fits N) :
    Calls Try.prog 13 #[.agg #[.bool N.leaf, vk, vv, vi, .int .i64 N.next]] w fun e w' => ∃ l1 a1 b1 c1 x1 s l2 a2 b2 c2 x2, e = .returned (.tuple #[.agg #[.bool l1, a1, b1, c1, .int .i64 x1], s, .agg #[.bool l2, a2, b2, c2, .int .i64 x2]]) ∧ Below w.heap.size w w' ∧ NdSh w.heap.size w' a1 b1 c1 ∧ BySh w.heap.size w' s ∧ NdSh w.heap.size w' a2 b2 c2 := by
  have fin : ∀ (L R : Nd) (k : List UInt8) (e : Ending) (w' : World), Fits L → Fits R → k.length ≤ 140737488355328 → SplitEnd w L k R e w' → ∃ l1 a1 b1 c1 x1 s l2 a2 b2 c2 x2, e = .returned (.tuple #[.agg #[.bool l1, a1, b1, c1, .int .i64 x1], s, .agg #[.bool l2, a2, b2, c2, .int .i64 x2]]) ∧ Below w.heap.size w w' ∧ NdSh w.heap.size w' a1 b1 c1 ∧ BySh w.heap.size w' s ∧ NdSh w.heap.size w' a2 b2 c2 := fun L R k e w' hL hR hk hE => by
    obtain ⟨ak, av, ai, uk, bk, bv, bi, e1, e2, e3, e4, e5⟩ := hE.out
    exact ⟨_, _, _, _, _, _, _, _, _, _, _, e1, e2, NdSh.of e3 hL, BySh.of e4 hk, NdSh.of e5 hR⟩
  by_cases hh : N.half = 0 ∨ N.matched = false
  · exact (split_no h hf hh).mono (fun e w' hE => fin _ _ _ e w' hf ⟨by decide, by decide, by decide, fun k hk => (by cases hk), fun k hk => (by cases hk)⟩ (by simp) hE)
  · have h1 : N.half ≠ 0 := fun e => hh (.inl e)
    have h2 : N.matched = true := by cases e : N.matched with
      | true => rfl
      | false => exact absurd (.inr e) hh
    cases hlf : N.leaf with
    | true => exact (split_leaf h hf h1 h2 hlf).mono (fun e w' hE => fin _ _ _ e w' (fitsL hf) (fitsR hf) (key_len hf) hE)
    | false => exact (split_inner h hf h1 h2 hlf).mono (fun e w' hE => fin _ _ _ e w' (fitsL hf) (fitsR hf) (key_len hf) hE)
/-- Where the law stands. -/
structure LS (w W : World) (N : Nd) (vk vv vi kv yv : Value) (K V : List UInt8) (bw : Nat) (uk uv : Value) : Prop where
  below : Below w.heap.size w W
  nb : Box 26 W w.heap.size (.bool N.leaf) vk vv vi (.int .i64 N.next)
  nd : NdAt W N vk vv vi
  k : Sl W kv K
  v : Sl W yv V
  wb : Box 43 W bw (.bool N.leaf) uk uv vi (.int .i64 N.next)
  rd : RdAt W N uk uv vi
theorem LS.next {w W W' : World} {N : Nd} {vk vv vi kv yv : Value} {K V : List UInt8} {bw : Nat} {uk uv : Value} (h : LS w W N vk vv vi kv yv K V bw uk uv) (hb : Below W.heap.size W W') : LS w W' N vk vv vi kv yv K V bw uk uv :=
  ⟨h.below.trans (hb.mono h.below.size), h.nb.belowW hb, h.nd.belowW hb, h.k.belowW hb, h.v.belowW hb, h.wb.belowW hb, h.rd.belowW hb⟩
end Go.Proofs.Ytjcobejaldfibaa
