/- Nodes in memory; matched, copied. -/
import Derived.Test.YtjcobejaldfibaaCpt
namespace Go.Proofs.Ytjcobejaldfibaa
open Go.RowKit
set_option linter.unusedVariables false
set_option linter.unusedSimpArgs false

/-- A box that holds a node. -/
structure Box (t : TypeId) (w : World) (b : Nat) (c0 c1 c2 c3 c4 : Value) : Prop where
  heap : w.heap[b]? = some (.cells #[c0, c1, c2, c3, c4] t (0, 0))
structure BoxC (w : World) (b : Nat) (c0 c1 c2 c3 c4 : Value) : Prop where
  k0 : w.cell? ⟨b, 0, none⟩ = some c0
  k1 : w.cell? ⟨b, 1, none⟩ = some c1
  k2 : w.cell? ⟨b, 2, none⟩ = some c2
  k3 : w.cell? ⟨b, 3, none⟩ = some c3
  k4 : w.cell? ⟨b, 4, none⟩ = some c4
  f0 : w.frozen? ⟨b, 0, none⟩ = false
  f1 : w.frozen? ⟨b, 1, none⟩ = false
  f2 : w.frozen? ⟨b, 2, none⟩ = false
  f3 : w.frozen? ⟨b, 3, none⟩ = false
  f4 : w.frozen? ⟨b, 4, none⟩ = false
theorem Box.cells {t : TypeId} {w : World} {b : Nat} {c0 c1 c2 c3 c4 : Value} (h : Box t w b c0 c1 c2 c3 c4) : BoxC w b c0 c1 c2 c3 c4 :=
  ⟨by rw [cell_row h.heap]; rfl, by rw [cell_row h.heap]; rfl, by rw [cell_row h.heap]; rfl, by rw [cell_row h.heap]; rfl, by rw [cell_row h.heap]; rfl,
   frozen_row h.heap, frozen_row h.heap, frozen_row h.heap, frozen_row h.heap, frozen_row h.heap⟩
theorem Box.new {t : TypeId} (w : World) (c0 c1 c2 c3 c4 : Value) : Box t (w.alloc (.cells #[c0, c1, c2, c3, c4] t)) w.heap.size c0 c1 c2 c3 c4 := ⟨heap_alloc_new w _⟩
theorem Box.belowW {t : TypeId} {w w' : World} {b : Nat} {c0 c1 c2 c3 c4 : Value} (h : Box t w b c0 c1 c2 c3 c4) (hb : Below w.heap.size w w') : Box t w' b c0 c1 c2 c3 c4 := ⟨(hb.block b (lt_of_heap h.heap)).trans h.heap⟩
theorem Box.alloc {t : TypeId} {w : World} {b : Nat} {c0 c1 c2 c3 c4 : Value} (h : Box t w b c0 c1 c2 c3 c4) (o : Obj) : Box t (w.alloc o) b c0 c1 c2 c3 c4 := h.belowW ((Below.refl _ _).alloc (Nat.le_refl _) _)
theorem Box.lt {t : TypeId} {w : World} {b : Nat} {c0 c1 c2 c3 c4 : Value} (h : Box t w b c0 c1 c2 c3 c4) : b < w.heap.size := lt_of_heap h.heap
theorem Box.set1 {t : TypeId} {w : World} {b : Nat} {c0 c1 c2 c3 c4 : Value} (h : Box t w b c0 c1 c2 c3 c4) (v : Value) : Box t (w.setCell ⟨b, 1, none⟩ v) b c0 v c2 c3 c4 := ⟨by rw [heap_set_same v h.heap]; simp⟩
theorem Box.set2 {t : TypeId} {w : World} {b : Nat} {c0 c1 c2 c3 c4 : Value} (h : Box t w b c0 c1 c2 c3 c4) (v : Value) : Box t (w.setCell ⟨b, 2, none⟩ v) b c0 c1 v c3 c4 := ⟨by rw [heap_set_same v h.heap]; simp⟩
theorem Box.set3 {t : TypeId} {w : World} {b : Nat} {c0 c1 c2 c3 c4 : Value} (h : Box t w b c0 c1 c2 c3 c4) (v : Value) : Box t (w.setCell ⟨b, 3, none⟩ v) b c0 c1 c2 v c4 := ⟨by rw [heap_set_same v h.heap]; simp⟩
theorem Box.set4 {t : TypeId} {w : World} {b : Nat} {c0 c1 c2 c3 c4 : Value} (h : Box t w b c0 c1 c2 c3 c4) (v : Value) : Box t (w.setCell ⟨b, 4, none⟩ v) b c0 c1 c2 c3 v := ⟨by rw [heap_set_same v h.heap]; simp⟩
theorem Box.off {t : TypeId} {w w' : World} {b : Nat} {c0 c1 c2 c3 c4 : Value} {fp : List Nat} (h : Box t w b c0 c1 c2 c3 c4) (ho : Off fp w w') (hb : b ∉ fp) : Box t w' b c0 c1 c2 c3 c4 := ⟨(ho.block b h.lt hb).trans h.heap⟩
theorem below_set {B : Nat} {w w' : World} (h : Below B w w') (hB : B ≤ w'.heap.size) (b o : Nat) (v : Value) (hb : B ≤ b) : Below B w (w'.setCell ⟨b, o, none⟩ v) :=
  h.trans (((Off.refl [b] w').setCell ⟨b, o, none⟩ v (.inl (by simp))).below hB (by simp [hb]))
/-- A node that may be read. -/
structure NdAt (w : World) (N : Nd) (vk vv vi : Value) : Prop where
  keys : TsAt w vk N.keys
  vals : TsAt w vv N.vals
  kids : InAt w vi N.kids
theorem NdAt.belowW {w w' : World} {N : Nd} {vk vv vi : Value} (h : NdAt w N vk vv vi) (hb : Below w.heap.size w w') : NdAt w' N vk vv vi := ⟨h.keys.belowW hb, h.vals.belowW hb, h.kids.belowW hb⟩
theorem NdAt.alloc {w : World} {N : Nd} {vk vv vi : Value} (h : NdAt w N vk vv vi) (o : Obj) : NdAt (w.alloc o) N vk vv vi := h.belowW ((Below.refl _ _).alloc (Nat.le_refl _) _)
/-- A node of the call's own. -/
structure NdOwn (base : Nat) (w : World) (N : Nd) (vk vv vi : Value) : Prop where
  keys : TsOwn base w vk N.keys
  vals : TsOwn base w vv N.vals
  kids : w.ownsRow base 3 1 vi N.kids.length (intCells N.kids)
  apart : ∀ k, vk.ownBlock = some k → vv.ownBlock ≠ some k
theorem NdOwn.at {base : Nat} {w : World} {N : Nd} {vk vv vi : Value} (h : NdOwn base w N vk vv vi) : NdAt w N vk vv vi := ⟨h.keys.at, h.vals.at, Row.of_owns h.kids⟩
theorem NdOwn.belowW {base : Nat} {w w' : World} {N : Nd} {vk vv vi : Value} (h : NdOwn base w N vk vv vi) (hb : Below w.heap.size w w') : NdOwn base w' N vk vv vi := ⟨h.keys.belowW hb, h.vals.belowW hb, owns_below h.kids hb (Nat.le_refl _), h.apart⟩
theorem NdOwn.mono {base base' : Nat} {w : World} {N : Nd} {vk vv vi : Value} (h : NdOwn base w N vk vv vi) (hb : base' ≤ base) : NdOwn base' w N vk vv vi := ⟨h.keys.mono hb, h.vals.mono hb, owns_mono h.kids hb, h.apart⟩
/-- What a node's lists may be at most. -/
structure Fits (N : Nd) : Prop where
  keys : 24 * N.keys.length ≤ 140737488355328
  vals : 24 * N.vals.length ≤ 140737488355328
  kids : 8 * N.kids.length ≤ 140737488355328
  key : ∀ k ∈ N.keys, k.length ≤ 140737488355328
  val : ∀ k ∈ N.vals, k.length ≤ 140737488355328

set_option maxHeartbeats 1000000 in
theorem matched_any {w : World} {N : Nd} {vk vv vi : Value} (h : NdAt w N vk vv vi) (hf : Fits N) :
    Calls Try.prog 27 #[.agg #[.bool N.leaf, vk, vv, vi, .int .i64 N.next]] w fun e w' => e = .returned (.bool N.matched) ∧ Below w.heap.size w w' := by
  obtain ⟨ak, ck, rfl, hk1, hk2⟩ := h.keys.len
  obtain ⟨av, cv, rfl, hv1, hv2⟩ := h.vals.len
  obtain ⟨ai, ci, rfl, hi1, hi2⟩ := h.kids.len
  have hk3 := hf.keys
  have hv3 := hf.vals
  have hi3 := hf.kids
  clear h hf
  obtain ⟨lf, K, V, I, x⟩ := N
  simp only at *
  unfold Nd.matched
  simp only
  generalize K.length = nk at *
  generalize V.length = nv at *
  generalize I.length = ni at *
  cases lf with
  | true =>
    go_enter Try.func27, Try.ntmps27
    go_wp2
    all_goals go_ret
    all_goals refine ⟨?_, (Below.refl _ _).alloc (Nat.le_refl _) _⟩
    all_goals refine congrArg (fun b => Ending.returned (Value.bool b)) ?_
    all_goals first | (rw [Bool.eq_iff_iff]; simp; omega) | (rw [Bool.eq_iff_iff]; simp; intros; omega) | (simp; intros; omega) | (simp; done) | (simp; omega)
  | false =>
    go_enter Try.func27, Try.ntmps27
    go_wp2
    all_goals go_ret
    all_goals refine ⟨?_, (Below.refl _ _).alloc (Nat.le_refl _) _⟩
    all_goals refine congrArg (fun b => Ending.returned (Value.bool b)) ?_
    all_goals first | (rw [Bool.eq_iff_iff]; simp; omega) | (rw [Bool.eq_iff_iff]; simp; intros; omega) | (simp; intros; omega) | (simp; done) | (simp; omega)

theorem Box.apart {t : TypeId} {w : World} {b : Nat} {c0 c1 c2 c3 c4 : Value} (h : Box t w b c0 c1 c2 c3 c4) (g o : Nat) (v : Value) (hg : b ≠ g) : Box t (w.setCell ⟨g, o, none⟩ v) b c0 c1 c2 c3 c4 :=
  h.off ((Off.refl [g] w).setCell ⟨g, o, none⟩ v (.inl (by simp))) (by simpa using hg)
theorem set_stay {w : World} (g o : Nat) (v : Value) {k : Nat} (hk : k ≠ g) : (w.setCell ⟨g, o, none⟩ v).heap[k]? = w.heap[k]? := Below.heap_setCell _ _ _ _ (fun e => hk e)
theorem owns_set {w : World} {base : Nat} {e : TypeId} {size : Nat} {u : Value} {n : Nat} {xs : List Value} (h : w.ownsRow base e size u n xs) (g o : Nat) (v : Value) (hg : g < base) : (w.setCell ⟨g, o, none⟩ v).ownsRow base e size u n xs :=
  owns_stay h (fun k hk => set_stay g o v (by have := (h.lt k hk).1; omega))
theorem OwnT.set {base : Nat} {w : World} {us : List Value} {L : List (List UInt8)} (h : OwnT base w us L) (g o : Nat) (v : Value) (hg : g < base) : OwnT base (w.setCell ⟨g, o, none⟩ v) us L :=
  h.stay (fun k C fr hk _ => set_stay g o v (by omega))
theorem TsOwn.set {base : Nat} {w : World} {u : Value} {L : List (List UInt8)} (h : TsOwn base w u L) (g o : Nat) (v : Value) (hg : g < base) : TsOwn base (w.setCell ⟨g, o, none⟩ v) u L :=
  let ⟨us, h1, h2⟩ := h.out
  ⟨us, h1.set g o v hg, owns_set h2 g o v hg⟩

theorem Box.set0 {t : TypeId} {w : World} {b : Nat} {c0 c1 c2 c3 c4 : Value} (h : Box t w b c0 c1 c2 c3 c4) (v : Value) : Box t (w.setCell ⟨b, 0, none⟩ v) b v c1 c2 c3 c4 := ⟨by rw [heap_set_same v h.heap]; simp⟩
theorem Box.setAll {t : TypeId} {w : World} {b : Nat} {c0 c1 c2 c3 c4 : Value} (h : Box t w b c0 c1 c2 c3 c4) (v0 v1 v2 v3 v4 : Value) :
    Box t (((((w.setCell ⟨b, 0, none⟩ v0).setCell ⟨b, 1, none⟩ v1).setCell ⟨b, 2, none⟩ v2).setCell ⟨b, 3, none⟩ v3).setCell ⟨b, 4, none⟩ v4) b v0 v1 v2 v3 v4 := ((((h.set0 v0).set1 v1).set2 v2).set3 v3).set4 v4
theorem size_set (w : World) (g o : Nat) (v : Value) : (w.setCell ⟨g, o, none⟩ v).heap.size = w.heap.size := by simp [World.setCell]
theorem below_setAll {B : Nat} {w w' : World} (h : Below B w w') (b : Nat) (v0 v1 v2 v3 v4 : Value) (hb : B ≤ b) (hB : B ≤ w'.heap.size) :
    Below B w (((((w'.setCell ⟨b, 0, none⟩ v0).setCell ⟨b, 1, none⟩ v1).setCell ⟨b, 2, none⟩ v2).setCell ⟨b, 3, none⟩ v3).setCell ⟨b, 4, none⟩ v4) := by
  have h0 := below_set h hB b 0 v0 hb
  have h1 := below_set h0 (by simpa [size_set] using hB) b 1 v1 hb
  have h2 := below_set h1 (by simpa [size_set] using hB) b 2 v2 hb
  have h3 := below_set h2 (by simpa [size_set] using hB) b 3 v3 hb
  exact below_set h3 (by simpa [size_set] using hB) b 4 v4 hb
theorem Try.size26 : (Try.prog.info? 26).map (·.size) = some 5 := by kernel_rfl
theorem Try.size43 : (Try.prog.info? 43).map (·.size) = some 5 := by kernel_rfl

/-! ### copied -/
set_option maxHeartbeats 2000000 in
theorem copied_any {w : World} {N : Nd} {vk vv vi : Value} (h : NdAt w N vk vv vi) (hf : Fits N) :
    Calls Try.prog 26 #[.agg #[.bool N.leaf, vk, vv, vi, .int .i64 N.next]] w fun e w' => ∃ vk' vv' vi', e = .returned (.agg #[.bool N.leaf, vk', vv', vi', .int .i64 N.next]) ∧ Below w.heap.size w w' ∧ NdOwn w.heap.size w' N vk' vv' vi' := by
  obtain ⟨ak, ck, rfl, hk1, hk2⟩ := h.keys.len
  obtain ⟨av, cv, rfl, hv1, hv2⟩ := h.vals.len
  obtain ⟨ai, ci, rfl, hi1, hi2⟩ := h.kids.len
  have H := hide h
  have HF := hide hf
  have HB0 : Hid (Below w.heap.size w ((w.alloc (.cells #[.bool N.leaf, .slice ak N.keys.length ck, .slice av N.vals.length cv, .slice ai N.kids.length ci, .int .i64 N.next] 26)).alloc (.cells #[.bool false, .slice none 0 0, .slice none 0 0, .slice none 0 0, .int .i64 0] 26))) := by
    have h1 := (Below.refl w.heap.size w).alloc (Nat.le_refl _) (.cells #[.bool N.leaf, .slice ak N.keys.length ck, .slice av N.vals.length cv, .slice ai N.kids.length ci, .int .i64 N.next] 26)
    exact h1.alloc h1.size _
  have HX0 := hide ((Box.new (t := 26) w (.bool N.leaf) (.slice ak N.keys.length ck) (.slice av N.vals.length cv) (.slice ai N.kids.length ci) (.int .i64 N.next)).alloc (.cells #[.bool false, .slice none 0 0, .slice none 0 0, .slice none 0 0, .int .i64 0] 26))
  have HY0 := hide (Box.new (t := 26) (w.alloc (.cells #[.bool N.leaf, .slice ak N.keys.length ck, .slice av N.vals.length cv, .slice ai N.kids.length ci, .int .i64 N.next] 26)) (.bool false) (.slice none 0 0) (.slice none 0 0) (.slice none 0 0) (.int .i64 0))
  have HC1 : Hid (∀ W, Below w.heap.size w W → Calls Try.prog 48 #[.slice ak N.keys.length ck] W fun e w' => ∃ v', e = .returned v' ∧ Below W.heap.size W w' ∧ TsOwn W.heap.size w' v' N.keys) := fun W hW => copyT_any (H.out.keys.belowW hW) HF.out.keys HF.out.key
  have HC2 : Hid (∀ W, Below w.heap.size w W → Calls Try.prog 48 #[.slice av N.vals.length cv] W fun e w' => ∃ v', e = .returned v' ∧ Below W.heap.size W w' ∧ TsOwn W.heap.size w' v' N.vals) := fun W hW => copyT_any (H.out.vals.belowW hW) HF.out.vals HF.out.val
  have HC3 : Hid (∀ W, Below w.heap.size w W → Calls Try.prog 49 #[.slice ai N.kids.length ci] W fun e w' => ∃ v', e = .returned v' ∧ Below W.heap.size W w' ∧ W.heap.size ≤ w'.heap.size ∧ w'.ownsRow W.heap.size 3 1 v' N.kids.length (intCells N.kids)) := fun W hW => (cloneI_any (H.out.kids.belowW hW) HF.out.kids).mono (fun e w' ⟨v', h1, h2, h3⟩ => ⟨v', h1, h2, h2.size, h3⟩)
  clear h hf hk1 hk2 hv1 hv2 hi1 hi2
  generalize N.keys.length = nk at *
  generalize N.vals.length = nv at *
  generalize hni : N.kids.length = ni at *
  generalize N.leaf = lf at *
  generalize N.next = x at *
  go_enter Try.func26, Try.ntmps26
  go_upto_region 1 with fail
  have hsz : ((w.alloc (.cells #[.bool lf, .slice ak nk ck, .slice av nv cv, .slice ai ni ci, .int .i64 x] 26)).heap.size) = w.heap.size + 1 := by simp
  rw [hsz] at HY0
  clear hsz
  generalize ((w.alloc (.cells #[.bool lf, .slice ak nk ck, .slice av nv cv, .slice ai ni ci, .int .i64 x] 26)).alloc (.cells #[.bool false, .slice none 0 0, .slice none 0 0, .slice none 0 0, .int .i64 0] 26)) = W0 at *
  obtain ⟨k0, k1, k2, k3, k4, f0, f1, f2, f3, f4⟩ := HX0.out.cells
  go_wp2_with fail
  refine (HC1.out W0 HB0.out).mono ?_
  rintro e W1 ⟨u1, rfl, hb1, ho1⟩
  obtain ⟨a1, c1, e1, _, _⟩ := ho1.at.len
  subst e1
  have hbW1 := HB0.out.trans (hb1.mono HB0.out.size)
  have hlt := HX0.out.lt
  have HX1 := hide ((HX0.out.belowW hb1).set1 (.slice a1 N.keys.length c1))
  have HY1 := hide ((HY0.out.belowW hb1).apart w.heap.size 1 (.slice a1 N.keys.length c1) (by omega))
  have HB1 := hide (below_set hbW1 hbW1.size w.heap.size 1 (.slice a1 N.keys.length c1) (Nat.le_refl _))
  have HT1 := hide (ho1.set w.heap.size 1 (.slice a1 N.keys.length c1) hlt)
  have HL0 := hide HX0.out.lt
  clear k0 k1 k2 k3 k4 f0 f1 f2 f3 f4
  obtain ⟨k0, k1, k2, k3, k4, f0, f1, f2, f3, f4⟩ := (HX0.out.belowW hb1).cells
  clear hb1 ho1 hbW1
  go_upto_region 2 with fail
  clear k0 k1 k2 k3 k4 f0 f1 f2 f3 f4
  generalize hW : W1.setCell ⟨w.heap.size, 1, none⟩ (.slice a1 N.keys.length c1) = W2 at *
  clear hW
  obtain ⟨k0, k1, k2, k3, k4, f0, f1, f2, f3, f4⟩ := HX1.out.cells
  go_wp2_with fail
  refine (HC2.out W2 HB1.out).mono ?_
  rintro e W3 ⟨u3, rfl, hb3, ho3⟩
  obtain ⟨a3, c3, e3, _, _⟩ := ho3.at.len
  subst e3
  have hbW3 := HB1.out.trans (hb3.mono HB1.out.size)
  have hlt := HX1.out.lt
  have HX3 := hide ((HX1.out.belowW hb3).set2 (.slice a3 N.vals.length c3))
  have HY3 := hide ((HY1.out.belowW hb3).apart w.heap.size 2 (.slice a3 N.vals.length c3) (by omega))
  have HB3 := hide (below_set hbW3 hbW3.size w.heap.size 2 (.slice a3 N.vals.length c3) (Nat.le_refl _))
  have HT3 := hide ((HT1.out.belowW hb3).set w.heap.size 2 (.slice a3 N.vals.length c3) HL0.out)
  have HV3 := hide (ho3.set w.heap.size 2 (.slice a3 N.vals.length c3) hlt)
  have HAP : Hid (∀ k, (Value.slice a1 N.keys.length c1).ownBlock = some k → (Value.slice a3 N.vals.length c3).ownBlock ≠ some k) := fun k h1 h2 => by
    obtain ⟨_, _, q1⟩ := HT1.out.out
    obtain ⟨_, _, q3⟩ := ho3.out
    have := (q1.lt k h1).2
    have := (q3.lt k h2).1
    omega
  have HL2 := hide HX1.out.lt
  clear k0 k1 k2 k3 k4 f0 f1 f2 f3 f4
  obtain ⟨k0, k1, k2, k3, k4, f0, f1, f2, f3, f4⟩ := (HX1.out.belowW hb3).cells
  clear hb3 ho3 hbW3
  go_upto_region 3 with fail
  clear k0 k1 k2 k3 k4 f0 f1 f2 f3 f4
  generalize hW : W3.setCell ⟨w.heap.size, 2, none⟩ (.slice a3 N.vals.length c3) = W4 at *
  clear hW
  obtain ⟨k0, k1, k2, k3, k4, f0, f1, f2, f3, f4⟩ := HX3.out.cells
  go_wp2_with fail
  refine (HC3.out W4 HB3.out).mono ?_
  rintro e W5 ⟨u5, rfl, hb5, hs5, ho5⟩
  obtain ⟨a5, c5, e5⟩ := owns_len ho5
  subst e5
  have hbW5 := HB3.out.trans (hb5.mono HB3.out.size)
  have hlt := HX3.out.lt
  have HX5 := hide ((HX3.out.belowW hb5).set3 (.slice a5 ni c5))
  have HY5 := hide ((HY3.out.belowW hb5).apart w.heap.size 3 (.slice a5 ni c5) (by omega))
  have HB5 := hide (below_set hbW5 hbW5.size w.heap.size 3 (.slice a5 ni c5) (Nat.le_refl _))
  have HT5 := hide ((HT3.out.belowW hb5).set w.heap.size 3 (.slice a5 ni c5) HL0.out)
  have HV5 := hide ((HV3.out.belowW hb5).set w.heap.size 3 (.slice a5 ni c5) HL2.out)
  have HI5 := hide (owns_set ho5 w.heap.size 3 (.slice a5 ni c5) hlt)
  have HL4 := hide HX3.out.lt
  clear k0 k1 k2 k3 k4 f0 f1 f2 f3 f4
  obtain ⟨k0, k1, k2, k3, k4, f0, f1, f2, f3, f4⟩ := (HX3.out.belowW hb5).cells
  clear hb5 ho5 hbW5 hs5
  go_upto_region 4 with fail
  clear k0 k1 k2 k3 k4 f0 f1 f2 f3 f4
  generalize hW : W5.setCell ⟨w.heap.size, 3, none⟩ (.slice a5 ni c5) = W6 at *
  clear hW
  obtain ⟨k0, k1, k2, k3, k4, f0, f1, f2, f3, f4⟩ := HX5.out.cells
  obtain ⟨j0, j1, j2, j3, j4, g0, g1, g2, g3, g4⟩ := HY5.out.cells
  go_wp2
  refine bodyPost_ret (v := .agg #[.bool lf, .slice a1 N.keys.length c1, .slice a3 N.vals.length c3, .slice a5 ni c5, .int .i64 x]) (results_cell_row Try.results26 _ _ (w.heap.size + 1) 26 #[.bool lf, .slice a1 N.keys.length c1, .slice a3 N.vals.length c3, .slice a5 ni c5, .int .i64 x] (0, 0) _ rfl (HY5.out.setAll _ _ _ _ _).heap Try.underlying26 rfl Try.size26) rfl ?_
  refine ⟨_, _, _, rfl, below_setAll HB5.out (w.heap.size + 1) _ _ _ _ _ (by omega) HB5.out.size, ?_⟩
  have hHB := HB5.out.size
  have l0 : w.heap.size + 1 < W0.heap.size := HY0.out.lt
  have l2 : w.heap.size + 1 < W2.heap.size := HY1.out.lt
  have l4 : w.heap.size + 1 < W4.heap.size := HY3.out.lt
  refine ⟨((((((HT5.out.set _ _ _ l0).set _ _ _ l0).set _ _ _ l0).set _ _ _ l0).set _ _ _ l0)).mono (by omega), ((((((HV5.out.set _ _ _ l2).set _ _ _ l2).set _ _ _ l2).set _ _ _ l2).set _ _ _ l2)).mono (by omega), ?_, HAP.out⟩
  rw [hni]
  exact owns_mono (owns_set (owns_set (owns_set (owns_set (owns_set HI5.out _ _ _ l4) _ _ _ l4) _ _ _ l4) _ _ _ l4) _ _ _ l4) (by omega)
end Go.Proofs.Ytjcobejaldfibaa
