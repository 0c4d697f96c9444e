/- Put. -/
import Derived.Test.YtjcobejaldfibaaIns
import Derived.Test.YtjcobejaldfibaaDel
import Derived.Test.YtjcobejaldfibaaSpl
import Derived.Test.YtjcobejaldfibaaTo
import Derived.Deep.DeepCutAuto
namespace Go.Proofs.Ytjcobejaldfibaa
open Go.RowKit
set_option linter.unusedVariables false
set_option linter.unusedSimpArgs false

theorem OwnT.setAt {base : Nat} {w : World} {u : Value} {l : List UInt8} (hu : w.ownsRow base 5 1 u l.length (secCells l)) : ∀ {us : List Value} {L : List (List UInt8)} (i : Nat), OwnT base w us L → OwnT base w (us.set i u) (L.set i l)
  | [], [], _, _ => trivial
  | _ :: _, _ :: _, 0, h => ⟨hu, h.2⟩
  | _ :: _, _ :: _, i + 1, h => ⟨h.1, h.2.setAt hu i⟩
theorem store28 (w : World) (b o : Nat) (u : Value) (ao : Option Addr) (n c : Nat) (hc : w.cell? ⟨b, o, none⟩ = some u) (hf : w.frozen? ⟨b, o, none⟩ = false) : (Instr.storeAt 28 (.pointer (some ⟨b, o, none⟩)) (.slice ao n c)).run Try.prog w = .ok () (w.setCell ⟨b, o, none⟩ (.slice ao n c)) := by
  have a2 := Try.isAgg28
  have z2 : ∀ w, (sizeOf 28).run Try.prog w = .ok 1 w := fun w => by kernel_rfl
  simp [go_sem, a2, z2, hc, hf]
theorem op_build22 (ρ : Operand → Value) (o : Oper) (x : Operand) (ho : o.op = .buildSlice 22 1 #[(0, x)]) (a : Option Addr) (n c : Nat) (hx : ρ x = .slice a n c) (w : World) : (execOp ρ o).run Try.prog w = .ok (.value (.slice (some ⟨w.heap.size, 0, none⟩) 1 1)) (w.alloc (.cells #[.slice a n c] 28)) := by
  have hr : (Instr.buildSlice 22 1 #[(0, .slice a n c)]).run Try.prog w = .ok (.slice (some ⟨w.heap.size, 0, none⟩) 1 1) (w.alloc (.cells #[.slice a n c] 28)) := by kernel_rfl
  rw [buildSlice_op ρ o 22 1 0 x ho _ hx, Sem.run_bind, hr]
  rfl
/-- In a row of texts one is laid anew. -/
theorem setT {base : Nat} {w : World} {v u : Value} {L : List (List UInt8)} {l : List UInt8} {i : Nat} (h : TsOwn base w v L) (hi : i < L.length) (hu : w.ownsRow base 5 1 u l.length (secCells l)) :
    ∃ g c x, v = .slice (some ⟨g, 0, none⟩) L.length c ∧ base ≤ g ∧ w.cell? ⟨g, i, none⟩ = some x ∧ w.frozen? ⟨g, i, none⟩ = false ∧ TsOwn base (w.setCell ⟨g, i, none⟩ u) v (L.set i l) ∧ Oth 28 w (w.setCell ⟨g, i, none⟩ u) ∧ Off [g] w (w.setCell ⟨g, i, none⟩ u) := by
  obtain ⟨us, h1, h2⟩ := h.out
  have hul := h1.len
  rcases h2.2 with ⟨e, e0⟩ | ⟨g, cap, cur, rfl, hb, hg, c1, c2, c3, c4⟩
  · omega
  · have hoth : Oth 28 w (w.setCell ⟨g, i, none⟩ u) := fun q C t fr ht hq => by
      refine (set_stay g i u (fun e => ?_)).trans hq
      subst e
      rw [hg] at hq
      simp at hq
      exact ht hq.2.1.symm
    rw [Nat.mul_one] at c3 c4
    have hcell : w.cell? ⟨g, i, none⟩ = us[i]? := by
      rw [cell_row hg, ← c4, List.getElem?_take_of_lt hi]
      simp
    refine ⟨g, cap, us[i], rfl, hb, hcell.trans (List.getElem?_eq_getElem (by omega)), frozen_row hg, ⟨us.set i u, (h1.setAt hu i).oth hoth (by decide), ?_⟩, hoth, (Off.refl [g] w).setCell _ _ (.inl (by simp))⟩
    have hs := heap_set_same (o := i) u hg
    rw [List.length_set]
    refine ⟨by simp [hul], .inr ⟨g, cap, _, rfl, hb, hs, c1, c2, by simpa using c3, ?_⟩⟩
    rw [Nat.mul_one, Array.toList_setIfInBounds, List.take_set, c4]
def insL (L : List (List UInt8)) (i : Nat) (l : List UInt8) : List (List UInt8) := L.take i ++ [l] ++ L.drop i
def insN (N : Nd) (i : Nat) (K V : List UInt8) : Nd := { N with keys := insL N.keys i K, vals := insL N.vals i V }
def setN (N : Nd) (i : Nat) (V : List UInt8) : Nd := { N with vals := N.vals.set i V }
def putN (N : Nd) (K V : List UInt8) : Nd := if N.leaf && N.matched then (if hasK N.keys K then setN N (plc N.keys K) V else insN N (plc N.keys K) K V) else N
/-- What Put ends with. -/
def PutEnd (w : World) (N : Nd) (K V : List UInt8) (e : Ending) (w' : World) : Prop :=
  ∃ vk' vv' vi', e = .returned (.agg #[.bool N.leaf, vk', vv', vi', .int .i64 N.next]) ∧ Below w.heap.size w w' ∧ NdOwn w.heap.size w' (putN N K V) vk' vv' vi'
/-- Where Put stands. -/
structure PSt (w W : World) (gm : Nat) (N : Nd) (m0 m1 m2 m3 m4 : Value) : Prop where
  below : Below w.heap.size w W
  y : Box 26 W (w.heap.size + 1) (.bool false) (.slice none 0 0) (.slice none 0 0) (.slice none 0 0) (.int .i64 0)
  m : Box 26 W gm m0 m1 m2 m3 m4
  own : NdOwn w.heap.size W N m1 m2 m3
  gt : w.heap.size + 1 < gm
theorem PSt.next {w W W' : World} {gm : Nat} {N : Nd} {m0 m1 m2 m3 m4 : Value} (h : PSt w W gm N m0 m1 m2 m3 m4) (hb : Below W.heap.size W W') : PSt w W' gm N m0 m1 m2 m3 m4 :=
  ⟨h.below.trans (hb.mono h.below.size), h.y.belowW hb, h.m.belowW hb, h.own.belowW hb, h.gt⟩
theorem PSt.insK {w U2 U3 : World} {gm : Nat} {N : Nd} {m0 m1 m2 m3 m4 v : Value} {L' : List (List UInt8)} (h : PSt w U2 gm N m0 m1 m2 m3 m4) (hB : Below U2.heap.size U2 U3) (hv : TsOwn w.heap.size U3 v L') (hf : ∀ k, v.ownBlock = some k → U2.heap.size ≤ k) :
    PSt w (U3.setCell ⟨gm, 1, none⟩ v) gm { N with keys := L' } m0 v m2 m3 m4 := by
  have h3 := h.next hB
  have hg := h.gt
  refine ⟨below_set h3.below h3.below.size gm 1 v (by omega), h3.y.apart gm 1 v (by omega), h3.m.set1 v, NdOwn.oth (w := U3) ⟨hv, h3.own.vals, h3.own.kids, fun k hk hk' => ?_⟩ (h3.m.othSet 1 v), hg⟩
  obtain ⟨us, _, h2⟩ := h.own.vals.out
  have := (h2.lt k hk').2
  have := hf k hk
  omega
theorem PSt.insV {w U2 U3 : World} {gm : Nat} {N : Nd} {m0 m1 m2 m3 m4 v : Value} {L' : List (List UInt8)} (h : PSt w U2 gm N m0 m1 m2 m3 m4) (hB : Below U2.heap.size U2 U3) (hv : TsOwn w.heap.size U3 v L') (hf : ∀ k, v.ownBlock = some k → U2.heap.size ≤ k) :
    PSt w (U3.setCell ⟨gm, 2, none⟩ v) gm { N with vals := L' } m0 m1 v m3 m4 := by
  have h3 := h.next hB
  have hg := h.gt
  refine ⟨below_set h3.below h3.below.size gm 2 v (by omega), h3.y.apart gm 2 v (by omega), h3.m.set2 v, NdOwn.oth (w := U3) ⟨h3.own.keys, hv, h3.own.kids, fun k hk hk' => ?_⟩ (h3.m.othSet 2 v), hg⟩
  obtain ⟨us, _, h2⟩ := h.own.keys.out
  have := (h2.lt k hk).2
  have := hf k hk'
  omega
theorem PSt.setV {w W : World} {gm g i : Nat} {N : Nd} {m0 m1 m2 m3 m4 u : Value} {L' : List (List UInt8)} (h : PSt w W gm N m0 m1 m2 m3 m4) (hg : m2.ownBlock = some g) (hb : w.heap.size ≤ g) (hv : TsOwn w.heap.size (W.setCell ⟨g, i, none⟩ u) m2 L') (ho : Oth 28 W (W.setCell ⟨g, i, none⟩ u)) (hoff : Off [g] W (W.setCell ⟨g, i, none⟩ u)) :
    PSt w (W.setCell ⟨g, i, none⟩ u) gm { N with vals := L' } m0 m1 m2 m3 m4 :=
  ⟨h.below.trans (hoff.below h.below.size (by simpa using hb)), h.y.oth ho (by decide), h.m.oth ho (by decide), h.own.cutV hv rfl ho hg hoff, h.gt⟩
theorem PSt.fin {w W : World} {gm : Nat} {N : Nd} {m0 m1 m2 m3 m4 : Value} (h : PSt w W gm N m0 m1 m2 m3 m4) (v0 v1 v2 v3 v4 : Value) :
    Below w.heap.size w (((((W.setCell ⟨w.heap.size + 1, 0, none⟩ v0).setCell ⟨w.heap.size + 1, 1, none⟩ v1).setCell ⟨w.heap.size + 1, 2, none⟩ v2).setCell ⟨w.heap.size + 1, 3, none⟩ v3).setCell ⟨w.heap.size + 1, 4, none⟩ v4) ∧ NdOwn w.heap.size (((((W.setCell ⟨w.heap.size + 1, 0, none⟩ v0).setCell ⟨w.heap.size + 1, 1, none⟩ v1).setCell ⟨w.heap.size + 1, 2, none⟩ v2).setCell ⟨w.heap.size + 1, 3, none⟩ v3).setCell ⟨w.heap.size + 1, 4, none⟩ v4) N m1 m2 m3 :=
  ⟨below_setAll h.below (w.heap.size + 1) _ _ _ _ _ (by omega) h.below.size, h.own.oth (h.y.othAll _ _ _ _ _)⟩
set_option maxHeartbeats 4000000 in
set_option maxRecDepth 100000 in
theorem put_any {w : World} {N : Nd} {vk vv vi kv yv : Value} {K V : List UInt8} (h : NdAt w N vk vv vi) (hf : Fits N) (hk : Sl w kv K) (hy : Sl w yv V) (hkl : K.length ≤ 140737488355328) (hyl : V.length ≤ 140737488355328)
    (hrk : (N.keys.length + 1) * 24 ≤ 140737488355328) (hrv : (N.vals.length + 1) * 24 ≤ 140737488355328) :
    Calls Try.prog 10 #[.agg #[.bool N.leaf, vk, vv, vi, .int .i64 N.next], kv, yv] w (PutEnd w N K V) := by
  obtain ⟨ak, ck, rfl, hk1, hk2⟩ := h.keys.len
  obtain ⟨av, cv, rfl, hv1, hv2⟩ := h.vals.len
  obtain ⟨ai, ci, rfl, hi1, hi2⟩ := h.kids.len
  obtain ⟨u1, u2, rfl, _, _⟩ := hk.len
  obtain ⟨y1, y2, rfl, _, _⟩ := hy.len
  have HB0 : Hid (Below w.heap.size w ((w.alloc (.cells #[.bool N.leaf, .slice ak N.keys.length ck, .slice av N.vals.length cv, .slice ai N.kids.length ci, .int .i64 N.next] 26)).alloc (.cells #[.bool false, .slice none 0 0, .slice none 0 0, .slice none 0 0, .int .i64 0] 26))) := by
    have h1 := (Below.refl w.heap.size w).alloc (Nat.le_refl _) (.cells #[.bool N.leaf, .slice ak N.keys.length ck, .slice av N.vals.length cv, .slice ai N.kids.length ci, .int .i64 N.next] 26)
    exact h1.alloc h1.size _
  have HX0 := hide ((Box.new (t := 26) w (.bool N.leaf) (.slice ak N.keys.length ck) (.slice av N.vals.length cv) (.slice ai N.kids.length ci) (.int .i64 N.next)).alloc (.cells #[.bool false, .slice none 0 0, .slice none 0 0, .slice none 0 0, .int .i64 0] 26))
  have HY0 := hide (Box.new (t := 26) (w.alloc (.cells #[.bool N.leaf, .slice ak N.keys.length ck, .slice av N.vals.length cv, .slice ai N.kids.length ci, .int .i64 N.next] 26)) (.bool false) (.slice none 0 0) (.slice none 0 0) (.slice none 0 0) (.int .i64 0))
  have HC1 : Hid (∀ W, Below w.heap.size w W → Calls Try.prog 26 #[.agg #[.bool N.leaf, .slice ak N.keys.length ck, .slice av N.vals.length cv, .slice ai N.kids.length ci, .int .i64 N.next]] W fun e w' => ∃ vk' vv' vi', e = .returned (.agg #[.bool N.leaf, vk', vv', vi', .int .i64 N.next]) ∧ Below W.heap.size W w' ∧ NdOwn W.heap.size w' N vk' vv' vi' ∧ Full vk' ∧ Full vv') := fun W hW => copied_full (h.belowW hW) hf
  have HC2 : Hid (∀ W, Below w.heap.size w W → Calls Try.prog 21 #[.agg #[.bool N.leaf, .slice ak N.keys.length ck, .slice av N.vals.length cv, .slice ai N.kids.length ci, .int .i64 N.next], .slice u1 K.length u2] W fun e w' => e = .returned (.tuple #[.int .i64 (plc N.keys K : Int), .bool (hasK N.keys K)]) ∧ Below W.heap.size W w') := fun W hW => find_any (h.belowW hW) hf (hk.belowW hW)
  have HC3 : Hid (∀ W, Below w.heap.size w W → Calls Try.prog 27 #[.agg #[.bool N.leaf, .slice ak N.keys.length ck, .slice av N.vals.length cv, .slice ai N.kids.length ci, .int .i64 N.next]] W fun e w' => e = .returned (.bool N.matched) ∧ Below W.heap.size W w') := fun W hW => matched_any (h.belowW hW) hf
  have HCK : Hid (∀ W, Below w.heap.size w W → Calls Try.prog 29 #[.slice u1 K.length u2] W fun e w' => ∃ v', e = .returned v' ∧ Bts W w' v' K) := fun W hW => clone_any (hk.belowW hW) hkl
  have HCV : Hid (∀ W, Below w.heap.size w W → Calls Try.prog 29 #[.slice y1 V.length y2] W fun e w' => ∃ v', e = .returned v' ∧ Bts W w' v' V) := fun W hW => clone_any (hy.belowW hW) hyl
  have HNO : Hid ((N.leaf && N.matched) = false → ∀ w' vk' vv' vi', Below w.heap.size w w' ∧ NdOwn w.heap.size w' N vk' vv' vi' → PutEnd w N K V (.returned (.agg #[.bool N.leaf, vk', vv', vi', .int .i64 N.next])) w') := fun h w' _ _ _ ho => ⟨_, _, _, rfl, ho.1, by unfold putN; rw [h]; exact ho.2⟩
  have HSE : Hid ((N.leaf && N.matched) = true → hasK N.keys K = true → ∀ w' vk' vv' vi', Below w.heap.size w w' ∧ NdOwn w.heap.size w' (setN N (plc N.keys K) V) vk' vv' vi' → PutEnd w N K V (.returned (.agg #[.bool N.leaf, vk', vv', vi', .int .i64 N.next])) w') := fun h h' w' _ _ _ ho => ⟨_, _, _, rfl, ho.1, by unfold putN; rw [h, h']; exact ho.2⟩
  have HIE : Hid ((N.leaf && N.matched) = true → hasK N.keys K = false → ∀ w' vk' vv' vi', Below w.heap.size w w' ∧ NdOwn w.heap.size w' (insN N (plc N.keys K) K V) vk' vv' vi' → PutEnd w N K V (.returned (.agg #[.bool N.leaf, vk', vv', vi', .int .i64 N.next])) w') := fun h h' w' _ _ _ ho => ⟨_, _, _, rfl, ho.1, by unfold putN; rw [h, h']; exact ho.2⟩
  have HPL : Hid (hasK N.keys K = true → plc N.keys K < N.keys.length) := hasK_lt
  have HPE : Hid (plc N.keys K ≤ N.keys.length) := List.findIdx_le_length
  have HMV : Hid (N.leaf = true → N.matched = true → N.vals.length = N.keys.length) := fun h1 h2 => by
    unfold Nd.matched at h2
    rw [h1] at h2
    simp at h2
    exact h2.1
  clear h hf hk hk1 hk2 hv1 hv2 hi1 hi2 hy hkl hyl
  generalize PutEnd w N K V = DE at *
  generalize hpp : plc N.keys K = pp at *
  clear hpp
  generalize hasK N.keys K = ok at *
  generalize N.matched = mt at *
  generalize hnk : N.keys.length = nk at *
  have HNK := hide hnk
  clear hnk
  generalize hnv : N.vals.length = nv at *
  have HNV := hide hnv
  clear hnv
  generalize hni : N.kids.length = ni at *
  have HNI := hide hni
  clear hni
  generalize N.leaf = lf at *
  generalize N.next = x at *
  go_enter Try.func10, Try.ntmps10
  go_upto_region 1 with fail
  have hsz : ((w.alloc (.cells #[.bool lf, .slice ak nk ck, .slice av nv cv, .slice ai ni ci, .int .i64 x] 26)).heap.size) = w.heap.size + 1 := by simp
  rw [hsz] at HY0
  clear hsz
  generalize ((w.alloc (.cells #[.bool lf, .slice ak nk ck, .slice av nv cv, .slice ai ni ci, .int .i64 x] 26)).alloc (.cells #[.bool false, .slice none 0 0, .slice none 0 0, .slice none 0 0, .int .i64 0] 26)) = W0 at *
  obtain ⟨k0, k1, k2, k3, k4, f0, f1, f2, f3, f4⟩ := HX0.out.cells
  go_wp2_with fail
  refine (HC1.out W0 HB0.out).mono ?_
  rintro e W1 ⟨m1, m2, m3, rfl, hb1, ho1, hfu1, hfu2⟩
  clear k0 k1 k2 k3 k4 f0 f1 f2 f3 f4
  obtain ⟨a1, c1, e1, _, _⟩ := ho1.at.keys.len
  obtain ⟨a2, c2, e2, _, _⟩ := ho1.at.vals.len
  obtain ⟨a3, c3, e3⟩ := owns_len ho1.kids
  rw [HNK.out] at e1
  rw [HNV.out] at e2
  rw [HNI.out] at e3
  subst e1 e2 e3
  have HFU1 := hide hfu1
  have HFU2 := hide hfu2
  have HM2 : Hid (Box 26 (W1.alloc (.cells #[.bool lf, .slice a1 nk c1, .slice a2 nv c2, .slice a3 ni c3, .int .i64 x] 26)) W1.heap.size (.bool lf) (.slice a1 nk c1) (.slice a2 nv c2) (.slice a3 ni c3) (.int .i64 x)) := Box.new (t := 26) W1 _ _ _ _ _
  have hbn : Below W1.heap.size W1 (W1.alloc (.cells #[.bool lf, .slice a1 nk c1, .slice a2 nv c2, .slice a3 ni c3, .int .i64 x] 26)) := (Below.refl W1.heap.size W1).alloc (Nat.le_refl _) _
  have hb01 := HB0.out.trans (hb1.mono HB0.out.size)
  have HX2 := hide ((HX0.out.belowW hb1).belowW hbn)
  have HS2 : Hid (PSt w (W1.alloc (.cells #[.bool lf, .slice a1 nk c1, .slice a2 nv c2, .slice a3 ni c3, .int .i64 x] 26)) W1.heap.size N (.bool lf) (.slice a1 nk c1) (.slice a2 nv c2) (.slice a3 ni c3) (.int .i64 x)) := ⟨hb01.trans (hbn.mono hb01.size), (HY0.out.belowW hb1).belowW hbn, HM2.out, (ho1.belowW hbn).mono HB0.out.size, Nat.lt_of_lt_of_le HY0.out.lt hb1.size⟩
  clear hb1 hbn ho1 hb01 HX0 HY0 HB0 hfu1 hfu2 HM2
  go_upto_region 2 with fail
  generalize W1.alloc (.cells #[.bool lf, .slice a1 nk c1, .slice a2 nv c2, .slice a3 ni c3, .int .i64 x] 26) = W2 at *
  generalize W1.heap.size = gm at *
  obtain ⟨k0, k1, k2, k3, k4, f0, f1, f2, f3, f4⟩ := HX2.out.cells
  cases lf with
  | false =>
    obtain ⟨j0, j1, j2, j3, j4, g0, g1, g2, g3, g4⟩ := HS2.out.m.cells
    obtain ⟨l0, l1, l2, l3, l4, i0, i1, i2, i3, i4⟩ := HS2.out.y.cells
    go_wp2
    refine bodyPost_ret (v := .agg #[.bool false, .slice a1 nk c1, .slice a2 nv c2, .slice a3 ni c3, .int .i64 x]) (results_cell_row Try.results10 _ _ (w.heap.size + 1) 26 #[.bool false, .slice a1 nk c1, .slice a2 nv c2, .slice a3 ni c3, .int .i64 x] (0, 0) _ rfl (HS2.out.y.setAll _ _ _ _ _).heap Try.underlying26 rfl Try.size26) rfl ?_
    exact HNO.out rfl _ _ _ _ (HS2.out.fin _ _ _ _ _)
  | true =>
    go_wp2_with fail
    refine (HC3.out W2 HS2.out.below).mono ?_
    rintro e W3 ⟨rfl, hb3⟩
    clear k0 k1 k2 k3 k4 f0 f1 f2 f3 f4
    have HX3 := hide (HX2.out.belowW hb3)
    have HS3 := hide (HS2.out.next hb3)
    clear hb3 HX2 HS2
    cases mt with
    | false =>
      obtain ⟨j0, j1, j2, j3, j4, g0, g1, g2, g3, g4⟩ := HS3.out.m.cells
      obtain ⟨l0, l1, l2, l3, l4, i0, i1, i2, i3, i4⟩ := HS3.out.y.cells
      go_wp2
      refine bodyPost_ret (v := .agg #[.bool true, .slice a1 nk c1, .slice a2 nv c2, .slice a3 ni c3, .int .i64 x]) (results_cell_row Try.results10 _ _ (w.heap.size + 1) 26 #[.bool true, .slice a1 nk c1, .slice a2 nv c2, .slice a3 ni c3, .int .i64 x] (0, 0) _ rfl (HS3.out.y.setAll _ _ _ _ _).heap Try.underlying26 rfl Try.size26) rfl ?_
      exact HNO.out rfl _ _ _ _ (HS3.out.fin _ _ _ _ _)
    | true =>
      have hnn : nv = nk := HMV.out trivial rfl
      subst hnn
      go_upto_region 4 with fail
      obtain ⟨k0, k1, k2, k3, k4, f0, f1, f2, f3, f4⟩ := HX3.out.cells
      go_wp2_with fail
      refine (HC2.out W3 HS3.out.below).mono ?_
      rintro e W4 ⟨rfl, hb4⟩
      clear k0 k1 k2 k3 k4 f0 f1 f2 f3 f4
      have HS4 := hide (HS3.out.next hb4)
      clear hb4 HX3 HS3
      go_upto_region 5 with fail
      cases ok with
      | true =>
        have hpl : pp < nv := HPL.out rfl
        go_upto_region 6 with fail
        have st0 := HS4.out.next (below_drewN _ _ 1)
        refine wp_region_held_drew (S := fun w' => w'.cell? ⟨gm, 2, none⟩ = some (.slice a2 nv c2)) (by kernel_rfl) st0.m.cells.k2 (fun hH => ?_)
        refine take_to 0 28 (.pointer (some ⟨gm, 2, none⟩)) rfl (by kernel_rfl) (by kernel_rfl) (by kernel_rfl) (fun _ _ _ h => h) rfl (by rfl) (fun w hw => by rfl) hH ?_
        simp only [Act.put, List.setIfInBounds_toArray, List.set_cons_zero, List.set_cons_succ]
        refine take_to 1 29 (.slice a2 nv c2) rfl (by kernel_rfl) (by kernel_rfl) (by kernel_rfl) (fun _ _ _ h => h) rfl (by rfl) (fun w hw => op_load _ _ 22 (.tmp 28) rfl (.pointer (some ⟨_, 2, none⟩)) _ rfl (run_loadAny w _ 2 22 _ Try.isAgg22 hw)) hH ?_
        simp only [Act.put, List.setIfInBounds_toArray, List.set_cons_zero, List.set_cons_succ]
        refine take_to 2 30 (.int .i64 (pp : Int)) rfl (by kernel_rfl) (by kernel_rfl) (by kernel_rfl) (fun _ _ _ h => h) rfl (by rfl) (fun w hw => by rfl) hH ?_
        simp only [Act.put, List.setIfInBounds_toArray, List.set_cons_zero, List.set_cons_succ]
        refine take_to 3 31 (.slice y1 V.length y2) rfl (by kernel_rfl) (by kernel_rfl) (by kernel_rfl) (fun _ _ _ h => h) rfl (by rfl) (fun w hw => by rfl) hH ?_
        simp only [Act.put, List.setIfInBounds_toArray, List.set_cons_zero, List.set_cons_succ]
        clear hH
        refine step_call1_to 4 32 29 rfl (by kernel_rfl) rfl (by rfl) (.tmp 31) _ rfl _ rfl Try.enters29 (HCV.out _ st0.below) ?_
        rintro e U1 ⟨u, rfl, hb1⟩
        have st1 := st0.next hb1.below
        have hou := owns_mono hb1.own st0.below.size
        clear hb1
        obtain ⟨ua, uc, eu⟩ := owns_len hou
        subst eu
        refine ⟨_, rfl, st1.m.cells.k2, ?_⟩
        simp only [Act.put, List.setIfInBounds_toArray, List.set_cons_zero, List.set_cons_succ]
        obtain ⟨gv, cc, old, ea, hgb, hcell, hfz, hts, hoth, hoff⟩ := setT (l := V) (i := pp) st1.own.vals (by rw [HNV.out]; exact hpl) hou
        rw [HNV.out] at ea
        injection ea with ea1 ea2 ea3
        subst ea1 ea3
        have st2 := st1.setV rfl hgb hts hoth hoff
        refine step_to 5 33 (.pointer (some ⟨gv, 0 + pp, none⟩)) U1 rfl (by kernel_rfl) rfl (by rfl) (op_index _ _ 22 (.tmp 29) (.tmp 30) rfl _ _ _ rfl rfl (run_index22 U1 gv 0 nv c2 pp hpl)) st1.m.cells.k2 ?_
        simp only [Act.put, List.setIfInBounds_toArray, List.set_cons_zero, List.set_cons_succ]
        rw [Nat.zero_add]
        refine step_store_to 6 (U1.setCell ⟨gv, pp, none⟩ (.slice ua V.length uc)) rfl (by kernel_rfl) rfl (by rfl) 28 (.tmp 33) (.tmp 32) rfl (.pointer (some ⟨gv, pp, none⟩)) (.slice ua V.length uc) rfl rfl (store28 _ _ _ _ _ _ _ hcell hfz) st2.m.cells.k2 ?_
        refine wpAnyH_done (by kernel_rfl) ?_ _
        have HS5 := hide st2
        clear st0 st1 st2 hou hcell hfz hts hoth hoff
        generalize U1.setCell ⟨gv, pp, none⟩ (.slice ua V.length uc) = W5 at *
        obtain ⟨j0, j1, j2, j3, j4, g0, g1, g2, g3, g4⟩ := HS5.out.m.cells
        obtain ⟨l0, l1, l2, l3, l4, i0, i1, i2, i3, i4⟩ := HS5.out.y.cells
        go_wp2
        refine bodyPost_ret (v := .agg #[.bool true, .slice a1 nv c1, .slice (some ⟨gv, 0, none⟩) nv c2, .slice a3 ni c3, .int .i64 x]) (results_cell_row Try.results10 _ _ (w.heap.size + 1) 26 #[.bool true, .slice a1 nv c1, .slice (some ⟨gv, 0, none⟩) nv c2, .slice a3 ni c3, .int .i64 x] (0, 0) _ rfl (HS5.out.y.setAll _ _ _ _ _).heap Try.underlying26 rfl Try.size26) rfl ?_
        exact HSE.out (by first | rfl | trivial) (by first | rfl | trivial) _ _ _ _ (HS5.out.fin _ _ _ _ _)
      | false =>
        have HIK : Hid (∀ W {u : Value} {vb : Nat}, TsOwn w.heap.size W (.slice a1 nv c1) N.keys → w.heap.size ≤ W.heap.size → W.ownsRow w.heap.size 5 1 u K.length (secCells K) → W.cell? ⟨vb, 0, none⟩ = some u → Calls Try.prog 30 #[.slice a1 nv c1, .int .i64 (pp : Int), .slice (some ⟨vb, 0, none⟩) 1 1] W fun e w' => ∃ v', e = .returned v' ∧ Below W.heap.size W w' ∧ TsOwn w.heap.size w' v' (insL N.keys pp K) ∧ ∀ k, v'.ownBlock = some k → W.heap.size ≤ k) := fun W _ _ h1 h2 h3 h4 => insertT h1 HFU1.out (by rw [HNK.out]; exact HPE.out) (by rw [HNK.out]; exact hrk) h2 h3 h4
        have HIV : Hid (∀ W {u : Value} {vb : Nat}, TsOwn w.heap.size W (.slice a2 nv c2) N.vals → w.heap.size ≤ W.heap.size → W.ownsRow w.heap.size 5 1 u V.length (secCells V) → W.cell? ⟨vb, 0, none⟩ = some u → Calls Try.prog 30 #[.slice a2 nv c2, .int .i64 (pp : Int), .slice (some ⟨vb, 0, none⟩) 1 1] W fun e w' => ∃ v', e = .returned v' ∧ Below W.heap.size W w' ∧ TsOwn w.heap.size w' v' (insL N.vals pp V) ∧ ∀ k, v'.ownBlock = some k → W.heap.size ≤ k) := fun W _ _ h1 h2 h3 h4 => insertT h1 HFU2.out (by rw [HNV.out]; exact HPE.out) (by rw [HNV.out]; exact hrk) h2 h3 h4
        clear hrk hrv
        go_upto_region 8 with fail
        go_cut [] from 35 (fun wx => ∃ p1 q1 r1, r1 = (insL N.keys pp K).length ∧ PSt w wx gm { N with keys := insL N.keys pp K } (.bool true) (.slice p1 r1 q1) (.slice a2 nv c2) (.slice a3 ni c3) (.int .i64 x))
        case first =>
          have st0 := HS4.out.next (below_drewN _ _ 1)
          refine wp_region_held_drew (S := fun _ => True) (by kernel_rfl) trivial (fun hH => ?_)
          refine take_to 0 35 (.pointer (some ⟨gm, 1, none⟩)) rfl (by kernel_rfl) (by kernel_rfl) (by kernel_rfl) (fun _ _ _ h => h) rfl (by rfl) (fun w hw => by rfl) hH ?_
          simp only [Act.put, List.setIfInBounds_toArray, List.set_cons_zero, List.set_cons_succ]
          refine take_to 2 37 (.int .i64 (pp : Int)) rfl (by kernel_rfl) (by kernel_rfl) (by kernel_rfl) (fun _ _ _ h => h) rfl (by rfl) (fun w hw => by rfl) hH ?_
          simp only [Act.put, List.setIfInBounds_toArray, List.set_cons_zero, List.set_cons_succ]
          refine take_to 3 38 (.slice u1 K.length u2) rfl (by kernel_rfl) (by kernel_rfl) (by kernel_rfl) (fun _ _ _ h => h) rfl (by rfl) (fun w hw => by rfl) hH ?_
          simp only [Act.put, List.setIfInBounds_toArray, List.set_cons_zero, List.set_cons_succ]
          clear hH
          refine wpAnyH_all (rs := [1, 4]) (by kernel_rfl) (by simp) ?_
          intro n hn
          rcases (by simpa using hn : n = 1 ∨ n = 4) with rfl | rfl
          · refine op_to 36 (.slice a1 nv c1) _ rfl rfl (by rfl) (op_load _ _ 22 (.tmp 35) rfl (.pointer (some ⟨_, 1, none⟩)) _ rfl (run_loadAny _ _ 1 22 _ Try.isAgg22 st0.m.cells.k1)) ⟨trivial, ?_⟩
            simp only [Act.put, List.setIfInBounds_toArray, List.set_cons_zero, List.set_cons_succ]
            refine step_call1_to 4 39 29 rfl (by kernel_rfl) rfl (by rfl) (.tmp 38) _ rfl _ rfl Try.enters29 (HCK.out _ st0.below) ?_
            rintro e U1 ⟨u, rfl, hb1⟩
            have st1 := st0.next hb1.below
            have hbs : w.heap.size ≤ U1.heap.size := st1.below.size
            have hou := owns_mono hb1.own st0.below.size
            clear hb1
            obtain ⟨ua, uc, eu⟩ := owns_len hou
            subst eu
            refine ⟨_, rfl, trivial, ?_⟩
            simp only [Act.put, List.setIfInBounds_toArray, List.set_cons_zero, List.set_cons_succ]
            have hB2 : Below U1.heap.size U1 (U1.alloc (.cells #[.slice ua K.length uc] 28)) := (Below.refl _ _).alloc (Nat.le_refl _) _
            have st2 := st1.next hB2
            have hou2 := owns_below hou hB2 (Nat.le_refl _)
            have huc : (U1.alloc (.cells #[.slice ua K.length uc] 28)).cell? ⟨U1.heap.size, 0, none⟩ = some (.slice ua K.length uc) := by rw [cell_row (heap_alloc_new U1 _)]; rfl
            refine step_to 5 40 (.slice (some ⟨U1.heap.size, 0, none⟩) 1 1) (U1.alloc (.cells #[.slice ua K.length uc] 28)) rfl (by kernel_rfl) rfl (by rfl) (op_build22 _ _ (.tmp 39) rfl _ _ _ rfl _) trivial ?_
            simp only [Act.put, List.setIfInBounds_toArray, List.set_cons_zero, List.set_cons_succ]
            refine step_call3_to 6 41 30 rfl (by kernel_rfl) rfl (by rfl) (.tmp 36) (.tmp 37) (.tmp 40) _ rfl _ _ _ rfl rfl rfl Try.enters30 (HIK.out _ st2.own.keys st2.below.size hou2 huc) ?_
            rintro e U3 ⟨v', rfl, hB3, ht3, hfr⟩
            have st3 := st2.next hB3
            have st4 := st2.insK hB3 ht3 hfr
            obtain ⟨p', q', e'⟩ := ht3.slice
            subst e'
            refine ⟨_, rfl, trivial, ?_⟩
            simp only [Act.put, List.setIfInBounds_toArray, List.set_cons_zero, List.set_cons_succ]
            refine step_to 7 42 (.pointer (some ⟨gm, 1, none⟩)) U3 rfl (by kernel_rfl) rfl (by rfl) (by rfl) trivial ?_
            simp only [Act.put, List.setIfInBounds_toArray, List.set_cons_zero, List.set_cons_succ]
            refine step_store_to 8 _ rfl (by kernel_rfl) rfl (by rfl) 22 (.tmp 42) (.tmp 41) rfl (.pointer (some ⟨gm, 1, none⟩)) _ rfl rfl (storeSl _ _ _ _ _ _ _ _ _ rfl (.inr rfl) st3.m.cells.k1 st3.m.cells.f1) trivial ?_
            refine wpAnyH_done (by kernel_rfl) ?_ _
            go_wp2_with fail
            go_meet
            exact ⟨_, _, _, rfl, st4⟩
          · refine op_call1_to 39 29 rfl rfl (by rfl) (.tmp 38) _ rfl _ rfl Try.enters29 (HCK.out _ st0.below) ?_
            rintro e U1 ⟨u, rfl, hb1⟩
            have st1 := st0.next hb1.below
            have hbs : w.heap.size ≤ U1.heap.size := st1.below.size
            have hou := owns_mono hb1.own st0.below.size
            clear hb1
            obtain ⟨ua, uc, eu⟩ := owns_len hou
            subst eu
            refine ⟨_, rfl, trivial, ?_⟩
            simp only [Act.put, List.setIfInBounds_toArray, List.set_cons_zero, List.set_cons_succ]
            have hB2 : Below U1.heap.size U1 (U1.alloc (.cells #[.slice ua K.length uc] 28)) := (Below.refl _ _).alloc (Nat.le_refl _) _
            have st2 := st1.next hB2
            have hou2 := owns_below hou hB2 (Nat.le_refl _)
            have huc : (U1.alloc (.cells #[.slice ua K.length uc] 28)).cell? ⟨U1.heap.size, 0, none⟩ = some (.slice ua K.length uc) := by rw [cell_row (heap_alloc_new U1 _)]; rfl
            refine wpAnyH_all (rs := [1, 5]) (by kernel_rfl) (by simp) ?_
            intro n hn
            rcases (by simpa using hn : n = 1 ∨ n = 5) with rfl | rfl
            · refine op_to 36 (.slice a1 nv c1) U1 rfl rfl (by rfl) (op_load _ _ 22 (.tmp 35) rfl (.pointer (some ⟨_, 1, none⟩)) _ rfl (run_loadAny _ _ 1 22 _ Try.isAgg22 st1.m.cells.k1)) ⟨trivial, ?_⟩
              simp only [Act.put, List.setIfInBounds_toArray, List.set_cons_zero, List.set_cons_succ]
              refine step_to 5 40 (.slice (some ⟨U1.heap.size, 0, none⟩) 1 1) (U1.alloc (.cells #[.slice ua K.length uc] 28)) rfl (by kernel_rfl) rfl (by rfl) (op_build22 _ _ (.tmp 39) rfl _ _ _ rfl _) trivial ?_
              simp only [Act.put, List.setIfInBounds_toArray, List.set_cons_zero, List.set_cons_succ]
              refine step_call3_to 6 41 30 rfl (by kernel_rfl) rfl (by rfl) (.tmp 36) (.tmp 37) (.tmp 40) _ rfl _ _ _ rfl rfl rfl Try.enters30 (HIK.out _ st2.own.keys st2.below.size hou2 huc) ?_
              rintro e U3 ⟨v', rfl, hB3, ht3, hfr⟩
              have st3 := st2.next hB3
              have st4 := st2.insK hB3 ht3 hfr
              obtain ⟨p', q', e'⟩ := ht3.slice
              subst e'
              refine ⟨_, rfl, trivial, ?_⟩
              simp only [Act.put, List.setIfInBounds_toArray, List.set_cons_zero, List.set_cons_succ]
              refine step_to 7 42 (.pointer (some ⟨gm, 1, none⟩)) U3 rfl (by kernel_rfl) rfl (by rfl) (by rfl) trivial ?_
              simp only [Act.put, List.setIfInBounds_toArray, List.set_cons_zero, List.set_cons_succ]
              refine step_store_to 8 _ rfl (by kernel_rfl) rfl (by rfl) 22 (.tmp 42) (.tmp 41) rfl (.pointer (some ⟨gm, 1, none⟩)) _ rfl rfl (storeSl _ _ _ _ _ _ _ _ _ rfl (.inr rfl) st3.m.cells.k1 st3.m.cells.f1) trivial ?_
              refine wpAnyH_done (by kernel_rfl) ?_ _
              go_wp2_with fail
              go_meet
              exact ⟨_, _, _, rfl, st4⟩
            · refine op_to 40 (.slice (some ⟨U1.heap.size, 0, none⟩) 1 1) (U1.alloc (.cells #[.slice ua K.length uc] 28)) rfl rfl (by rfl) (op_build22 _ _ (.tmp 39) rfl _ _ _ rfl _) ⟨trivial, ?_⟩
              simp only [Act.put, List.setIfInBounds_toArray, List.set_cons_zero, List.set_cons_succ]
              refine step_to 1 36 (.slice a1 nv c1) (U1.alloc (.cells #[.slice ua K.length uc] 28)) rfl (by kernel_rfl) rfl (by rfl) (op_load _ _ 22 (.tmp 35) rfl (.pointer (some ⟨_, 1, none⟩)) _ rfl (run_loadAny _ _ 1 22 _ Try.isAgg22 st2.m.cells.k1)) trivial ?_
              simp only [Act.put, List.setIfInBounds_toArray, List.set_cons_zero, List.set_cons_succ]
              refine step_call3_to 6 41 30 rfl (by kernel_rfl) rfl (by rfl) (.tmp 36) (.tmp 37) (.tmp 40) _ rfl _ _ _ rfl rfl rfl Try.enters30 (HIK.out _ st2.own.keys st2.below.size hou2 huc) ?_
              rintro e U3 ⟨v', rfl, hB3, ht3, hfr⟩
              have st3 := st2.next hB3
              have st4 := st2.insK hB3 ht3 hfr
              obtain ⟨p', q', e'⟩ := ht3.slice
              subst e'
              refine ⟨_, rfl, trivial, ?_⟩
              simp only [Act.put, List.setIfInBounds_toArray, List.set_cons_zero, List.set_cons_succ]
              refine step_to 7 42 (.pointer (some ⟨gm, 1, none⟩)) U3 rfl (by kernel_rfl) rfl (by rfl) (by rfl) trivial ?_
              simp only [Act.put, List.setIfInBounds_toArray, List.set_cons_zero, List.set_cons_succ]
              refine step_store_to 8 _ rfl (by kernel_rfl) rfl (by rfl) 22 (.tmp 42) (.tmp 41) rfl (.pointer (some ⟨gm, 1, none⟩)) _ rfl rfl (storeSl _ _ _ _ _ _ _ _ _ rfl (.inr rfl) st3.m.cells.k1 st3.m.cells.f1) trivial ?_
              refine wpAnyH_done (by kernel_rfl) ?_ _
              go_wp2_with fail
              go_meet
              exact ⟨_, _, _, rfl, st4⟩
        case rest =>
          obtain ⟨p1, q1, r1, hr1, st5⟩ := hcut
          clear hr1
          have HS5 := hide st5
          clear st5 HS4
          go_upto_region 9 with fail
          go_cut [] from 43 (fun wx => ∃ p2 q2 r2, r2 = (insL N.vals pp V).length ∧ PSt w wx gm (insN N pp K V) (.bool true) (.slice p1 r1 q1) (.slice p2 r2 q2) (.slice a3 ni c3) (.int .i64 x))
          case first =>
            have st0 := HS5.out.next (below_drewN _ _ 1)
            refine wp_region_held_drew (S := fun _ => True) (by kernel_rfl) trivial (fun hH => ?_)
            refine take_to 0 43 (.pointer (some ⟨gm, 2, none⟩)) rfl (by kernel_rfl) (by kernel_rfl) (by kernel_rfl) (fun _ _ _ h => h) rfl (by rfl) (fun w hw => by rfl) hH ?_
            simp only [Act.put, List.setIfInBounds_toArray, List.set_cons_zero, List.set_cons_succ]
            refine take_to 2 45 (.int .i64 (pp : Int)) rfl (by kernel_rfl) (by kernel_rfl) (by kernel_rfl) (fun _ _ _ h => h) rfl (by rfl) (fun w hw => by rfl) hH ?_
            simp only [Act.put, List.setIfInBounds_toArray, List.set_cons_zero, List.set_cons_succ]
            refine take_to 3 46 (.slice y1 V.length y2) rfl (by kernel_rfl) (by kernel_rfl) (by kernel_rfl) (fun _ _ _ h => h) rfl (by rfl) (fun w hw => by rfl) hH ?_
            simp only [Act.put, List.setIfInBounds_toArray, List.set_cons_zero, List.set_cons_succ]
            clear hH
            refine wpAnyH_all (rs := [1, 4]) (by kernel_rfl) (by simp) ?_
            intro n hn
            rcases (by simpa using hn : n = 1 ∨ n = 4) with rfl | rfl
            · refine op_to 44 (.slice a2 nv c2) _ rfl rfl (by rfl) (op_load _ _ 22 (.tmp 43) rfl (.pointer (some ⟨_, 2, none⟩)) _ rfl (run_loadAny _ _ 2 22 _ Try.isAgg22 st0.m.cells.k2)) ⟨trivial, ?_⟩
              simp only [Act.put, List.setIfInBounds_toArray, List.set_cons_zero, List.set_cons_succ]
              refine step_call1_to 4 47 29 rfl (by kernel_rfl) rfl (by rfl) (.tmp 46) _ rfl _ rfl Try.enters29 (HCV.out _ st0.below) ?_
              rintro e U1 ⟨u, rfl, hb1⟩
              have st1 := st0.next hb1.below
              have hbs : w.heap.size ≤ U1.heap.size := st1.below.size
              have hou := owns_mono hb1.own st0.below.size
              clear hb1
              obtain ⟨ua, uc, eu⟩ := owns_len hou
              subst eu
              refine ⟨_, rfl, trivial, ?_⟩
              simp only [Act.put, List.setIfInBounds_toArray, List.set_cons_zero, List.set_cons_succ]
              have hB2 : Below U1.heap.size U1 (U1.alloc (.cells #[.slice ua V.length uc] 28)) := (Below.refl _ _).alloc (Nat.le_refl _) _
              have st2 := st1.next hB2
              have hou2 := owns_below hou hB2 (Nat.le_refl _)
              have huc : (U1.alloc (.cells #[.slice ua V.length uc] 28)).cell? ⟨U1.heap.size, 0, none⟩ = some (.slice ua V.length uc) := by rw [cell_row (heap_alloc_new U1 _)]; rfl
              refine step_to 5 48 (.slice (some ⟨U1.heap.size, 0, none⟩) 1 1) (U1.alloc (.cells #[.slice ua V.length uc] 28)) rfl (by kernel_rfl) rfl (by rfl) (op_build22 _ _ (.tmp 47) rfl _ _ _ rfl _) trivial ?_
              simp only [Act.put, List.setIfInBounds_toArray, List.set_cons_zero, List.set_cons_succ]
              refine step_call3_to 6 49 30 rfl (by kernel_rfl) rfl (by rfl) (.tmp 44) (.tmp 45) (.tmp 48) _ rfl _ _ _ rfl rfl rfl Try.enters30 (HIV.out _ st2.own.vals st2.below.size hou2 huc) ?_
              rintro e U3 ⟨v', rfl, hB3, ht3, hfr⟩
              have st3 := st2.next hB3
              have st4 := st2.insV hB3 ht3 hfr
              obtain ⟨p', q', e'⟩ := ht3.slice
              subst e'
              refine ⟨_, rfl, trivial, ?_⟩
              simp only [Act.put, List.setIfInBounds_toArray, List.set_cons_zero, List.set_cons_succ]
              refine step_to 7 50 (.pointer (some ⟨gm, 2, none⟩)) U3 rfl (by kernel_rfl) rfl (by rfl) (by rfl) trivial ?_
              simp only [Act.put, List.setIfInBounds_toArray, List.set_cons_zero, List.set_cons_succ]
              refine step_store_to 8 _ rfl (by kernel_rfl) rfl (by rfl) 22 (.tmp 50) (.tmp 49) rfl (.pointer (some ⟨gm, 2, none⟩)) _ rfl rfl (storeSl _ _ _ _ _ _ _ _ _ rfl (.inr rfl) st3.m.cells.k2 st3.m.cells.f2) trivial ?_
              refine wpAnyH_done (by kernel_rfl) ?_ _
              go_wp2_with fail
              go_meet
              exact ⟨_, _, _, rfl, st4⟩
            · refine op_call1_to 47 29 rfl rfl (by rfl) (.tmp 46) _ rfl _ rfl Try.enters29 (HCV.out _ st0.below) ?_
              rintro e U1 ⟨u, rfl, hb1⟩
              have st1 := st0.next hb1.below
              have hbs : w.heap.size ≤ U1.heap.size := st1.below.size
              have hou := owns_mono hb1.own st0.below.size
              clear hb1
              obtain ⟨ua, uc, eu⟩ := owns_len hou
              subst eu
              refine ⟨_, rfl, trivial, ?_⟩
              simp only [Act.put, List.setIfInBounds_toArray, List.set_cons_zero, List.set_cons_succ]
              have hB2 : Below U1.heap.size U1 (U1.alloc (.cells #[.slice ua V.length uc] 28)) := (Below.refl _ _).alloc (Nat.le_refl _) _
              have st2 := st1.next hB2
              have hou2 := owns_below hou hB2 (Nat.le_refl _)
              have huc : (U1.alloc (.cells #[.slice ua V.length uc] 28)).cell? ⟨U1.heap.size, 0, none⟩ = some (.slice ua V.length uc) := by rw [cell_row (heap_alloc_new U1 _)]; rfl
              refine wpAnyH_all (rs := [1, 5]) (by kernel_rfl) (by simp) ?_
              intro n hn
              rcases (by simpa using hn : n = 1 ∨ n = 5) with rfl | rfl
              · refine op_to 44 (.slice a2 nv c2) U1 rfl rfl (by rfl) (op_load _ _ 22 (.tmp 43) rfl (.pointer (some ⟨_, 2, none⟩)) _ rfl (run_loadAny _ _ 2 22 _ Try.isAgg22 st1.m.cells.k2)) ⟨trivial, ?_⟩
                simp only [Act.put, List.setIfInBounds_toArray, List.set_cons_zero, List.set_cons_succ]
                refine step_to 5 48 (.slice (some ⟨U1.heap.size, 0, none⟩) 1 1) (U1.alloc (.cells #[.slice ua V.length uc] 28)) rfl (by kernel_rfl) rfl (by rfl) (op_build22 _ _ (.tmp 47) rfl _ _ _ rfl _) trivial ?_
                simp only [Act.put, List.setIfInBounds_toArray, List.set_cons_zero, List.set_cons_succ]
                refine step_call3_to 6 49 30 rfl (by kernel_rfl) rfl (by rfl) (.tmp 44) (.tmp 45) (.tmp 48) _ rfl _ _ _ rfl rfl rfl Try.enters30 (HIV.out _ st2.own.vals st2.below.size hou2 huc) ?_
                rintro e U3 ⟨v', rfl, hB3, ht3, hfr⟩
                have st3 := st2.next hB3
                have st4 := st2.insV hB3 ht3 hfr
                obtain ⟨p', q', e'⟩ := ht3.slice
                subst e'
                refine ⟨_, rfl, trivial, ?_⟩
                simp only [Act.put, List.setIfInBounds_toArray, List.set_cons_zero, List.set_cons_succ]
                refine step_to 7 50 (.pointer (some ⟨gm, 2, none⟩)) U3 rfl (by kernel_rfl) rfl (by rfl) (by rfl) trivial ?_
                simp only [Act.put, List.setIfInBounds_toArray, List.set_cons_zero, List.set_cons_succ]
                refine step_store_to 8 _ rfl (by kernel_rfl) rfl (by rfl) 22 (.tmp 50) (.tmp 49) rfl (.pointer (some ⟨gm, 2, none⟩)) _ rfl rfl (storeSl _ _ _ _ _ _ _ _ _ rfl (.inr rfl) st3.m.cells.k2 st3.m.cells.f2) trivial ?_
                refine wpAnyH_done (by kernel_rfl) ?_ _
                go_wp2_with fail
                go_meet
                exact ⟨_, _, _, rfl, st4⟩
              · refine op_to 48 (.slice (some ⟨U1.heap.size, 0, none⟩) 1 1) (U1.alloc (.cells #[.slice ua V.length uc] 28)) rfl rfl (by rfl) (op_build22 _ _ (.tmp 47) rfl _ _ _ rfl _) ⟨trivial, ?_⟩
                simp only [Act.put, List.setIfInBounds_toArray, List.set_cons_zero, List.set_cons_succ]
                refine step_to 1 44 (.slice a2 nv c2) (U1.alloc (.cells #[.slice ua V.length uc] 28)) rfl (by kernel_rfl) rfl (by rfl) (op_load _ _ 22 (.tmp 43) rfl (.pointer (some ⟨_, 2, none⟩)) _ rfl (run_loadAny _ _ 2 22 _ Try.isAgg22 st2.m.cells.k2)) trivial ?_
                simp only [Act.put, List.setIfInBounds_toArray, List.set_cons_zero, List.set_cons_succ]
                refine step_call3_to 6 49 30 rfl (by kernel_rfl) rfl (by rfl) (.tmp 44) (.tmp 45) (.tmp 48) _ rfl _ _ _ rfl rfl rfl Try.enters30 (HIV.out _ st2.own.vals st2.below.size hou2 huc) ?_
                rintro e U3 ⟨v', rfl, hB3, ht3, hfr⟩
                have st3 := st2.next hB3
                have st4 := st2.insV hB3 ht3 hfr
                obtain ⟨p', q', e'⟩ := ht3.slice
                subst e'
                refine ⟨_, rfl, trivial, ?_⟩
                simp only [Act.put, List.setIfInBounds_toArray, List.set_cons_zero, List.set_cons_succ]
                refine step_to 7 50 (.pointer (some ⟨gm, 2, none⟩)) U3 rfl (by kernel_rfl) rfl (by rfl) (by rfl) trivial ?_
                simp only [Act.put, List.setIfInBounds_toArray, List.set_cons_zero, List.set_cons_succ]
                refine step_store_to 8 _ rfl (by kernel_rfl) rfl (by rfl) 22 (.tmp 50) (.tmp 49) rfl (.pointer (some ⟨gm, 2, none⟩)) _ rfl rfl (storeSl _ _ _ _ _ _ _ _ _ rfl (.inr rfl) st3.m.cells.k2 st3.m.cells.f2) trivial ?_
                refine wpAnyH_done (by kernel_rfl) ?_ _
                go_wp2_with fail
                go_meet
                exact ⟨_, _, _, rfl, st4⟩
          case rest =>
            obtain ⟨p2, q2, r2, hr2, st6⟩ := hcut
            clear hr2
            have HS6 := hide st6
            clear st6 HS5
            obtain ⟨j0, j1, j2, j3, j4, g0, g1, g2, g3, g4⟩ := HS6.out.m.cells
            obtain ⟨l0, l1, l2, l3, l4, i0, i1, i2, i3, i4⟩ := HS6.out.y.cells
            go_wp2
            refine bodyPost_ret (v := .agg #[.bool true, .slice p1 r1 q1, .slice p2 r2 q2, .slice a3 ni c3, .int .i64 x]) (results_cell_row Try.results10 _ _ (w.heap.size + 1) 26 #[.bool true, .slice p1 r1 q1, .slice p2 r2 q2, .slice a3 ni c3, .int .i64 x] (0, 0) _ rfl (HS6.out.y.setAll _ _ _ _ _).heap Try.underlying26 rfl Try.size26) rfl ?_
            exact HIE.out (by first | rfl | trivial) (by first | rfl | trivial) _ _ _ _ (HS6.out.fin _ _ _ _ _)
end Go.Proofs.Ytjcobejaldfibaa
