/- Del. -/
import Derived.Test.YtjcobejaldfibaaDlt
import Derived.Test.YtjcobejaldfibaaFnd
namespace Go.Proofs.Ytjcobejaldfibaa
open Go.RowKit
set_option linter.unusedVariables false
set_option linter.unusedSimpArgs false

def delH (N : Nd) (K : List UInt8) : Bool := hasK N.keys K && N.leaf && N.matched
def cutL (L : List (List UInt8)) (i : Nat) : List (List UInt8) := L.take i ++ L.drop (i + 1)
def cutN (N : Nd) (i : Nat) : Nd := { N with keys := cutL N.keys i, vals := cutL N.vals i }
def delN (N : Nd) (K : List UInt8) : Nd := if delH N K then cutN N (plc N.keys K) else N
/-- What Del ends with. -/
def DelEnd (w : World) (N : Nd) (K : List UInt8) (e : Ending) (w' : World) : Prop :=
  ∃ vk' vv' vi', e = .returned (.tuple #[.agg #[.bool N.leaf, vk', vv', vi', .int .i64 N.next], .bool (delH N K)]) ∧ Below w.heap.size w w' ∧ NdOwn w.heap.size w' (delN N K) vk' vv' vi'
theorem DelEnd.no {w w' : World} {N : Nd} {K : List UInt8} {vk vv vi : Value} (h : delH N K = false) (hb : Below w.heap.size w w') (ho : NdOwn w.heap.size w' N vk vv vi) : DelEnd w N K (.returned (.tuple #[.agg #[.bool N.leaf, vk, vv, vi, .int .i64 N.next], .bool false])) w' :=
  ⟨vk, vv, vi, by rw [h], hb, by unfold delN; rw [h]; exact ho⟩
theorem DelEnd.yes {w w' : World} {N : Nd} {K : List UInt8} {vk vv vi : Value} (h : delH N K = true) (hb : Below w.heap.size w w') (ho : NdOwn w.heap.size w' (cutN N (plc N.keys K)) vk vv vi) : DelEnd w N K (.returned (.tuple #[.agg #[.bool N.leaf, vk, vv, vi, .int .i64 N.next], .bool true])) w' :=
  ⟨vk, vv, vi, by rw [h], hb, by unfold delN; rw [h]; exact ho⟩
theorem hasK_lt {L : List (List UInt8)} {K : List UInt8} (h : hasK L K = true) : plc L K < L.length := by
  unfold hasK at h
  simp at h
  exact h.1
theorem results_ct {fn : Func} {p u : Tmp} {ty : TypeId} (h : fn.results = #[.cell p ty, .tmp u]) (tmps : Array Value) (w : World) (g : Nat) (t : TypeId) (cs : Array Value) (fr : Nat × Nat) (d : TypeDesc)
    (hp : tmps.getD p undef = .pointer (some ⟨g, 0, none⟩)) (hg : w.heap[g]? = some (.cells cs t fr))
    (hu : Try.prog.underlying ty = some d) (hd : d.isRow = true) (hi : (Try.prog.info? ty).map (·.size) = some cs.size) :
    (results fn tmps).run Try.prog w = .ok (.tuple #[.agg cs, tmps.getD u undef]) w := by
  have hp' : tmps[p]?.getD undef = .pointer (some ⟨g, 0, none⟩) := by simpa using hp
  have hl := run_loadVar_mid (P := Try.prog) w g 0 ty cs.toList d (fun j v hv => by rw [Nat.zero_add, cell_row hg]; simpa using hv) hu hd (by rw [hi, Array.length_toList])
  simp [results, h, hp', asAddr, hl]
theorem NdOwn.cutK {base : Nat} {w w' : World} {N : Nd} {vk vv vi v1 : Value} {g : Nat} {L' : List (List UInt8)} (h : NdOwn base w N vk vv vi) (hk : TsOwn base w' v1 L') (hb : v1.ownBlock = vk.ownBlock) (ho : Oth 28 w w') (hg : vk.ownBlock = some g) (hoff : Off [g] w w') : NdOwn base w' { N with keys := L' } v1 vv vi :=
  ⟨hk, h.vals.apart hoff ho (h.apart g hg), owns_oth h.kids ho (by decide), fun k hk => h.apart k (hb ▸ hk)⟩
theorem NdOwn.cutV {base : Nat} {w w' : World} {N : Nd} {vk vv vi v1 : Value} {g : Nat} {L' : List (List UInt8)} (h : NdOwn base w N vk vv vi) (hk : TsOwn base w' v1 L') (hb : v1.ownBlock = vv.ownBlock) (ho : Oth 28 w w') (hg : vv.ownBlock = some g) (hoff : Off [g] w w') : NdOwn base w' { N with vals := L' } vk v1 vi :=
  ⟨h.keys.apart hoff ho (fun e => h.apart g e hg), hk, owns_oth h.kids ho (by decide), fun k hk e => h.apart k hk (hb ▸ e)⟩
theorem TsOwn.slice {base : Nat} {w : World} {v : Value} {L : List (List UInt8)} (h : TsOwn base w v L) : ∃ a c, v = .slice a L.length c := let ⟨a, c, e, _⟩ := h.at.len; ⟨a, c, e⟩
set_option maxHeartbeats 2000000 in
set_option maxRecDepth 100000 in
theorem del_any {w : World} {N : Nd} {vk vv vi kv : Value} {K : List UInt8} (h : NdAt w N vk vv vi) (hf : Fits N) (hk : Sl w kv K) :
    Calls Try.prog 9 #[.agg #[.bool N.leaf, vk, vv, vi, .int .i64 N.next], kv] w (DelEnd w N K) := by
  obtain ⟨ak, ck, rfl, hk1, hk2⟩ := h.keys.len
  obtain ⟨av, cv, rfl, hv1, hv2⟩ := h.vals.len
  obtain ⟨ai, ci, rfl, hi1, hi2⟩ := h.kids.len
  obtain ⟨u1, u2, rfl, _, _⟩ := hk.len
  have HB0 : Hid (Below w.heap.size w ((w.alloc (.cells #[.bool N.leaf, .slice ak N.keys.length ck, .slice av N.vals.length cv, .slice ai N.kids.length ci, .int .i64 N.next] 26)).alloc (.cells #[.bool false, .slice none 0 0, .slice none 0 0, .slice none 0 0, .int .i64 0] 26))) := by
    have h1 := (Below.refl w.heap.size w).alloc (Nat.le_refl _) (.cells #[.bool N.leaf, .slice ak N.keys.length ck, .slice av N.vals.length cv, .slice ai N.kids.length ci, .int .i64 N.next] 26)
    exact h1.alloc h1.size _
  have HX0 := hide ((Box.new (t := 26) w (.bool N.leaf) (.slice ak N.keys.length ck) (.slice av N.vals.length cv) (.slice ai N.kids.length ci) (.int .i64 N.next)).alloc (.cells #[.bool false, .slice none 0 0, .slice none 0 0, .slice none 0 0, .int .i64 0] 26))
  have HY0 := hide (Box.new (t := 26) (w.alloc (.cells #[.bool N.leaf, .slice ak N.keys.length ck, .slice av N.vals.length cv, .slice ai N.kids.length ci, .int .i64 N.next] 26)) (.bool false) (.slice none 0 0) (.slice none 0 0) (.slice none 0 0) (.int .i64 0))
  have HC1 : Hid (∀ W, Below w.heap.size w W → Calls Try.prog 26 #[.agg #[.bool N.leaf, .slice ak N.keys.length ck, .slice av N.vals.length cv, .slice ai N.kids.length ci, .int .i64 N.next]] W fun e w' => ∃ vk' vv' vi', e = .returned (.agg #[.bool N.leaf, vk', vv', vi', .int .i64 N.next]) ∧ Below W.heap.size W w' ∧ NdOwn W.heap.size w' N vk' vv' vi') := fun W hW => copied_any (h.belowW hW) hf
  have HC2 : Hid (∀ W, Below w.heap.size w W → Calls Try.prog 21 #[.agg #[.bool N.leaf, .slice ak N.keys.length ck, .slice av N.vals.length cv, .slice ai N.kids.length ci, .int .i64 N.next], .slice u1 K.length u2] W fun e w' => e = .returned (.tuple #[.int .i64 (plc N.keys K : Int), .bool (hasK N.keys K)]) ∧ Below W.heap.size W w') := fun W hW => find_any (h.belowW hW) hf (hk.belowW hW)
  have HC3 : Hid (∀ W, Below w.heap.size w W → Calls Try.prog 27 #[.agg #[.bool N.leaf, .slice ak N.keys.length ck, .slice av N.vals.length cv, .slice ai N.kids.length ci, .int .i64 N.next]] W fun e w' => e = .returned (.bool N.matched) ∧ Below W.heap.size W w') := fun W hW => matched_any (h.belowW hW) hf
  have HNO : Hid (delH N K = false → ∀ w' vk' vv' vi', Below w.heap.size w w' → NdOwn w.heap.size w' N vk' vv' vi' → DelEnd w N K (.returned (.tuple #[.agg #[.bool N.leaf, vk', vv', vi', .int .i64 N.next], .bool false])) w') := fun h _ _ _ _ hb ho => DelEnd.no h hb ho
  have HYE : Hid (delH N K = true → ∀ w' vk' vv' vi', Below w.heap.size w w' → NdOwn w.heap.size w' (cutN N (plc N.keys K)) vk' vv' vi' → DelEnd w N K (.returned (.tuple #[.agg #[.bool N.leaf, vk', vv', vi', .int .i64 N.next], .bool true])) w') := fun h _ _ _ _ hb ho => DelEnd.yes h hb ho
  have HDH : Hid (delH N K = (hasK N.keys K && N.leaf && N.matched)) := rfl
  have HPL : Hid (hasK N.keys K = true → plc N.keys K < N.keys.length) := hasK_lt
  have HMV : Hid (N.leaf = true → N.matched = true → N.vals.length = N.keys.length) := fun h1 h2 => by
    unfold Nd.matched at h2
    rw [h1] at h2
    simp at h2
    exact h2.1
  have hkf := hf.keys
  clear h hf hk hk1 hk2 hv1 hv2 hi1 hi2
  generalize DelEnd w N K = DE at *
  generalize delH N K = dh at *
  generalize hpp : plc N.keys K = pp at *
  clear hpp
  generalize hasK N.keys K = ok at *
  generalize N.matched = mt at *
  generalize hnk : N.keys.length = nk at *
  have HNK := hide hnk
  clear hnk
  generalize hnv : N.vals.length = nv at *
  have HNV := hide hnv
  clear hnv
  generalize hni : N.kids.length = ni at *
  have HNI := hide hni
  clear hni
  generalize N.leaf = lf at *
  generalize N.next = x at *
  generalize K.length = kl at *
  go_enter Try.func9, Try.ntmps9
  go_upto_region 1 with fail
  have hsz : ((w.alloc (.cells #[.bool lf, .slice ak nk ck, .slice av nv cv, .slice ai ni ci, .int .i64 x] 26)).heap.size) = w.heap.size + 1 := by simp
  rw [hsz] at HY0
  clear hsz
  generalize ((w.alloc (.cells #[.bool lf, .slice ak nk ck, .slice av nv cv, .slice ai ni ci, .int .i64 x] 26)).alloc (.cells #[.bool false, .slice none 0 0, .slice none 0 0, .slice none 0 0, .int .i64 0] 26)) = W0 at *
  obtain ⟨k0, k1, k2, k3, k4, f0, f1, f2, f3, f4⟩ := HX0.out.cells
  go_wp2_with fail
  refine (HC1.out W0 HB0.out).mono ?_
  rintro e W1 ⟨m1, m2, m3, rfl, hb1, ho1⟩
  clear k0 k1 k2 k3 k4 f0 f1 f2 f3 f4
  obtain ⟨a1, c1, e1, _, _⟩ := ho1.at.keys.len
  obtain ⟨a2, c2, e2, _, _⟩ := ho1.at.vals.len
  obtain ⟨a3, c3, e3⟩ := owns_len ho1.kids
  rw [HNK.out] at e1
  rw [HNV.out] at e2
  rw [HNI.out] at e3
  subst e1 e2 e3
  have HM2 : Hid (Box 26 (W1.alloc (.cells #[.bool lf, .slice a1 nk c1, .slice a2 nv c2, .slice a3 ni c3, .int .i64 x] 26)) W1.heap.size (.bool lf) (.slice a1 nk c1) (.slice a2 nv c2) (.slice a3 ni c3) (.int .i64 x)) := Box.new (t := 26) W1 _ _ _ _ _
  have hbn : Below W1.heap.size W1 (W1.alloc (.cells #[.bool lf, .slice a1 nk c1, .slice a2 nv c2, .slice a3 ni c3, .int .i64 x] 26)) := (Below.refl W1.heap.size W1).alloc (Nat.le_refl _) _
  have hb01 := HB0.out.trans (hb1.mono HB0.out.size)
  have HB2 := hide (hb01.trans (hbn.mono hb01.size))
  have HX2 := hide ((HX0.out.belowW hb1).belowW hbn)
  have HY2 := hide ((HY0.out.belowW hb1).belowW hbn)
  have HO2 := hide ((ho1.belowW hbn).mono HB0.out.size)
  have HGM : Hid (w.heap.size + 1 < W1.heap.size) := Nat.lt_of_lt_of_le HY0.out.lt hb1.size
  clear hb1 hbn ho1 hb01 HX0 HY0 HB0
  go_upto_region 2 with fail
  generalize W1.alloc (.cells #[.bool lf, .slice a1 nk c1, .slice a2 nv c2, .slice a3 ni c3, .int .i64 x] 26) = W2 at *
  generalize W1.heap.size = gm at *
  obtain ⟨k0, k1, k2, k3, k4, f0, f1, f2, f3, f4⟩ := HX2.out.cells
  go_wp2_with fail
  refine (HC2.out W2 HB2.out).mono ?_
  rintro e W3 ⟨rfl, hb3⟩
  clear k0 k1 k2 k3 k4 f0 f1 f2 f3 f4
  have HB3 := hide (HB2.out.trans (hb3.mono HB2.out.size))
  have HX3 := hide (HX2.out.belowW hb3)
  have HY3 := hide (HY2.out.belowW hb3)
  have HM3 := hide (HM2.out.belowW hb3)
  have HO3 := hide (HO2.out.belowW hb3)
  clear hb3 HX2 HY2 HM2 HO2 HB2
  go_upto_region 3 with fail
  obtain ⟨k0, k1, k2, k3, k4, f0, f1, f2, f3, f4⟩ := HX3.out.cells
  cases ok with
  | false =>
    have hdh : dh = false := HDH.out
    subst hdh
    obtain ⟨j0, j1, j2, j3, j4, g0, g1, g2, g3, g4⟩ := HM3.out.cells
    obtain ⟨l0, l1, l2, l3, l4, i0, i1, i2, i3, i4⟩ := HY3.out.cells
    go_wp2
    refine bodyPost_ret (v := .tuple #[.agg #[.bool lf, .slice a1 nk c1, .slice a2 nv c2, .slice a3 ni c3, .int .i64 x], .bool false]) (results_ct Try.results9 _ _ (w.heap.size + 1) 26 #[.bool lf, .slice a1 nk c1, .slice a2 nv c2, .slice a3 ni c3, .int .i64 x] (0, 0) _ rfl (HY3.out.setAll _ _ _ _ _).heap Try.underlying26 rfl Try.size26) rfl ?_
    exact HNO.out trivial _ _ _ _ (below_setAll HB3.out (w.heap.size + 1) _ _ _ _ _ (by omega) HB3.out.size) (HO3.out.oth (HY3.out.othAll _ _ _ _ _))
  | true =>
    cases lf with
    | false =>
      have hdh : dh = false := HDH.out
      subst hdh
      obtain ⟨j0, j1, j2, j3, j4, g0, g1, g2, g3, g4⟩ := HM3.out.cells
      obtain ⟨l0, l1, l2, l3, l4, i0, i1, i2, i3, i4⟩ := HY3.out.cells
      go_wp2
      refine bodyPost_ret (v := .tuple #[.agg #[.bool false, .slice a1 nk c1, .slice a2 nv c2, .slice a3 ni c3, .int .i64 x], .bool false]) (results_ct Try.results9 _ _ (w.heap.size + 1) 26 #[.bool false, .slice a1 nk c1, .slice a2 nv c2, .slice a3 ni c3, .int .i64 x] (0, 0) _ rfl (HY3.out.setAll _ _ _ _ _).heap Try.underlying26 rfl Try.size26) rfl ?_
      exact HNO.out trivial _ _ _ _ (below_setAll HB3.out (w.heap.size + 1) _ _ _ _ _ (by omega) HB3.out.size) (HO3.out.oth (HY3.out.othAll _ _ _ _ _))
    | true =>
      go_wp2_with fail
      refine (HC3.out W3 HB3.out).mono ?_
      rintro e W4 ⟨rfl, hb4⟩
      clear k0 k1 k2 k3 k4 f0 f1 f2 f3 f4
      have HB4 := hide (HB3.out.trans (hb4.mono HB3.out.size))
      have HY4 := hide (HY3.out.belowW hb4)
      have HM4 := hide (HM3.out.belowW hb4)
      have HO4 := hide (HO3.out.belowW hb4)
      clear hb4 HX3 HY3 HM3 HO3 HB3
      cases mt with
      | false =>
        have hdh : dh = false := HDH.out
        subst hdh
        obtain ⟨j0, j1, j2, j3, j4, g0, g1, g2, g3, g4⟩ := HM4.out.cells
        obtain ⟨l0, l1, l2, l3, l4, i0, i1, i2, i3, i4⟩ := HY4.out.cells
        go_wp2
        refine bodyPost_ret (v := .tuple #[.agg #[.bool true, .slice a1 nk c1, .slice a2 nv c2, .slice a3 ni c3, .int .i64 x], .bool false]) (results_ct Try.results9 _ _ (w.heap.size + 1) 26 #[.bool true, .slice a1 nk c1, .slice a2 nv c2, .slice a3 ni c3, .int .i64 x] (0, 0) _ rfl (HY4.out.setAll _ _ _ _ _).heap Try.underlying26 rfl Try.size26) rfl ?_
        exact HNO.out trivial _ _ _ _ (below_setAll HB4.out (w.heap.size + 1) _ _ _ _ _ (by omega) HB4.out.size) (HO4.out.oth (HY4.out.othAll _ _ _ _ _))
      | true =>
        have hdh : dh = true := HDH.out
        subst hdh
        have hpl : pp < nk := HPL.out trivial
        have hnn : nv = nk := HMV.out trivial rfl
        subst hnn
        have HD1 : Hid (∀ W, TsOwn w.heap.size W (.slice a1 nv c1) N.keys → Calls Try.prog 28 #[.slice a1 nv c1, .int .i64 (pp : Int), .int .i64 ((pp : Int) + 1)] W fun e w' => ∃ v', e = .returned v' ∧ TsOwn w.heap.size w' v' (cutL N.keys pp) ∧ v'.ownBlock = (Value.slice a1 nv c1).ownBlock ∧ Oth 28 W w' ∧ ∃ g, (Value.slice a1 nv c1).ownBlock = some g ∧ w.heap.size ≤ g ∧ Off [g] W w') := fun W hW => deleteT (i := pp) (j := pp + 1) hW (by omega) (by rw [HNK.out]; omega)
        have HD2 : Hid (∀ W, TsOwn w.heap.size W (.slice a2 nv c2) N.vals → Calls Try.prog 28 #[.slice a2 nv c2, .int .i64 (pp : Int), .int .i64 ((pp : Int) + 1)] W fun e w' => ∃ v', e = .returned v' ∧ TsOwn w.heap.size w' v' (cutL N.vals pp) ∧ v'.ownBlock = (Value.slice a2 nv c2).ownBlock ∧ Oth 28 W w' ∧ ∃ g, (Value.slice a2 nv c2).ownBlock = some g ∧ w.heap.size ≤ g ∧ Off [g] W w') := fun W hW => deleteT (i := pp) (j := pp + 1) hW (by omega) (by rw [HNV.out]; omega)
        go_upto_region 5 with fail
        obtain ⟨k0, k1, k2, k3, k4, f0, f1, f2, f3, f4⟩ := HM4.out.cells
        go_wp2_with fail
        refine (HD1.out W4 HO4.out.keys).mono ?_
        rintro e W5 ⟨v1, rfl, ht5, hv5, hoth5, g5, hg5, hgb5, hoff5⟩
        clear k0 k1 k2 k3 k4 f0 f1 f2 f3 f4
        obtain ⟨p1, q1, e1⟩ := ht5.slice
        generalize (cutL N.keys pp).length = r1 at e1
        subst e1
        have hm5 := HM4.out.oth hoth5 (by decide)
        have hy5 := HY4.out.oth hoth5 (by decide)
        have hb5 := HB4.out.trans (hoff5.below HB4.out.size (by simpa using hgb5))
        have ho5 := HO4.out.cutK ht5 hv5 hoth5 hg5 hoff5
        have HM5 := hide hm5
        have HY6 := hide (hy5.apart gm 1 (.slice p1 r1 q1) (by have := HGM.out; omega))
        have HM6 := hide (hm5.set1 (.slice p1 r1 q1))
        have HB6 := hide (below_set hb5 hb5.size gm 1 (.slice p1 r1 q1) (by have := HGM.out; omega))
        have HO6 := hide (ho5.oth (hm5.othSet 1 (.slice p1 r1 q1)))
        clear hm5 hy5 hb5 ho5 ht5 hv5 hoth5 hg5 hgb5 hoff5 g5 HM4 HY4 HB4 HO4
        obtain ⟨k0, k1, k2, k3, k4, f0, f1, f2, f3, f4⟩ := HM5.out.cells
        go_upto_region 6 with fail
        clear k0 k1 k2 k3 k4 f0 f1 f2 f3 f4 HM5
        generalize W5.setCell ⟨gm, 1, none⟩ (.slice p1 r1 q1) = W6 at *
        obtain ⟨k0, k1, k2, k3, k4, f0, f1, f2, f3, f4⟩ := HM6.out.cells
        go_wp2_with fail
        refine (HD2.out W6 HO6.out.vals).mono ?_
        rintro e W7 ⟨v2, rfl, ht7, hv7, hoth7, g7, hg7, hgb7, hoff7⟩
        clear k0 k1 k2 k3 k4 f0 f1 f2 f3 f4
        obtain ⟨p2, q2, e2⟩ := ht7.slice
        generalize (cutL N.vals pp).length = r2 at e2
        subst e2
        have hm7 := HM6.out.oth hoth7 (by decide)
        have hy7 := HY6.out.oth hoth7 (by decide)
        have hb7 := HB6.out.trans (hoff7.below HB6.out.size (by simpa using hgb7))
        have ho7 := HO6.out.cutV ht7 hv7 hoth7 hg7 hoff7
        have HM7 := hide hm7
        have HY8 := hide (hy7.apart gm 2 (.slice p2 r2 q2) (by have := HGM.out; omega))
        have HM8 := hide (hm7.set2 (.slice p2 r2 q2))
        have HB8 := hide (below_set hb7 hb7.size gm 2 (.slice p2 r2 q2) (by have := HGM.out; omega))
        have HO8 := hide (ho7.oth (hm7.othSet 2 (.slice p2 r2 q2)))
        clear hm7 hy7 hb7 ho7 ht7 hv7 hoth7 hg7 hgb7 hoff7 g7 HM6 HY6 HB6 HO6
        obtain ⟨k0, k1, k2, k3, k4, f0, f1, f2, f3, f4⟩ := HM7.out.cells
        go_upto_region 7 with fail
        clear k0 k1 k2 k3 k4 f0 f1 f2 f3 f4 HM7
        generalize W7.setCell ⟨gm, 2, none⟩ (.slice p2 r2 q2) = W8 at *
        obtain ⟨k0, k1, k2, k3, k4, f0, f1, f2, f3, f4⟩ := HM8.out.cells
        obtain ⟨l0, l1, l2, l3, l4, i0, i1, i2, i3, i4⟩ := HY8.out.cells
        go_wp2
        refine bodyPost_ret (v := .tuple #[.agg #[.bool true, .slice p1 r1 q1, .slice p2 r2 q2, .slice a3 ni c3, .int .i64 x], .bool true]) (results_ct Try.results9 _ _ (w.heap.size + 1) 26 #[.bool true, .slice p1 r1 q1, .slice p2 r2 q2, .slice a3 ni c3, .int .i64 x] (0, 0) _ rfl (HY8.out.setAll _ _ _ _ _).heap Try.underlying26 rfl Try.size26) rfl ?_
        exact HYE.out trivial _ _ _ _ (below_setAll HB8.out (w.heap.size + 1) _ _ _ _ _ (by omega) HB8.out.size) (HO8.out.oth (HY8.out.othAll _ _ _ _ _))
end Go.Proofs.Ytjcobejaldfibaa
