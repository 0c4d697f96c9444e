/- To: a node as the document's. -/
import Derived.Test.YtjcobejaldfibaaNod
namespace Go.Proofs.Ytjcobejaldfibaa
open Go.RowKit
set_option linter.unusedVariables false
set_option linter.unusedSimpArgs false

def strCells (L : List (List UInt8)) : List Value := L.map fun b => .string (strOf b)
theorem length_strCells (L : List (List UInt8)) : (strCells L).length = L.length := by simp [strCells]
theorem one_strCells (L : List (List UInt8)) : ∀ v ∈ strCells L, v.oneCell' = true := by
  intro v hv
  obtain ⟨b, _, rfl⟩ := List.mem_map.1 hv
  rfl
theorem strCells_append (A B : List (List UInt8)) : strCells (A ++ B) = strCells A ++ strCells B := by simp [strCells]
def StAt (w : World) (v : Value) (L : List (List UInt8)) : Prop := Row w v L.length (strCells L)
theorem StAt.belowW {w w' : World} {v : Value} {L : List (List UInt8)} (h : StAt w v L) (hb : Below w.heap.size w w') : StAt w' v L := Row.belowW h hb
theorem StAt.len {w : World} {v : Value} {L : List (List UInt8)} (h : StAt w v L) : ∃ ao c, v = .slice ao L.length c ∧ L.length ≤ c ∧ c ≤ maxLen := let ⟨ao, c, e, h1, h2, _⟩ := h; ⟨ao, c, e, h1, h2⟩
theorem StAt.nil (w : World) : StAt w (.slice none 0 0) [] := Row.nil w
theorem StAt.get {w : World} {ao : Option Addr} {n c : Nat} {L : List (List UInt8)} (h : StAt w (.slice ao n c) L) (i : Nat) (hi : i < L.length) : ∃ g o, ao = some ⟨g, o, none⟩ ∧ w.cell? ⟨g, o + i, none⟩ = some (.string (strOf (L.getD i []))) := by
  obtain ⟨ao', c', e, h1, h2, h3⟩ := h
  injection e with e1 e2 e3
  subst e1
  have hu : (strCells L)[i]? = some (.string (strOf (L.getD i []))) := by simp [strCells, hi]
  obtain ⟨g, o, ea, hr⟩ := h3 (fun h0 => by rw [h0] at hu; simp at hu)
  exact ⟨g, o, ea, hr i _ hu⟩
/-- The document's node. -/
structure RdAt (w : World) (N : Nd) (uk uv vi : Value) : Prop where
  keys : StAt w uk N.keys
  vals : StAt w uv N.vals
  kids : InAt w vi N.kids
theorem RdAt.belowW {w w' : World} {N : Nd} {vk vv vi : Value} (h : RdAt w N vk vv vi) (hb : Below w.heap.size w w') : RdAt w' N vk vv vi := ⟨h.keys.belowW hb, h.vals.belowW hb, h.kids.belowW hb⟩
theorem Try.info9 : (Try.prog.info? 9).map (fun i => (i.zero, i.size, i.bytes)) = some (some (.string { data := #[] }), 1, 16) := by kernel_rfl
theorem step_append_row {ops : Array Oper} {Q : Exit → Act → World → Prop} {md : Region.Mode} {S : World → Prop} {o : Oper} {fuel : Nat} {listed : Array Bool} {a : Act} {w : World} (j dst : Nat) (hj : ops[j]? = some o)
    (hr : Region.ready md ops listed = [j]) (hdst : o.dst = some dst) (hgd : o.guard = none) (s x : Operand) (t : TypeId) (hop : o.op = Op.call { callee := Callee.builtin Builtin.append, args := #[s, x], argTypes := #[t, t] })
    (base : Nat) (e : TypeId) (z : Value) (size bytes : Nat) (ht : Try.prog.underlying t = some (.slice e)) (hi : (Try.prog.info? e).map (fun i => (i.zero, i.size, i.bytes)) = some (some z, size, bytes)) (hzs : z.cells.size = size) (hsz : 0 < size)
    (v : Value) (n : Nat) (xs : List Value) (y : Value) (m : Nat) (news : List Value) (hs : a.eval s = v) (hy : a.eval x = y) (hown : w.ownsRow base e size v n xs)
    (hx : Row w y m news) (hl : news.length = m * size) (h1 : ∀ u ∈ news, u.oneCell' = true)
    (hbytes : (n + m) * bytes ≤ 140737488355328) (h63 : n + m ≤ 140737488355328) (hbase : base ≤ w.heap.size)
    (hK : ∀ v' w', w'.ownsRow base e size v' (n + m) (xs ++ news) → w.grownBy w' v.ownBlock → S w' ∧ wpAnyH Try.prog md ops Q S fuel (listed.setIfInBounds j true) (a.put (some dst) v') w') :
    wpAnyH Try.prog md ops Q S (fuel + 1) listed a w := by
  refine step_by j hj hr (fun K hK' => ?_)
  have hw : Region.wanted o (yielded ops a.tmps) = true := by simp [Region.wanted, hgd]
  rw [if_pos hw]
  obtain ⟨v', w', hrun, r1, r2⟩ := run_append_row (P := Try.prog) w base t o.type e z size bytes ht hi hzs hsz v n xs hown y m news hx hl h1 hbytes h63 hbase
  have hE : (execOp a.eval o).run Try.prog w = .ok (.value v') w' := by
    simp [execOp, hop, resolve, invoke, builtin, hs, hy, hrun, Result.andThen]
  unfold Oper.wp
  rw [hE, Oper.upon_value, hdst]
  have := hK v' w' r1 r2
  exact hK' _ _ this.1 this.2
theorem Try.isAgg22' : ∀ w, (isAgg 22).run Try.prog w = .ok false w := fun w => by kernel_rfl
theorem Try.isAgg27 : ∀ w, (isAgg 27).run Try.prog w = .ok false w := fun w => by kernel_rfl
theorem Try.isAgg28' : ∀ w, (isAgg 28).run Try.prog w = .ok false w := fun w => by kernel_rfl
theorem run_index22' (w : World) (b o n cap i : Nat) (h : i < n) : (Instr.indexAt 22 (.slice (some ⟨b, o, none⟩) n cap) (.int .i64 (i : Int))).run Try.prog w = .ok (.pointer (some ⟨b, o + i, none⟩)) w := by
  have hu := Try.underlying22
  have hs : ∀ w, (sizeOf 28).run Try.prog w = .ok 1 w := fun w => by kernel_rfl
  simp [go_sem, hu, hs, h]
theorem buildStr (s : ByteArray) (w : World) : (Instr.buildSlice 27 1 #[(0, .string s)]).run Try.prog w = .ok (.slice (some ⟨w.heap.size, 0, none⟩) 1 1) (w.alloc (.cells #[.string s] 9)) := by kernel_rfl
theorem op_buildStr (ρ : Operand → Value) (o : Oper) (x : Operand) (ho : o.op = .buildSlice 27 1 #[(0, x)]) (s : ByteArray) (hx : ρ x = .string s) (w : World) : (execOp ρ o).run Try.prog w = .ok (.value (.slice (some ⟨w.heap.size, 0, none⟩) 1 1)) (w.alloc (.cells #[.string s] 9)) := by
  rw [buildSlice_op ρ o 27 1 0 x ho _ hx, Sem.run_bind, buildStr]
  rfl
theorem storeSl (w : World) (b o : Nat) (t : TypeId) (v u : Value) (ao : Option Addr) (n c : Nat) (hv : v = .slice ao n c) (ht : t = 27 ∨ t = 22) (hc : w.cell? ⟨b, o, none⟩ = some u) (hf : w.frozen? ⟨b, o, none⟩ = false) : (Instr.storeAt t (.pointer (some ⟨b, o, none⟩)) v).run Try.prog w = .ok () (w.setCell ⟨b, o, none⟩ v) := by
  subst hv
  have a1 := Try.isAgg27
  have a2 := Try.isAgg22'
  have z1 : ∀ w, (sizeOf 27).run Try.prog w = .ok 1 w := fun w => by kernel_rfl
  have z2 : ∀ w, (sizeOf 22).run Try.prog w = .ok 1 w := fun w => by kernel_rfl
  rcases ht with rfl | rfl
  · simp [go_sem, a1, z1, hc, hf]
  · simp [go_sem, a2, z2, hc, hf]
/-- Where To stands. -/
structure Tri (w W : World) (x0 x1 x2 x3 x4 z0 z1 z2 z3 z4 : Value) : Prop where
  below : Below w.heap.size w W
  x : Box 26 W w.heap.size x0 x1 x2 x3 x4
  y : Box 43 W (w.heap.size + 1) (.bool false) (.slice none 0 0) (.slice none 0 0) (.slice none 0 0) (.int .i64 0)
  z : Box 43 W (w.heap.size + 1 + 1) z0 z1 z2 z3 z4
theorem Tri.next {w W W' : World} {x0 x1 x2 x3 x4 z0 z1 z2 z3 z4 : Value} (h : Tri w W x0 x1 x2 x3 x4 z0 z1 z2 z3 z4) (hb : Below W.heap.size W W') : Tri w W' x0 x1 x2 x3 x4 z0 z1 z2 z3 z4 :=
  ⟨h.below.trans (hb.mono h.below.size), h.x.belowW hb, h.y.belowW hb, h.z.belowW hb⟩
theorem Tri.grown {w W W' : World} {x0 x1 x2 x3 x4 z0 z1 z2 z3 z4 : Value} {base n : Nat} {u : Value} {xs : List Value} (h : Tri w W x0 x1 x2 x3 x4 z0 z1 z2 z3 z4) (hu : W.ownsRow base 9 1 u n xs) (hB : w.heap.size ≤ base) (hg : W.grownBy W' u.ownBlock) : Tri w W' x0 x1 x2 x3 x4 z0 z1 z2 z3 z4 :=
  ⟨grown_below h.below (owns_mono hu hB) hg, ⟨grown_rec hu hg h.x.heap (by decide)⟩, ⟨grown_rec hu hg h.y.heap (by decide)⟩, ⟨grown_rec hu hg h.z.heap (by decide)⟩⟩
theorem Tri.set1 {w W : World} {x0 x1 x2 x3 x4 z0 z1 z2 z3 z4 : Value} (h : Tri w W x0 x1 x2 x3 x4 z0 z1 z2 z3 z4) (v : Value) : Tri w (W.setCell ⟨w.heap.size + 1 + 1, 1, none⟩ v) x0 x1 x2 x3 x4 z0 v z2 z3 z4 :=
  ⟨below_set h.below h.below.size _ 1 v (by omega), h.x.apart _ 1 v (by omega), h.y.apart _ 1 v (by omega), h.z.set1 v⟩
theorem Tri.set2 {w W : World} {x0 x1 x2 x3 x4 z0 z1 z2 z3 z4 : Value} (h : Tri w W x0 x1 x2 x3 x4 z0 z1 z2 z3 z4) (v : Value) : Tri w (W.setCell ⟨w.heap.size + 1 + 1, 2, none⟩ v) x0 x1 x2 x3 x4 z0 z1 v z3 z4 :=
  ⟨below_set h.below h.below.size _ 2 v (by omega), h.x.apart _ 2 v (by omega), h.y.apart _ 2 v (by omega), h.z.set2 v⟩
theorem tri_new (w : World) (x0 x1 x2 x3 x4 z0 z1 z2 z3 z4 : Value) : Tri w (((w.alloc (.cells #[x0, x1, x2, x3, x4] 26)).alloc (.cells #[.bool false, .slice none 0 0, .slice none 0 0, .slice none 0 0, .int .i64 0] 43)).alloc (.cells #[z0, z1, z2, z3, z4] 43)) x0 x1 x2 x3 x4 z0 z1 z2 z3 z4 := by
  have h1 := (Below.refl w.heap.size w).alloc (Nat.le_refl _) (.cells #[x0, x1, x2, x3, x4] 26)
  have h2 := h1.alloc h1.size (.cells #[.bool false, .slice none 0 0, .slice none 0 0, .slice none 0 0, .int .i64 0] 43)
  have h3 := h2.alloc h2.size (.cells #[z0, z1, z2, z3, z4] 43)
  refine ⟨h3, ((Box.new w x0 x1 x2 x3 x4).alloc _).alloc _, ?_, ?_⟩
  · have := (Box.new (t := 43) (w.alloc (.cells #[x0, x1, x2, x3, x4] 26)) (.bool false) (.slice none 0 0) (.slice none 0 0) (.slice none 0 0) (.int .i64 0)).alloc (.cells #[z0, z1, z2, z3, z4] 43)
    rwa [show (w.alloc (.cells #[x0, x1, x2, x3, x4] 26)).heap.size = w.heap.size + 1 by simp] at this
  · have := Box.new (t := 43) ((w.alloc (.cells #[x0, x1, x2, x3, x4] 26)).alloc (.cells #[.bool false, .slice none 0 0, .slice none 0 0, .slice none 0 0, .int .i64 0] 43)) z0 z1 z2 z3 z4
    rwa [show ((w.alloc (.cells #[x0, x1, x2, x3, x4] 26)).alloc (.cells #[.bool false, .slice none 0 0, .slice none 0 0, .slice none 0 0, .int .i64 0] 43)).heap.size = w.heap.size + 1 + 1 by simp] at this
theorem owns_sets {w : World} {base g : Nat} {e t : TypeId} {C : Array Value} {fr : Nat × Nat} {v : Value} {n : Nat} {xs : List Value} (h : w.ownsRow base e 1 v n xs) (hg : w.heap[g]? = some (.cells C t fr)) (ht : t ≠ e) (v0 v1 v2 v3 v4 : Value) :
    (((((w.setCell ⟨g, 0, none⟩ v0).setCell ⟨g, 1, none⟩ v1).setCell ⟨g, 2, none⟩ v2).setCell ⟨g, 3, none⟩ v3).setCell ⟨g, 4, none⟩ v4).ownsRow base e 1 v n xs :=
  owns_stay h (fun q hq => by
    have hne : q ≠ g := fun e => owns_ne h hg ht (e ▸ hq)
    rw [set_stay _ _ _ hne, set_stay _ _ _ hne, set_stay _ _ _ hne, set_stay _ _ _ hne, set_stay _ _ _ hne])
theorem take_succ' {L : List (List UInt8)} {k : Nat} (h : k < L.length) : strCells (L.take (k + 1)) = strCells (L.take k) ++ [.string (strOf (L.getD k []))] := by
  rw [getD_take_succ h, strCells_append]
  rfl
set_option maxHeartbeats 1000000 in
theorem to_any {w : World} {N : Nd} {vk vv vi : Value} (h : NdAt w N vk vv vi) (hf : Fits N) :
    Calls Try.prog 17 #[.agg #[.bool N.leaf, vk, vv, vi, .int .i64 N.next]] w fun e w' => ∃ uk uv, e = .returned (.agg #[.bool N.leaf, uk, uv, vi, .int .i64 N.next]) ∧ Below w.heap.size w w' ∧ RdAt w' N uk uv vi := by
  obtain ⟨ak, ck, rfl, hk1, hk2⟩ := h.keys.len
  obtain ⟨av, cv, rfl, hv1, hv2⟩ := h.vals.len
  obtain ⟨ai, ci, rfl, hi1, hi2⟩ := h.kids.len
  have H := hide h
  have HF := hide hf
  have HST0 := hide (tri_new w (.bool N.leaf) (.slice ak N.keys.length ck) (.slice av N.vals.length cv) (.slice ai N.kids.length ci) (.int .i64 N.next) (.bool N.leaf) (.slice none 0 0) (.slice none 0 0) (.slice ai N.kids.length ci) (.int .i64 N.next))
  have HSK : Hid (24 * N.keys.length ≤ 140737488355328) := hf.keys
  have HSV : Hid (24 * N.vals.length ≤ 140737488355328) := hf.vals
  have HTK : Hid (N.keys.take N.keys.length = N.keys) := List.take_length
  have HTV : Hid (N.vals.take N.vals.length = N.vals) := List.take_length
  clear h hf hk1 hk2 hv1 hv2 hi1 hi2
  generalize hnk : N.keys.length = nk at *
  generalize hnv : N.vals.length = nv at *
  generalize hni : N.kids.length = ni at *
  generalize N.leaf = lf at *
  generalize N.next = x at *
  have HNK := hide hnk
  have HNV := hide hnv
  clear hnk hnv hni
  have hnkb : nk ≤ 5864062014805 := by have := HSK.out; omega
  have hnvb : nv ≤ 5864062014805 := by have := HSV.out; omega
  go_enter Try.func17, Try.ntmps17
  go_upto_region 2 with fail
  generalize (((w.alloc (.cells #[.bool lf, .slice ak nk ck, .slice av nv cv, .slice ai ni ci, .int .i64 x] 26)).alloc (.cells #[.bool false, .slice none 0 0, .slice none 0 0, .slice none 0 0, .int .i64 0] 43)).alloc (.cells #[.bool lf, .slice none 0 0, .slice none 0 0, .slice ai ni ci, .int .i64 x] 43)) = W0 at *
  go_wp2
  go_loopw [4] (fun i wr => ∃ (k : Nat) (u : Value), k ≤ nk ∧ i = .int .i64 (k : Int) ∧ Tri w wr (.bool lf) (.slice ak nk ck) (.slice av nv cv) (.slice ai ni ci) (.int .i64 x) (.bool lf) (u) (.slice none 0 0) (.slice ai ni ci) (.int .i64 x) ∧ w.heap.size ≤ wr.heap.size ∧ wr.ownsRow w.heap.size 9 1 u k (strCells (N.keys.take k))) (fun i _ => nk - (intOf i).toNat)
  case atStart => exact ⟨0, .slice none 0 0, by omega, rfl, HST0.out, HST0.out.below.size, World.ownsRow_nil _ _ _ _⟩
  case round =>
    obtain ⟨k, u, hkn, rfl, hst, hsz, hu⟩ := hrel
    have HST := hide hst
    have HU := hide hu
    have HBS := hide hsz
    have HU0 : Hid (wr.drew.heap.size = wr.heap.size) := rfl
    have HSZ : Hid ((k + 1) * 16 ≤ 140737488355328) := by have := HSK.out; rw [Hid]; omega
    clear hst hu hsz
    by_cases hlt : k < nk
    · have HSZ := HSZ
      obtain ⟨g, o, a, d, hao, hcell, hs, hd1, hd2⟩ := H.out.keys.get k (by rw [HNK.out]; exact hlt)
      subst hao
      have HTk := hide (take_succ' (L := N.keys) (k := k) (by rw [HNK.out]; exact hlt))
      have hgl := World.block_lt_of_cell? w _ hcell
      have hc' := (HST.out.below.cell hgl).trans hcell
      obtain ⟨k0, k1, k2, k3, k4, f0, f1, f2, f3, f4⟩ := HST.out.x.cells
      generalize N.keys.getD k [] = X at *
      generalize hxl : X.length = xl at *
      have HXL := hide hxl
      clear hxl
      go_upto_region 5 with fail
      clear k0 k1 k2 k3 k4 f0 f1 f2 f3 f4
      obtain ⟨au, cu, eu⟩ := owns_len HU.out
      subst eu
      have HSS : Hid (∀ (W : World) (z1 z2 : Value), Tri w W (.bool lf) (.slice (some ⟨g, o, none⟩) nk ck) (.slice av nv cv) (.slice ai ni ci) (.int .i64 x) (.bool lf) z1 z2 (.slice ai ni ci) (.int .i64 x) → W.cell? ⟨w.heap.size, 1, none⟩ = some (.slice (some ⟨g, o, none⟩) nk ck) ∧ W.cell? ⟨g, o + k, none⟩ = some (.slice a xl d) ∧ Sl W (.slice a xl d) X) := fun W z1 z2 st => ⟨st.x.cells.k1, (st.below.cell hgl).trans hcell, hs.belowW st.below⟩
      have st0 : Tri w wr.drew (.bool lf) (.slice (some ⟨g, o, none⟩) nk ck) (.slice av nv cv) (.slice ai ni ci) (.int .i64 x) (.bool lf) (.slice au k cu) (.slice none 0 0) (.slice ai ni ci) (.int .i64 x) := HST.out.next (below_drewN _ _ 1)
      have hu0 : wr.drew.ownsRow w.heap.size 9 1 (.slice au k cu) k (strCells (N.keys.take k)) := owns_below HU.out (below_drewN _ _ 1) (Nat.le_refl _)
      refine wp_region_held_drew (S := fun w' => w'.cell? ⟨w.heap.size, 1, none⟩ = some (.slice (some ⟨g, o, none⟩) nk ck) ∧ w'.cell? ⟨g, o + k, none⟩ = some (.slice a xl d) ∧ Sl w' (.slice a xl d) X) (by kernel_rfl) (HSS.out _ _ _ st0) (fun hH => ?_)
      refine take_to 0 20 (.pointer (some ⟨w.heap.size + 1 + 1, 1, none⟩)) rfl (by kernel_rfl) (by kernel_rfl) (by kernel_rfl) (fun _ _ _ h => h) rfl (by rfl) (fun w hw => by rfl) hH ?_
      simp only [Act.put, List.setIfInBounds_toArray, List.set_cons_zero, List.set_cons_succ]
      refine take_to 2 22 (.pointer (some ⟨w.heap.size, 1, none⟩)) rfl (by kernel_rfl) (by kernel_rfl) (by kernel_rfl) (fun _ _ _ h => h) rfl (by rfl) (fun w hw => by rfl) hH ?_
      simp only [Act.put, List.setIfInBounds_toArray, List.set_cons_zero, List.set_cons_succ]
      refine take_to 3 23 (.slice (some ⟨g, o, none⟩) nk ck) rfl (by kernel_rfl) (by kernel_rfl) (by kernel_rfl) (fun _ _ _ h => h) rfl (by rfl) (fun w hw => op_load _ _ 22 (.tmp 22) rfl (.pointer (some ⟨_, 1, none⟩)) _ rfl (run_loadAny w _ 1 22 _ Try.isAgg22' hw.1)) hH ?_
      simp only [Act.put, List.setIfInBounds_toArray, List.set_cons_zero, List.set_cons_succ]
      refine take_to 4 24 (.int .i64 (k : Int)) rfl (by kernel_rfl) (by kernel_rfl) (by kernel_rfl) (fun _ _ _ h => h) rfl (by rfl) (fun w hw => by rfl) hH ?_
      simp only [Act.put, List.setIfInBounds_toArray, List.set_cons_zero, List.set_cons_succ]
      refine take_to 5 25 (.pointer (some ⟨g, o + k, none⟩)) rfl (by kernel_rfl) (by kernel_rfl) (by kernel_rfl) (fun _ _ _ h => h) rfl (by rfl) (fun w hw => op_index _ _ 22 (.tmp 23) (.tmp 24) rfl _ _ _ rfl rfl (run_index22' w g o nk ck k hlt)) hH ?_
      simp only [Act.put, List.setIfInBounds_toArray, List.set_cons_zero, List.set_cons_succ]
      refine take_to 6 26 (.slice a xl d) rfl (by kernel_rfl) (by kernel_rfl) (by kernel_rfl) (fun _ _ _ h => h) rfl (by rfl) (fun w hw => op_load _ _ 28 (.tmp 25) rfl (.pointer (some ⟨_, _, none⟩)) _ rfl (run_loadAny w _ _ 28 _ Try.isAgg28' hw.2.1)) hH ?_
      simp only [Act.put, List.setIfInBounds_toArray, List.set_cons_zero, List.set_cons_succ]
      refine take_to 7 27 (.string (strOf X)) rfl (by kernel_rfl) (by kernel_rfl) (by kernel_rfl) (fun _ _ _ h => h) rfl (by rfl) (fun w hw => op_conv _ _ 28 9 (.tmp 26) rfl (.slice a xl d) _ rfl (run_str hw.2.2)) hH ?_
      simp only [Act.put, List.setIfInBounds_toArray, List.set_cons_zero, List.set_cons_succ]
      clear hH
      have hbs0 : w.heap.size ≤ wr.drew.heap.size := HBS.out
      generalize wr.drew = U0 at st0 hu0 hbs0 ⊢
      have st1 := st0.next ((Below.refl _ _).alloc (Nat.le_refl _) (.cells #[.string (strOf X)] 9))
      have hu1 := owns_below hu0 ((Below.refl _ _).alloc (Nat.le_refl _) (.cells #[.string (strOf X)] 9)) (Nat.le_refl _)
      have hrow : Row (U0.alloc (.cells #[.string (strOf X)] 9)) (.slice (some ⟨U0.heap.size, 0, none⟩) 1 1) 1 [.string (strOf X)] := ⟨_, 1, rfl, Nat.le_refl _, by simp only [maxLen]; omega, fun _ => ⟨U0.heap.size, 0, rfl, fun j u hu => by rw [Nat.zero_add, cell_row (heap_alloc_new U0 _)]; simpa using hu⟩⟩
      refine wpAnyH_all (rs := [1, 8]) (by kernel_rfl) (by simp) ?_
      intro n hn
      rcases (by simpa using hn : n = 1 ∨ n = 8) with rfl | rfl
      · refine op_to 21 (.slice au k cu) U0 rfl rfl (by rfl) (op_load _ _ 27 (.tmp 20) rfl (.pointer (some ⟨_, 1, none⟩)) _ rfl (run_loadAny _ _ 1 27 _ Try.isAgg27 st0.z.cells.k1)) ⟨HSS.out _ _ _ st0, ?_⟩
        simp only [Act.put, List.setIfInBounds_toArray, List.set_cons_zero, List.set_cons_succ]
        refine step_to 8 28 (.slice (some ⟨U0.heap.size, 0, none⟩) 1 1) (U0.alloc (.cells #[.string (strOf X)] 9)) rfl (by kernel_rfl) rfl (by rfl) (op_buildStr _ _ (.tmp 27) rfl _ rfl _) (HSS.out _ _ _ st1) ?_
        simp only [Act.put, List.setIfInBounds_toArray, List.set_cons_zero, List.set_cons_succ]
        refine step_append_row 9 29 rfl (by kernel_rfl) rfl rfl (.tmp 21) (.tmp 28) 27 rfl (w.heap.size) 9 (.string { data := #[] }) 1 16 Try.underlying27 Try.info9 rfl (by omega) _ _ _ _ 1 [.string (strOf X)] rfl rfl hu1 hrow rfl (by simp [Value.oneCell']) (by have := HSZ.out; omega) (by have := HSZ.out; omega) (by rw [show (U0.alloc (.cells #[.string (strOf X)] 9)).heap.size = U0.heap.size + 1 by simp]; omega) ?_
        intro v' W2 ho2 hg2
        have st2 := st1.grown hu1 (Nat.le_refl _) hg2
        obtain ⟨a2, c2, e2⟩ := owns_len ho2
        subst e2
        refine ⟨HSS.out _ _ _ st2, ?_⟩
        simp only [Act.put, List.setIfInBounds_toArray, List.set_cons_zero, List.set_cons_succ]
        refine step_to 10 30 (.pointer (some ⟨w.heap.size + 1 + 1, 1, none⟩)) W2 rfl (by kernel_rfl) rfl (by rfl) (by rfl) (HSS.out _ _ _ st2) ?_
        simp only [Act.put, List.setIfInBounds_toArray, List.set_cons_zero, List.set_cons_succ]
        have st3 := st2.set1 (.slice a2 (k + 1) c2)
        refine step_store_to 11 (W2.setCell ⟨w.heap.size + 1 + 1, 1, none⟩ (.slice a2 (k + 1) c2)) rfl (by kernel_rfl) rfl (by rfl) 27 (.tmp 30) (.tmp 29) rfl (.pointer (some ⟨w.heap.size + 1 + 1, 1, none⟩)) (.slice a2 (k + 1) c2) rfl rfl (storeSl _ _ _ _ _ _ _ _ _ rfl (.inl rfl) st2.z.cells.k1 st2.z.cells.f1) (HSS.out _ _ _ st3) ?_
        refine wpAnyH_done (by kernel_rfl) ?_ _
        have ho3 : (W2.setCell ⟨w.heap.size + 1 + 1, 1, none⟩ (.slice a2 (k + 1) c2)).ownsRow (w.heap.size) 9 1 (.slice a2 (k + 1) c2) (k + 1) (strCells (N.keys.take k) ++ [.string (strOf X)]) := owns_stay ho2 (fun q hq => set_stay _ _ _ (fun e => owns_ne ho2 st2.z.heap (by decide) (e ▸ hq)))
        have hsz3 : w.heap.size ≤ (W2.setCell ⟨w.heap.size + 1 + 1, 1, none⟩ (.slice a2 (k + 1) c2)).heap.size := by rw [size_set]; have h1 := hg2.size; rw [show (U0.alloc (.cells #[.string (strOf X)] 9)).heap.size = U0.heap.size + 1 by simp] at h1; omega
        go_wp2
        go_roundw
        case rel =>
          refine ⟨k + 1, _, by omega, by go_num, st3, hsz3, ?_⟩
          rw [HTk.out]
          exact ho3
        case measure => simp [intOf]; omega
      · refine op_to 28 (.slice (some ⟨U0.heap.size, 0, none⟩) 1 1) (U0.alloc (.cells #[.string (strOf X)] 9)) rfl rfl (by rfl) (op_buildStr _ _ (.tmp 27) rfl _ rfl _) ⟨HSS.out _ _ _ st1, ?_⟩
        simp only [Act.put, List.setIfInBounds_toArray, List.set_cons_zero, List.set_cons_succ]
        refine step_to 1 21 (.slice au k cu) (U0.alloc (.cells #[.string (strOf X)] 9)) rfl (by kernel_rfl) rfl (by rfl) (op_load _ _ 27 (.tmp 20) rfl (.pointer (some ⟨_, 1, none⟩)) _ rfl (run_loadAny _ _ 1 27 _ Try.isAgg27 st1.z.cells.k1)) (HSS.out _ _ _ st1) ?_
        simp only [Act.put, List.setIfInBounds_toArray, List.set_cons_zero, List.set_cons_succ]
        refine step_append_row 9 29 rfl (by kernel_rfl) rfl rfl (.tmp 21) (.tmp 28) 27 rfl (w.heap.size) 9 (.string { data := #[] }) 1 16 Try.underlying27 Try.info9 rfl (by omega) _ _ _ _ 1 [.string (strOf X)] rfl rfl hu1 hrow rfl (by simp [Value.oneCell']) (by have := HSZ.out; omega) (by have := HSZ.out; omega) (by rw [show (U0.alloc (.cells #[.string (strOf X)] 9)).heap.size = U0.heap.size + 1 by simp]; omega) ?_
        intro v' W2 ho2 hg2
        have st2 := st1.grown hu1 (Nat.le_refl _) hg2
        obtain ⟨a2, c2, e2⟩ := owns_len ho2
        subst e2
        refine ⟨HSS.out _ _ _ st2, ?_⟩
        simp only [Act.put, List.setIfInBounds_toArray, List.set_cons_zero, List.set_cons_succ]
        refine step_to 10 30 (.pointer (some ⟨w.heap.size + 1 + 1, 1, none⟩)) W2 rfl (by kernel_rfl) rfl (by rfl) (by rfl) (HSS.out _ _ _ st2) ?_
        simp only [Act.put, List.setIfInBounds_toArray, List.set_cons_zero, List.set_cons_succ]
        have st3 := st2.set1 (.slice a2 (k + 1) c2)
        refine step_store_to 11 (W2.setCell ⟨w.heap.size + 1 + 1, 1, none⟩ (.slice a2 (k + 1) c2)) rfl (by kernel_rfl) rfl (by rfl) 27 (.tmp 30) (.tmp 29) rfl (.pointer (some ⟨w.heap.size + 1 + 1, 1, none⟩)) (.slice a2 (k + 1) c2) rfl rfl (storeSl _ _ _ _ _ _ _ _ _ rfl (.inl rfl) st2.z.cells.k1 st2.z.cells.f1) (HSS.out _ _ _ st3) ?_
        refine wpAnyH_done (by kernel_rfl) ?_ _
        have ho3 : (W2.setCell ⟨w.heap.size + 1 + 1, 1, none⟩ (.slice a2 (k + 1) c2)).ownsRow (w.heap.size) 9 1 (.slice a2 (k + 1) c2) (k + 1) (strCells (N.keys.take k) ++ [.string (strOf X)]) := owns_stay ho2 (fun q hq => set_stay _ _ _ (fun e => owns_ne ho2 st2.z.heap (by decide) (e ▸ hq)))
        have hsz3 : w.heap.size ≤ (W2.setCell ⟨w.heap.size + 1 + 1, 1, none⟩ (.slice a2 (k + 1) c2)).heap.size := by rw [size_set]; have h1 := hg2.size; rw [show (U0.alloc (.cells #[.string (strOf X)] 9)).heap.size = U0.heap.size + 1 by simp] at h1; omega
        go_wp2
        go_roundw
        case rel =>
          refine ⟨k + 1, _, by omega, by go_num, st3, hsz3, ?_⟩
          rw [HTk.out]
          exact ho3
        case measure => simp [intOf]; omega

    · have hkL : k = nk := by omega
      subst hkL
      rw [HTK.out] at HU
      generalize hB : wr.heap.size = B at *
      have HBE := hide hB
      have HBB : Hid (w.heap.size ≤ B) := by rw [← HBE.out]; exact HST.out.below.size
      have HUB : Hid (∀ q, u.ownBlock = some q → q < B) := fun q hq => by rw [← HBE.out]; exact (HU.out.lt q hq).2
      clear hB
      generalize hW8 : wr = W8 at *
      have HW8 := hide hW8
      clear hW8
      obtain ⟨k0, k1, k2, k3, k4, f0, f1, f2, f3, f4⟩ := HST.out.x.cells
      go_wp2
      have HSTA := HST
      have HUA := HU
      generalize u = uk at *
      generalize k = nk at *
      go_loopw [5] (fun i wr => ∃ (k : Nat) (u : Value), k ≤ nv ∧ i = .int .i64 (k : Int) ∧ Tri w wr (.bool lf) (.slice ak nk ck) (.slice av nv cv) (.slice ai ni ci) (.int .i64 x) (.bool lf) (uk) (u) (.slice ai ni ci) (.int .i64 x) ∧ B ≤ wr.heap.size ∧ wr.ownsRow B 9 1 u k (strCells (N.vals.take k)) ∧ wr.ownsRow w.heap.size 9 1 uk nk (strCells N.keys)) (fun i _ => nv - (intOf i).toNat)
      case atStart => exact ⟨0, .slice none 0 0, by omega, rfl, HST.out, by rw [HBE.out]; exact Nat.le_refl _, World.ownsRow_nil _ _ _ _, HU.out⟩
      case round =>
        obtain ⟨k, u, hkn, rfl, hst, hsz, hu, huk⟩ := hrel
        have HST := hide hst
        have HU := hide hu
        have HUK := hide huk
        have HBS := hide hsz
        have HSZ : Hid ((k + 1) * 16 ≤ 140737488355328) := by rw [Hid]; omega
        clear hst hu hsz huk
        by_cases hlt : k < nv
        · have HSZ := HSZ
          obtain ⟨g, o, a, d, hao, hcell, hs, hd1, hd2⟩ := H.out.vals.get k (by rw [HNV.out]; exact hlt)
          subst hao
          have HTk := hide (take_succ' (L := N.vals) (k := k) (by rw [HNV.out]; exact hlt))
          have hgl := World.block_lt_of_cell? w _ hcell
          have hc' := (HST.out.below.cell hgl).trans hcell
          obtain ⟨k0, k1, k2, k3, k4, f0, f1, f2, f3, f4⟩ := HST.out.x.cells
          generalize N.vals.getD k [] = X at *
          generalize hxl : X.length = xl at *
          have HXL := hide hxl
          clear hxl
          go_upto_region 9 with fail
          clear k0 k1 k2 k3 k4 f0 f1 f2 f3 f4
          obtain ⟨au, cu, eu⟩ := owns_len HU.out
          subst eu
          have HSS : Hid (∀ (W : World) (z1 z2 : Value), Tri w W (.bool lf) (.slice ak nk ck) (.slice (some ⟨g, o, none⟩) nv cv) (.slice ai ni ci) (.int .i64 x) (.bool lf) z1 z2 (.slice ai ni ci) (.int .i64 x) → W.cell? ⟨w.heap.size, 2, none⟩ = some (.slice (some ⟨g, o, none⟩) nv cv) ∧ W.cell? ⟨g, o + k, none⟩ = some (.slice a xl d) ∧ Sl W (.slice a xl d) X) := fun W z1 z2 st => ⟨st.x.cells.k2, (st.below.cell hgl).trans hcell, hs.belowW st.below⟩
          have st0 : Tri w wr.drew (.bool lf) (.slice ak nk ck) (.slice (some ⟨g, o, none⟩) nv cv) (.slice ai ni ci) (.int .i64 x) (.bool lf) (uk) (.slice au k cu) (.slice ai ni ci) (.int .i64 x) := HST.out.next (below_drewN _ _ 1)
          have hu0 : wr.drew.ownsRow B 9 1 (.slice au k cu) k (strCells (N.vals.take k)) := owns_below HU.out (below_drewN _ _ 1) (Nat.le_refl _)
          have hk0 : wr.drew.ownsRow w.heap.size 9 1 uk nk (strCells N.keys) := owns_below HUK.out (below_drewN _ _ 1) (Nat.le_refl _)
          refine wp_region_held_drew (S := fun w' => w'.cell? ⟨w.heap.size, 2, none⟩ = some (.slice (some ⟨g, o, none⟩) nv cv) ∧ w'.cell? ⟨g, o + k, none⟩ = some (.slice a xl d) ∧ Sl w' (.slice a xl d) X) (by kernel_rfl) (HSS.out _ _ _ st0) (fun hH => ?_)
          refine take_to 0 38 (.pointer (some ⟨w.heap.size + 1 + 1, 2, none⟩)) rfl (by kernel_rfl) (by kernel_rfl) (by kernel_rfl) (fun _ _ _ h => h) rfl (by rfl) (fun w hw => by rfl) hH ?_
          simp only [Act.put, List.setIfInBounds_toArray, List.set_cons_zero, List.set_cons_succ]
          refine take_to 2 40 (.pointer (some ⟨w.heap.size, 2, none⟩)) rfl (by kernel_rfl) (by kernel_rfl) (by kernel_rfl) (fun _ _ _ h => h) rfl (by rfl) (fun w hw => by rfl) hH ?_
          simp only [Act.put, List.setIfInBounds_toArray, List.set_cons_zero, List.set_cons_succ]
          refine take_to 3 41 (.slice (some ⟨g, o, none⟩) nv cv) rfl (by kernel_rfl) (by kernel_rfl) (by kernel_rfl) (fun _ _ _ h => h) rfl (by rfl) (fun w hw => op_load _ _ 22 (.tmp 40) rfl (.pointer (some ⟨_, 2, none⟩)) _ rfl (run_loadAny w _ 2 22 _ Try.isAgg22' hw.1)) hH ?_
          simp only [Act.put, List.setIfInBounds_toArray, List.set_cons_zero, List.set_cons_succ]
          refine take_to 4 42 (.int .i64 (k : Int)) rfl (by kernel_rfl) (by kernel_rfl) (by kernel_rfl) (fun _ _ _ h => h) rfl (by rfl) (fun w hw => by rfl) hH ?_
          simp only [Act.put, List.setIfInBounds_toArray, List.set_cons_zero, List.set_cons_succ]
          refine take_to 5 43 (.pointer (some ⟨g, o + k, none⟩)) rfl (by kernel_rfl) (by kernel_rfl) (by kernel_rfl) (fun _ _ _ h => h) rfl (by rfl) (fun w hw => op_index _ _ 22 (.tmp 41) (.tmp 42) rfl _ _ _ rfl rfl (run_index22' w g o nv cv k hlt)) hH ?_
          simp only [Act.put, List.setIfInBounds_toArray, List.set_cons_zero, List.set_cons_succ]
          refine take_to 6 44 (.slice a xl d) rfl (by kernel_rfl) (by kernel_rfl) (by kernel_rfl) (fun _ _ _ h => h) rfl (by rfl) (fun w hw => op_load _ _ 28 (.tmp 43) rfl (.pointer (some ⟨_, _, none⟩)) _ rfl (run_loadAny w _ _ 28 _ Try.isAgg28' hw.2.1)) hH ?_
          simp only [Act.put, List.setIfInBounds_toArray, List.set_cons_zero, List.set_cons_succ]
          refine take_to 7 45 (.string (strOf X)) rfl (by kernel_rfl) (by kernel_rfl) (by kernel_rfl) (fun _ _ _ h => h) rfl (by rfl) (fun w hw => op_conv _ _ 28 9 (.tmp 44) rfl (.slice a xl d) _ rfl (run_str hw.2.2)) hH ?_
          simp only [Act.put, List.setIfInBounds_toArray, List.set_cons_zero, List.set_cons_succ]
          clear hH
          have hbs0 : B ≤ wr.drew.heap.size := HBS.out
          generalize wr.drew = U0 at st0 hu0 hbs0 hk0 ⊢
          have st1 := st0.next ((Below.refl _ _).alloc (Nat.le_refl _) (.cells #[.string (strOf X)] 9))
          have hu1 := owns_below hu0 ((Below.refl _ _).alloc (Nat.le_refl _) (.cells #[.string (strOf X)] 9)) (Nat.le_refl _)
          have hk1 := owns_below hk0 ((Below.refl _ _).alloc (Nat.le_refl _) (.cells #[.string (strOf X)] 9)) (Nat.le_refl _)
          have hrow : Row (U0.alloc (.cells #[.string (strOf X)] 9)) (.slice (some ⟨U0.heap.size, 0, none⟩) 1 1) 1 [.string (strOf X)] := ⟨_, 1, rfl, Nat.le_refl _, by simp only [maxLen]; omega, fun _ => ⟨U0.heap.size, 0, rfl, fun j u hu => by rw [Nat.zero_add, cell_row (heap_alloc_new U0 _)]; simpa using hu⟩⟩
          refine wpAnyH_all (rs := [1, 8]) (by kernel_rfl) (by simp) ?_
          intro n hn
          rcases (by simpa using hn : n = 1 ∨ n = 8) with rfl | rfl
          · refine op_to 39 (.slice au k cu) U0 rfl rfl (by rfl) (op_load _ _ 27 (.tmp 38) rfl (.pointer (some ⟨_, 2, none⟩)) _ rfl (run_loadAny _ _ 2 27 _ Try.isAgg27 st0.z.cells.k2)) ⟨HSS.out _ _ _ st0, ?_⟩
            simp only [Act.put, List.setIfInBounds_toArray, List.set_cons_zero, List.set_cons_succ]
            refine step_to 8 46 (.slice (some ⟨U0.heap.size, 0, none⟩) 1 1) (U0.alloc (.cells #[.string (strOf X)] 9)) rfl (by kernel_rfl) rfl (by rfl) (op_buildStr _ _ (.tmp 45) rfl _ rfl _) (HSS.out _ _ _ st1) ?_
            simp only [Act.put, List.setIfInBounds_toArray, List.set_cons_zero, List.set_cons_succ]
            refine step_append_row 9 47 rfl (by kernel_rfl) rfl rfl (.tmp 39) (.tmp 46) 27 rfl (B) 9 (.string { data := #[] }) 1 16 Try.underlying27 Try.info9 rfl (by omega) _ _ _ _ 1 [.string (strOf X)] rfl rfl hu1 hrow rfl (by simp [Value.oneCell']) (by have := HSZ.out; omega) (by have := HSZ.out; omega) (by rw [show (U0.alloc (.cells #[.string (strOf X)] 9)).heap.size = U0.heap.size + 1 by simp]; omega) ?_
            intro v' W2 ho2 hg2
            have st2 := st1.grown hu1 HBB.out hg2
            obtain ⟨a2, c2, e2⟩ := owns_len ho2
            subst e2
            have hk2 := owns_stay hk1 (fun q hq => hg2.block q (hk1.lt q hq).2 (fun e => by have h1 := HUB.out q hq; have h2 := (hu1.lt q e.symm).1; omega))
            refine ⟨HSS.out _ _ _ st2, ?_⟩
            simp only [Act.put, List.setIfInBounds_toArray, List.set_cons_zero, List.set_cons_succ]
            refine step_to 10 48 (.pointer (some ⟨w.heap.size + 1 + 1, 2, none⟩)) W2 rfl (by kernel_rfl) rfl (by rfl) (by rfl) (HSS.out _ _ _ st2) ?_
            simp only [Act.put, List.setIfInBounds_toArray, List.set_cons_zero, List.set_cons_succ]
            have st3 := st2.set2 (.slice a2 (k + 1) c2)
            refine step_store_to 11 (W2.setCell ⟨w.heap.size + 1 + 1, 2, none⟩ (.slice a2 (k + 1) c2)) rfl (by kernel_rfl) rfl (by rfl) 27 (.tmp 48) (.tmp 47) rfl (.pointer (some ⟨w.heap.size + 1 + 1, 2, none⟩)) (.slice a2 (k + 1) c2) rfl rfl (storeSl _ _ _ _ _ _ _ _ _ rfl (.inl rfl) st2.z.cells.k2 st2.z.cells.f2) (HSS.out _ _ _ st3) ?_
            refine wpAnyH_done (by kernel_rfl) ?_ _
            have ho3 : (W2.setCell ⟨w.heap.size + 1 + 1, 2, none⟩ (.slice a2 (k + 1) c2)).ownsRow (B) 9 1 (.slice a2 (k + 1) c2) (k + 1) (strCells (N.vals.take k) ++ [.string (strOf X)]) := owns_stay ho2 (fun q hq => set_stay _ _ _ (fun e => owns_ne ho2 st2.z.heap (by decide) (e ▸ hq)))
            have hk3 : (W2.setCell ⟨w.heap.size + 1 + 1, 2, none⟩ (.slice a2 (k + 1) c2)).ownsRow w.heap.size 9 1 uk nk (strCells N.keys) := owns_stay hk2 (fun q hq => set_stay _ _ _ (fun e => owns_ne hk2 st2.z.heap (by decide) (e ▸ hq)))
            have hsz3 : B ≤ (W2.setCell ⟨w.heap.size + 1 + 1, 2, none⟩ (.slice a2 (k + 1) c2)).heap.size := by rw [size_set]; have h1 := hg2.size; rw [show (U0.alloc (.cells #[.string (strOf X)] 9)).heap.size = U0.heap.size + 1 by simp] at h1; omega
            go_wp2
            go_roundw
            case rel =>
              refine ⟨k + 1, _, by omega, by go_num, st3, hsz3, ?_, hk3⟩
              rw [HTk.out]
              exact ho3
            case measure => simp [intOf]; omega
          · refine op_to 46 (.slice (some ⟨U0.heap.size, 0, none⟩) 1 1) (U0.alloc (.cells #[.string (strOf X)] 9)) rfl rfl (by rfl) (op_buildStr _ _ (.tmp 45) rfl _ rfl _) ⟨HSS.out _ _ _ st1, ?_⟩
            simp only [Act.put, List.setIfInBounds_toArray, List.set_cons_zero, List.set_cons_succ]
            refine step_to 1 39 (.slice au k cu) (U0.alloc (.cells #[.string (strOf X)] 9)) rfl (by kernel_rfl) rfl (by rfl) (op_load _ _ 27 (.tmp 38) rfl (.pointer (some ⟨_, 2, none⟩)) _ rfl (run_loadAny _ _ 2 27 _ Try.isAgg27 st1.z.cells.k2)) (HSS.out _ _ _ st1) ?_
            simp only [Act.put, List.setIfInBounds_toArray, List.set_cons_zero, List.set_cons_succ]
            refine step_append_row 9 47 rfl (by kernel_rfl) rfl rfl (.tmp 39) (.tmp 46) 27 rfl (B) 9 (.string { data := #[] }) 1 16 Try.underlying27 Try.info9 rfl (by omega) _ _ _ _ 1 [.string (strOf X)] rfl rfl hu1 hrow rfl (by simp [Value.oneCell']) (by have := HSZ.out; omega) (by have := HSZ.out; omega) (by rw [show (U0.alloc (.cells #[.string (strOf X)] 9)).heap.size = U0.heap.size + 1 by simp]; omega) ?_
            intro v' W2 ho2 hg2
            have st2 := st1.grown hu1 HBB.out hg2
            obtain ⟨a2, c2, e2⟩ := owns_len ho2
            subst e2
            have hk2 := owns_stay hk1 (fun q hq => hg2.block q (hk1.lt q hq).2 (fun e => by have h1 := HUB.out q hq; have h2 := (hu1.lt q e.symm).1; omega))
            refine ⟨HSS.out _ _ _ st2, ?_⟩
            simp only [Act.put, List.setIfInBounds_toArray, List.set_cons_zero, List.set_cons_succ]
            refine step_to 10 48 (.pointer (some ⟨w.heap.size + 1 + 1, 2, none⟩)) W2 rfl (by kernel_rfl) rfl (by rfl) (by rfl) (HSS.out _ _ _ st2) ?_
            simp only [Act.put, List.setIfInBounds_toArray, List.set_cons_zero, List.set_cons_succ]
            have st3 := st2.set2 (.slice a2 (k + 1) c2)
            refine step_store_to 11 (W2.setCell ⟨w.heap.size + 1 + 1, 2, none⟩ (.slice a2 (k + 1) c2)) rfl (by kernel_rfl) rfl (by rfl) 27 (.tmp 48) (.tmp 47) rfl (.pointer (some ⟨w.heap.size + 1 + 1, 2, none⟩)) (.slice a2 (k + 1) c2) rfl rfl (storeSl _ _ _ _ _ _ _ _ _ rfl (.inl rfl) st2.z.cells.k2 st2.z.cells.f2) (HSS.out _ _ _ st3) ?_
            refine wpAnyH_done (by kernel_rfl) ?_ _
            have ho3 : (W2.setCell ⟨w.heap.size + 1 + 1, 2, none⟩ (.slice a2 (k + 1) c2)).ownsRow (B) 9 1 (.slice a2 (k + 1) c2) (k + 1) (strCells (N.vals.take k) ++ [.string (strOf X)]) := owns_stay ho2 (fun q hq => set_stay _ _ _ (fun e => owns_ne ho2 st2.z.heap (by decide) (e ▸ hq)))
            have hk3 : (W2.setCell ⟨w.heap.size + 1 + 1, 2, none⟩ (.slice a2 (k + 1) c2)).ownsRow w.heap.size 9 1 uk nk (strCells N.keys) := owns_stay hk2 (fun q hq => set_stay _ _ _ (fun e => owns_ne hk2 st2.z.heap (by decide) (e ▸ hq)))
            have hsz3 : B ≤ (W2.setCell ⟨w.heap.size + 1 + 1, 2, none⟩ (.slice a2 (k + 1) c2)).heap.size := by rw [size_set]; have h1 := hg2.size; rw [show (U0.alloc (.cells #[.string (strOf X)] 9)).heap.size = U0.heap.size + 1 by simp] at h1; omega
            go_wp2
            go_roundw
            case rel =>
              refine ⟨k + 1, _, by omega, by go_num, st3, hsz3, ?_, hk3⟩
              rw [HTk.out]
              exact ho3
            case measure => simp [intOf]; omega

        · have hkL : k = nv := by omega
          subst hkL
          rw [HTV.out] at HU
          obtain ⟨k0, k1, k2, k3, k4, f0, f1, f2, f3, f4⟩ := HST.out.x.cells
          obtain ⟨i0, i1, i2, i3, i4, q0, q1, q2, q3, q4⟩ := HST.out.y.cells
          obtain ⟨j0, j1, j2, j3, j4, g0, g1, g2, g3, g4⟩ := HST.out.z.cells
          obtain ⟨a1, c1, e1⟩ := owns_len HUK.out
          obtain ⟨a2, c2, e2⟩ := owns_len HU.out
          subst e1 e2
          have HY := hide (HST.out.y.setAll (.bool lf) (.slice a1 nk c1) (.slice a2 k c2) (.slice ai ni ci) (.int .i64 x))
          have HBE2 := hide (below_setAll HST.out.below (w.heap.size + 1) (.bool lf) (.slice a1 nk c1) (.slice a2 k c2) (.slice ai ni ci) (.int .i64 x) (by omega) HST.out.below.size)
          have hy := HST.out.y
          go_wp2
          refine bodyPost_ret (v := .agg #[.bool lf, .slice a1 nk c1, .slice a2 k c2, .slice ai ni ci, .int .i64 x]) (results_cell_row Try.results17 _ _ (w.heap.size + 1) 43 #[.bool lf, .slice a1 nk c1, .slice a2 k c2, .slice ai ni ci, .int .i64 x] (0, 0) _ rfl HY.out.heap Try.underlying43 rfl Try.size43) rfl ?_
          refine ⟨_, _, rfl, HBE2.out, ?_, ?_, ?_⟩
          · have := owns_sets HUK.out hy.heap (by decide) (.bool lf) (.slice a1 nk c1) (.slice a2 k c2) (.slice ai ni ci) (.int .i64 x)
            unfold StAt
            rw [HNK.out]
            exact Row.of_owns this
          · have := owns_sets HU.out hy.heap (by decide) (.bool lf) (.slice a1 nk c1) (.slice a2 k c2) (.slice ai ni ci) (.int .i64 x)
            unfold StAt
            rw [HNV.out]
            exact Row.of_owns this
          · exact H.out.kids.belowW HBE2.out
end Go.Proofs.Ytjcobejaldfibaa
