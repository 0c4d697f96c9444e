/- copiedTexts and copied, with what their capacities are. -/
import Derived.Test.YtjcobejaldfibaaNod
namespace Go.Proofs.Ytjcobejaldfibaa
open Go.RowKit
set_option linter.unusedVariables false
set_option linter.unusedSimpArgs false

/-- A slice whose capacity is its length. -/
def Full (v : Value) : Prop := ∃ g n, v = .slice (some ⟨g, 0, none⟩) n n
set_option maxHeartbeats 2000000 in
theorem copyT_full {w : World} {v : Value} {L : List (List UInt8)} (h : TsAt w v L) (hl : 24 * L.length ≤ 140737488355328) (hk : ∀ k ∈ L, k.length ≤ 140737488355328) :
    Calls Try.prog 48 #[v] w fun e w' => ∃ v', e = .returned v' ∧ Below w.heap.size w w' ∧ TsOwn w.heap.size w' v' L ∧ Full v' := by
  obtain ⟨ao, c, rfl, hc1, hc2⟩ := h.len
  simp only [maxLen] at hc2
  have H := hide h
  have HK : Hid (∀ k, k < L.length → (L.getD k []).length ≤ 140737488355328) := fun k hkl => hk _ (by simp [hkl])
  have HT : Hid (∀ k, k < L.length → L.take (k + 1) = L.take k ++ [L.getD k []]) := fun k hk => getD_take_succ hk
  have HTL : Hid (L.take L.length = L) := List.take_length
  have hmk : ∀ W, (Instr.makeSlice 22 (.int .i64 (L.length : Int)) (.int .i64 (L.length : Int))).run Try.prog W = .ok (.slice (some ⟨W.heap.size, 0, none⟩) L.length L.length) (W.alloc (.cells (Array.replicate L.length nilS) 28)) := makeT L.length hl
  have HB0 : Hid (Below w.heap.size w (w.alloc (.cells (Array.replicate L.length nilS) 28))) := (Below.refl _ _).alloc (Nat.le_refl _) _
  have HG0 : Hid ((w.alloc (.cells (Array.replicate L.length nilS) 28)).heap[w.heap.size]? = some (.cells (Array.replicate L.length nilS) 28 (0, 0))) := heap_alloc_new w _
  clear h hk
  generalize hL : L.length = n at *
  have HLE := hide hL
  clear hL
  go_enter Try.func48, Try.ntmps48
  go_wp2
  go_loopw [11] (fun i wr => ∃ (k : Nat) (us : List Value), k ≤ n ∧ i = .int .i64 (k : Int) ∧ us.length = k ∧ Below w.heap.size w wr ∧ w.heap.size < wr.heap.size ∧ wr.heap[w.heap.size]? = some (.cells (us ++ List.replicate (n - k) nilS).toArray 28 (0, 0)) ∧ OwnT w.heap.size wr us (L.take k)) (fun i _ => n - (intOf i).toNat)
  case atStart =>
    exact ⟨0, [], by omega, rfl, rfl, HB0.out, by simp, by simpa using HG0.out, trivial⟩
  case round =>
    obtain ⟨k, us, hkn, rfl, hul, hB, hgs, hG, hO⟩ := hrel
    have HB := hide hB
    have HG := hide hG
    have HO := hide hO
    have HUL := hide hul
    have HGS := hide hgs
    clear hB hG hO hul hgs
    by_cases hlt : k < n
    · obtain ⟨g', o', a, d, hao, hcell, hs, hd1, hd2⟩ := (H.out.below HB.out (Nat.le_refl _)).get k (by rw [HLE.out]; exact hlt)
      subst hao
      have HCL := hide (clone_any hs (HK.out k hlt))
      have HTk := hide (HT.out k hlt)
      have hgl := World.block_lt_of_cell? wr _ hcell
      clear hs
      generalize hX : L.getD k [] = X at *
      clear hX
      generalize hxl : X.length = xl at *
      clear hxl
      go_wp2_with fail
      refine HCL.out.mono ?_
      rintro e W1 ⟨u1, rfl, hb1⟩
      obtain ⟨a1, c1, e1, _, _⟩ := hb1.sl.len
      have hG1 : W1.heap[w.heap.size]? = some (.cells (us ++ List.replicate (n - k) nilS).toArray 28 (0, 0)) := (hb1.below.block w.heap.size HGS.out).trans HG.out
      have hcl1 : W1.cell? ⟨w.heap.size, k, none⟩ = some (.slice none 0 0) := by
        rw [cell_row hG1]
        have hu := HUL.out
        simp [hu, List.getElem?_append_right, List.getElem?_replicate]
        omega
      have hfz1 : W1.frozen? ⟨w.heap.size, k, none⟩ = false := frozen_row hG1
      have HB1 := hide hb1
      have HG1 := hide hG1
      clear hb1 hG1
      subst e1
      go_wp2
      go_roundw
      case rel =>
        have hu := HUL.out
        have hoff : Off [w.heap.size] W1 (W1.setCell ⟨w.heap.size, k, none⟩ (.slice a1 X.length c1)) := (Off.refl _ _).setCell _ _ (.inl (by simp))
        have hnk : n - k = n - (k + 1) + 1 := by omega
        have hw1 : wr.heap.size ≤ W1.heap.size := HB1.out.below.size
        refine ⟨k + 1, us ++ [.slice a1 X.length c1], by omega, by go_num, by simp [hu], ?_, ?_, ?_, ?_⟩
        · exact (HB.out.trans (HB1.out.below.mono (by have := HGS.out; omega))).trans (hoff.below (by have := HGS.out; omega) (by simp))
        · have := hoff.size; have := HGS.out; omega
        · have := heap_set_same (o := k) (.slice a1 X.length c1) HG1.out
          rw [this, hnk]
          conv => lhs; rw [← hu, set_next]
          rw [hu]
        · rw [HTk.out]
          have hst : ∀ (q : Nat) (C : Array Value) (fr : Nat × Nat), w.heap.size ≤ q → W1.heap[q]? = some (.cells C 5 fr) → (W1.setCell ⟨w.heap.size, k, none⟩ (.slice a1 X.length c1)).heap[q]? = W1.heap[q]? := fun q C fr _ hq => by
            refine hoff.block q (lt_of_heap hq) (fun hm => ?_)
            simp at hm
            subst hm
            rw [HG1.out] at hq
            simp at hq
          refine ((HO.out.below HB1.out.below (Nat.le_refl _)).stay hst).append ?_
          have : OwnT w.heap.size W1 [.slice a1 X.length c1] [X] := ⟨owns_mono HB1.out.own (by have := HGS.out; omega), trivial⟩
          exact this.stay hst
      case measure => simp [intOf]; omega
    · have hkL : k = n := by omega
      subst hkL
      go_wp2
      go_ret
      rw [HTL.out] at HO
      refine ⟨_, rfl, HB.out, ⟨us, HO.out, ?_⟩, _, _, rfl⟩
      have hG := HG.out
      rw [Nat.sub_self] at hG
      simp at hG
      rw [HLE.out]
      refine ⟨by rw [HUL.out]; omega, .inr ⟨w.heap.size, k, us.toArray, rfl, Nat.le_refl _, hG, Nat.le_refl _, by simp only [maxLen]; omega, by simp [HUL.out], by rw [List.take_of_length_le (by simp [HUL.out])]⟩⟩
set_option maxHeartbeats 2000000 in
theorem copied_full {w : World} {N : Nd} {vk vv vi : Value} (h : NdAt w N vk vv vi) (hf : Fits N) :
    Calls Try.prog 26 #[.agg #[.bool N.leaf, vk, vv, vi, .int .i64 N.next]] w fun e w' => ∃ vk' vv' vi', e = .returned (.agg #[.bool N.leaf, vk', vv', vi', .int .i64 N.next]) ∧ Below w.heap.size w w' ∧ NdOwn w.heap.size w' N vk' vv' vi' ∧ Full vk' ∧ Full vv' := by
  obtain ⟨ak, ck, rfl, hk1, hk2⟩ := h.keys.len
  obtain ⟨av, cv, rfl, hv1, hv2⟩ := h.vals.len
  obtain ⟨ai, ci, rfl, hi1, hi2⟩ := h.kids.len
  have H := hide h
  have HF := hide hf
  have HB0 : Hid (Below w.heap.size w ((w.alloc (.cells #[.bool N.leaf, .slice ak N.keys.length ck, .slice av N.vals.length cv, .slice ai N.kids.length ci, .int .i64 N.next] 26)).alloc (.cells #[.bool false, .slice none 0 0, .slice none 0 0, .slice none 0 0, .int .i64 0] 26))) := by
    have h1 := (Below.refl w.heap.size w).alloc (Nat.le_refl _) (.cells #[.bool N.leaf, .slice ak N.keys.length ck, .slice av N.vals.length cv, .slice ai N.kids.length ci, .int .i64 N.next] 26)
    exact h1.alloc h1.size _
  have HX0 := hide ((Box.new (t := 26) w (.bool N.leaf) (.slice ak N.keys.length ck) (.slice av N.vals.length cv) (.slice ai N.kids.length ci) (.int .i64 N.next)).alloc (.cells #[.bool false, .slice none 0 0, .slice none 0 0, .slice none 0 0, .int .i64 0] 26))
  have HY0 := hide (Box.new (t := 26) (w.alloc (.cells #[.bool N.leaf, .slice ak N.keys.length ck, .slice av N.vals.length cv, .slice ai N.kids.length ci, .int .i64 N.next] 26)) (.bool false) (.slice none 0 0) (.slice none 0 0) (.slice none 0 0) (.int .i64 0))
  have HC1 : Hid (∀ W, Below w.heap.size w W → Calls Try.prog 48 #[.slice ak N.keys.length ck] W fun e w' => ∃ v', e = .returned v' ∧ Below W.heap.size W w' ∧ TsOwn W.heap.size w' v' N.keys ∧ Full v') := fun W hW => copyT_full (H.out.keys.belowW hW) HF.out.keys HF.out.key
  have HC2 : Hid (∀ W, Below w.heap.size w W → Calls Try.prog 48 #[.slice av N.vals.length cv] W fun e w' => ∃ v', e = .returned v' ∧ Below W.heap.size W w' ∧ TsOwn W.heap.size w' v' N.vals ∧ Full v') := fun W hW => copyT_full (H.out.vals.belowW hW) HF.out.vals HF.out.val
  have HC3 : Hid (∀ W, Below w.heap.size w W → Calls Try.prog 49 #[.slice ai N.kids.length ci] W fun e w' => ∃ v', e = .returned v' ∧ Below W.heap.size W w' ∧ W.heap.size ≤ w'.heap.size ∧ w'.ownsRow W.heap.size 3 1 v' N.kids.length (intCells N.kids)) := fun W hW => (cloneI_any (H.out.kids.belowW hW) HF.out.kids).mono (fun e w' ⟨v', h1, h2, h3⟩ => ⟨v', h1, h2, h2.size, h3⟩)
  clear h hf hk1 hk2 hv1 hv2 hi1 hi2
  generalize N.keys.length = nk at *
  generalize N.vals.length = nv at *
  generalize hni : N.kids.length = ni at *
  generalize N.leaf = lf at *
  generalize N.next = x at *
  go_enter Try.func26, Try.ntmps26
  go_upto_region 1 with fail
  have hsz : ((w.alloc (.cells #[.bool lf, .slice ak nk ck, .slice av nv cv, .slice ai ni ci, .int .i64 x] 26)).heap.size) = w.heap.size + 1 := by simp
  rw [hsz] at HY0
  clear hsz
  generalize ((w.alloc (.cells #[.bool lf, .slice ak nk ck, .slice av nv cv, .slice ai ni ci, .int .i64 x] 26)).alloc (.cells #[.bool false, .slice none 0 0, .slice none 0 0, .slice none 0 0, .int .i64 0] 26)) = W0 at *
  obtain ⟨k0, k1, k2, k3, k4, f0, f1, f2, f3, f4⟩ := HX0.out.cells
  go_wp2_with fail
  refine (HC1.out W0 HB0.out).mono ?_
  rintro e W1 ⟨u1, rfl, hb1, ho1, hfu1⟩
  obtain ⟨a1, c1, e1, _, _⟩ := ho1.at.len
  subst e1
  have HFU1 := hide hfu1
  clear hfu1
  have hbW1 := HB0.out.trans (hb1.mono HB0.out.size)
  have hlt := HX0.out.lt
  have HX1 := hide ((HX0.out.belowW hb1).set1 (.slice a1 N.keys.length c1))
  have HY1 := hide ((HY0.out.belowW hb1).apart w.heap.size 1 (.slice a1 N.keys.length c1) (by omega))
  have HB1 := hide (below_set hbW1 hbW1.size w.heap.size 1 (.slice a1 N.keys.length c1) (Nat.le_refl _))
  have HT1 := hide (ho1.set w.heap.size 1 (.slice a1 N.keys.length c1) hlt)
  have HL0 := hide HX0.out.lt
  clear k0 k1 k2 k3 k4 f0 f1 f2 f3 f4
  obtain ⟨k0, k1, k2, k3, k4, f0, f1, f2, f3, f4⟩ := (HX0.out.belowW hb1).cells
  clear hb1 ho1 hbW1
  go_upto_region 2 with fail
  clear k0 k1 k2 k3 k4 f0 f1 f2 f3 f4
  generalize hW : W1.setCell ⟨w.heap.size, 1, none⟩ (.slice a1 N.keys.length c1) = W2 at *
  clear hW
  obtain ⟨k0, k1, k2, k3, k4, f0, f1, f2, f3, f4⟩ := HX1.out.cells
  go_wp2_with fail
  refine (HC2.out W2 HB1.out).mono ?_
  rintro e W3 ⟨u3, rfl, hb3, ho3, hfu3⟩
  obtain ⟨a3, c3, e3, _, _⟩ := ho3.at.len
  subst e3
  have HFU3 := hide hfu3
  clear hfu3
  have hbW3 := HB1.out.trans (hb3.mono HB1.out.size)
  have hlt := HX1.out.lt
  have HX3 := hide ((HX1.out.belowW hb3).set2 (.slice a3 N.vals.length c3))
  have HY3 := hide ((HY1.out.belowW hb3).apart w.heap.size 2 (.slice a3 N.vals.length c3) (by omega))
  have HB3 := hide (below_set hbW3 hbW3.size w.heap.size 2 (.slice a3 N.vals.length c3) (Nat.le_refl _))
  have HT3 := hide ((HT1.out.belowW hb3).set w.heap.size 2 (.slice a3 N.vals.length c3) HL0.out)
  have HV3 := hide (ho3.set w.heap.size 2 (.slice a3 N.vals.length c3) hlt)
  have HAP : Hid (∀ k, (Value.slice a1 N.keys.length c1).ownBlock = some k → (Value.slice a3 N.vals.length c3).ownBlock ≠ some k) := fun k h1 h2 => by
    obtain ⟨_, _, q1⟩ := HT1.out.out
    obtain ⟨_, _, q3⟩ := ho3.out
    have := (q1.lt k h1).2
    have := (q3.lt k h2).1
    omega
  have HL2 := hide HX1.out.lt
  clear k0 k1 k2 k3 k4 f0 f1 f2 f3 f4
  obtain ⟨k0, k1, k2, k3, k4, f0, f1, f2, f3, f4⟩ := (HX1.out.belowW hb3).cells
  clear hb3 ho3 hbW3
  go_upto_region 3 with fail
  clear k0 k1 k2 k3 k4 f0 f1 f2 f3 f4
  generalize hW : W3.setCell ⟨w.heap.size, 2, none⟩ (.slice a3 N.vals.length c3) = W4 at *
  clear hW
  obtain ⟨k0, k1, k2, k3, k4, f0, f1, f2, f3, f4⟩ := HX3.out.cells
  go_wp2_with fail
  refine (HC3.out W4 HB3.out).mono ?_
  rintro e W5 ⟨u5, rfl, hb5, hs5, ho5⟩
  obtain ⟨a5, c5, e5⟩ := owns_len ho5
  subst e5
  have hbW5 := HB3.out.trans (hb5.mono HB3.out.size)
  have hlt := HX3.out.lt
  have HX5 := hide ((HX3.out.belowW hb5).set3 (.slice a5 ni c5))
  have HY5 := hide ((HY3.out.belowW hb5).apart w.heap.size 3 (.slice a5 ni c5) (by omega))
  have HB5 := hide (below_set hbW5 hbW5.size w.heap.size 3 (.slice a5 ni c5) (Nat.le_refl _))
  have HT5 := hide ((HT3.out.belowW hb5).set w.heap.size 3 (.slice a5 ni c5) HL0.out)
  have HV5 := hide ((HV3.out.belowW hb5).set w.heap.size 3 (.slice a5 ni c5) HL2.out)
  have HI5 := hide (owns_set ho5 w.heap.size 3 (.slice a5 ni c5) hlt)
  have HL4 := hide HX3.out.lt
  clear k0 k1 k2 k3 k4 f0 f1 f2 f3 f4
  obtain ⟨k0, k1, k2, k3, k4, f0, f1, f2, f3, f4⟩ := (HX3.out.belowW hb5).cells
  clear hb5 ho5 hbW5 hs5
  go_upto_region 4 with fail
  clear k0 k1 k2 k3 k4 f0 f1 f2 f3 f4
  generalize hW : W5.setCell ⟨w.heap.size, 3, none⟩ (.slice a5 ni c5) = W6 at *
  clear hW
  obtain ⟨k0, k1, k2, k3, k4, f0, f1, f2, f3, f4⟩ := HX5.out.cells
  obtain ⟨j0, j1, j2, j3, j4, g0, g1, g2, g3, g4⟩ := HY5.out.cells
  go_wp2
  refine bodyPost_ret (v := .agg #[.bool lf, .slice a1 N.keys.length c1, .slice a3 N.vals.length c3, .slice a5 ni c5, .int .i64 x]) (results_cell_row Try.results26 _ _ (w.heap.size + 1) 26 #[.bool lf, .slice a1 N.keys.length c1, .slice a3 N.vals.length c3, .slice a5 ni c5, .int .i64 x] (0, 0) _ rfl (HY5.out.setAll _ _ _ _ _).heap Try.underlying26 rfl Try.size26) rfl ?_
  refine ⟨_, _, _, rfl, below_setAll HB5.out (w.heap.size + 1) _ _ _ _ _ (by omega) HB5.out.size, ?_⟩
  have hHB := HB5.out.size
  have l0 : w.heap.size + 1 < W0.heap.size := HY0.out.lt
  have l2 : w.heap.size + 1 < W2.heap.size := HY1.out.lt
  have l4 : w.heap.size + 1 < W4.heap.size := HY3.out.lt
  refine ⟨⟨((((((HT5.out.set _ _ _ l0).set _ _ _ l0).set _ _ _ l0).set _ _ _ l0).set _ _ _ l0)).mono (by omega), ((((((HV5.out.set _ _ _ l2).set _ _ _ l2).set _ _ _ l2).set _ _ _ l2).set _ _ _ l2)).mono (by omega), ?_, HAP.out⟩, HFU1.out, HFU3.out⟩
  rw [hni]
  exact owns_mono (owns_set (owns_set (owns_set (owns_set (owns_set HI5.out _ _ _ l4) _ _ _ l4) _ _ _ l4) _ _ _ l4) _ _ _ l4) (by omega)
end Go.Proofs.Ytjcobejaldfibaa
