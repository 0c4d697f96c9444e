/- The program's Set; two lists of ints held against each other. -/
import Derived.Test.YtdddeneppciiiaaRefD
namespace Go.Proofs.Ytdddeneppciiiaa
open Go.RowKit
set_option linter.unusedVariables false
set_option linter.unusedSimpArgs false

theorem run_index31' (w : World) (g o n cap i : Nat) (h : i < n) : (Instr.indexAt 31 (.slice (some ⟨g, o, none⟩) n cap) (.int .i64 (i : Int))).run Try.prog w = .ok (.pointer (some ⟨g, o + i, none⟩)) w := by
  have hu := Try.underlying31
  have hs := Try.sizeOf3
  simp [go_sem, hu, hs, h]
set_option maxHeartbeats 400000 in
theorem ints_any {w : World} {a1 a2 : Option Addr} {n c1 c2 : Nat} {l : List Nat} (h1 : NatsAt w a1 l) (h2 : NatsAt w a2 l) (hn : n = l.length) (hb : n ≤ 1000) :
    Calls Try.prog 38 #[.slice a1 n c1, .slice a2 n c2] w fun e w' => e = .returned (.bool true) ∧ Below w.heap.size w w' := by
  have H1 := hide h1
  have H2 := hide h2
  have HN := hide hn
  clear h1 h2 hn
  go_enter Try.func38, Try.ntmps38
  go_wp2
  go_loopw [5] (fun i wr => ∃ k : Nat, k ≤ n ∧ i = .int .i64 (k : Int) ∧ Below w.heap.size w wr) (fun i _ => n - (intOf i).toNat)
  case atStart => exact ⟨0, Nat.zero_le _, rfl, Below.refl _ _⟩
  case round =>
    obtain ⟨k, hk, rfl, hB⟩ := hrel
    have HB := hide hB
    clear hB
    by_cases hlt : k < n
    · obtain ⟨g1, o1, e1, k1⟩ := H1.out.below HB.out k (by rw [← HN.out]; exact hlt)
      obtain ⟨g2, o2, e2, k2⟩ := H2.out.below HB.out k (by rw [← HN.out]; exact hlt)
      subst e1 e2
      generalize l.getD k 0 = x at *
      go_wp2
      refine wp_region_held_drew (S := fun w' => w'.cell? ⟨g1, o1 + k, none⟩ = some (.int .i64 (x : Int)) ∧ w'.cell? ⟨g2, o2 + k, none⟩ = some (.int .i64 (x : Int))) (by kernel_rfl) ⟨k1, k2⟩ (fun hH => ?_)
      refine take_to 0 17 (.slice (some ⟨g1, o1, none⟩) n c1) rfl (by kernel_rfl) (by kernel_rfl) (by kernel_rfl) (fun _ _ _ h => h) rfl (by rfl) (fun w hw => by rfl) hH ?_
      simp only [Act.put, List.setIfInBounds_toArray, List.set_cons_zero, List.set_cons_succ]
      refine take_to 1 18 (.int .i64 (k : Int)) rfl (by kernel_rfl) (by kernel_rfl) (by kernel_rfl) (fun _ _ _ h => h) rfl (by rfl) (fun w hw => by rfl) hH ?_
      simp only [Act.put, List.setIfInBounds_toArray, List.set_cons_zero, List.set_cons_succ]
      refine take_to 2 19 (.pointer (some ⟨g1, o1 + k, none⟩)) rfl (by kernel_rfl) (by kernel_rfl) (by kernel_rfl) (fun _ _ _ h => h) rfl (by rfl) (fun w' hw => op_index _ _ 31 (.tmp 17) (.tmp 18) rfl _ _ _ rfl rfl (run_index31' w' g1 o1 n c1 k hlt)) hH ?_
      simp only [Act.put, List.setIfInBounds_toArray, List.set_cons_zero, List.set_cons_succ]
      refine take_to 3 20 (.int .i64 (x : Int)) rfl (by kernel_rfl) (by kernel_rfl) (by kernel_rfl) (fun _ _ _ h => h) rfl (by rfl) (fun w' hw => op_load _ _ 3 (.tmp 19) rfl (.pointer (some ⟨g1, o1 + k, none⟩)) _ rfl (run_loadAny w' g1 (o1 + k) 3 _ Try.isAgg3 hw.1)) hH ?_
      simp only [Act.put, List.setIfInBounds_toArray, List.set_cons_zero, List.set_cons_succ]
      refine take_to 4 21 (.slice (some ⟨g2, o2, none⟩) n c2) rfl (by kernel_rfl) (by kernel_rfl) (by kernel_rfl) (fun _ _ _ h => h) rfl (by rfl) (fun w hw => by rfl) hH ?_
      simp only [Act.put, List.setIfInBounds_toArray, List.set_cons_zero, List.set_cons_succ]
      refine take_to 5 22 (.int .i64 (k : Int)) rfl (by kernel_rfl) (by kernel_rfl) (by kernel_rfl) (fun _ _ _ h => h) rfl (by rfl) (fun w hw => by rfl) hH ?_
      simp only [Act.put, List.setIfInBounds_toArray, List.set_cons_zero, List.set_cons_succ]
      refine take_to 6 23 (.pointer (some ⟨g2, o2 + k, none⟩)) rfl (by kernel_rfl) (by kernel_rfl) (by kernel_rfl) (fun _ _ _ h => h) rfl (by rfl) (fun w' hw => op_index _ _ 31 (.tmp 21) (.tmp 22) rfl _ _ _ rfl rfl (run_index31' w' g2 o2 n c2 k hlt)) hH ?_
      simp only [Act.put, List.setIfInBounds_toArray, List.set_cons_zero, List.set_cons_succ]
      refine take_to 7 24 (.int .i64 (x : Int)) rfl (by kernel_rfl) (by kernel_rfl) (by kernel_rfl) (fun _ _ _ h => h) rfl (by rfl) (fun w' hw => op_load _ _ 3 (.tmp 23) rfl (.pointer (some ⟨g2, o2 + k, none⟩)) _ rfl (run_loadAny w' g2 (o2 + k) 3 _ Try.isAgg3 hw.2)) hH ?_
      simp only [Act.put, List.setIfInBounds_toArray, List.set_cons_zero, List.set_cons_succ]
      refine step_to 8 25 (.bool false) (wr.drewN 1) rfl (by kernel_rfl) rfl (by rfl) (op_neq3 _ _ (.tmp 20) (.tmp 24) 3 rfl _ _ rfl rfl false (by simp)) hH ?_
      simp only [Act.put, List.setIfInBounds_toArray, List.set_cons_zero, List.set_cons_succ]
      refine wpAnyH_done (by kernel_rfl) ?_ _
      go_wp2
      go_roundw
      case rel => exact ⟨k + 1, by omega, by go_num, HB.out.trans (below_drewN _ _ 1)⟩
      case measure => simp [intOf]; omega
    · have hkn : k = n := by omega
      subst hkn
      go_wp2
      go_ret
      exact ⟨rfl, HB.out⟩

theorem recCells_setData : ∀ (R : List (Bool × Value)) (i : Nat) (x : Bool × Value) (v : Value), R[i]? = some x → (recCells R).set (i * 2 + 1) v = recCells (R.set i (x.1, v))
  | [], i, x, v, h => by simp at h
  | y :: R, 0, x, v, h => by simp at h; subst h; rfl
  | y :: R, i + 1, x, v, h => by
    rw [recCells_cons, show (i + 1) * 2 + 1 = i * 2 + 1 + 1 + 1 by omega, List.set_cons_succ, List.set_cons_succ, recCells_setData R i x v (by simpa using h), List.set_cons_succ, recCells_cons]
/-- One record's bytes stored. -/
theorem SlotsOwn.setData {w0 w : World} {v : Value} {S : List Slt} (h : SlotsOwn w0 w v S) (i : Nat) (hi : i < S.length) (hs : (S.getD i none).isSome = true) (dv : Value) (d : List UInt8) (hd : Sl w0 dv d) :
    ∃ G cap C, v = .slice (some ⟨G, 0, none⟩) S.length cap ∧ w0.heap.size ≤ G ∧ w.heap[G]? = some (.cells C 61 (0, 0)) ∧ (∃ u, C[i * 2 + 1]? = some u) ∧ SlotsOwn w0 (w.setCell ⟨G, i * 2 + 1, none⟩ dv) v (S.set i (some d)) ∧ Off [G] w (w.setCell ⟨G, i * 2 + 1, none⟩ dv) := by
  obtain ⟨hb0, R, h1, h2⟩ := h
  have hR : R.length = S.length := h2.1
  obtain ⟨hl, h3⟩ := h1
  rcases h3 with ⟨rfl, h4⟩ | ⟨G, cap, cur, rfl, hG, hg, k1, k2, k3, k4⟩
  · omega
  have hx : R[i]? = some R[i] := List.getElem?_eq_getElem (by omega)
  have hxi := h2.2 i _ hx
  have hx1 : (R[i]).1 = true := by rw [hxi.1, hs]
  have hcl : i * 2 + 1 < cur.size := by rw [k3]; omega
  have hOff : Off [G] w (w.setCell ⟨G, i * 2 + 1, none⟩ dv) := (Off.refl _ _).setCell _ _ (.inl (by simp))
  refine ⟨G, cap, cur, rfl, hG, hg, ⟨_, Array.getElem?_eq_getElem hcl⟩, ⟨hb0.trans (hOff.below hb0.size (by simp; exact hG)), R.set i (true, dv), ⟨by rw [length_recCells, List.length_set, List.length_set, hR], .inr ⟨G, cap, _, by rw [List.length_set], hG, heap_set_same dv hg, by rw [List.length_set]; exact k1, k2, by rw [Array.size_setIfInBounds]; exact k3, ?_⟩⟩, h2.set i (true, dv) (some d) ⟨rfl, hd⟩⟩, hOff⟩
  rw [List.length_set, Array.toList_setIfInBounds, ← hx1, ← recCells_setData R i _ dv hx, ← k4, List.take_set]

set_option maxHeartbeats 1000000 in
set_option maxRecDepth 100000 in
theorem set_any {w : World} {v dv : Value} {bs d : List UInt8} (h : Sl w v bs) (hdv : Sl w dv d) (i : Int) : Calls Try.prog 20 #[v, .int .i64 i, dv] w fun e w' => DelEnd w (setOf bs i d) e w' := by
  have HD := hide hdv
  obtain ⟨da, dc, rfl, hdc, hdm⟩ := hdv.len
  simp only [maxLen] at hdm
  cases hd : dec bs with
  | none =>
    have HE : Hid (setOf bs i d = (63, none)) := by unfold setOf; rw [Hid, hd]
    rw [HE.out]
    have HR := hide (read_none h hd)
    clear h hdv
    generalize d.length = D at *
    go_enter Try.func20, Try.ntmps20
    go_wp2_with (go_at_call 27; refine HR.out.mono ?_; rintro e W1 ⟨rfl, hb1⟩)
    go_ret2
    exact ⟨hb1.alloc hb1.size _, rfl⟩
  | some g =>
    have hgood := (enc_dec hd).1
    have HR := hide (read_some h hd)
    have hgs : g.size = 6 + 4 * g.sl.length + blen g.sl := rfl
    by_cases h480 : 480 < d.length
    · have HE : Hid (setOf bs i d = (1, none)) := by unfold setOf; rw [Hid, hd]; simp only [if_pos h480]
      rw [HE.out]
      have h480I : (480 : Int) < (d.length : Int) := by omega
      clear h hdv hd hgs hgood
      generalize d.length = D at *
      go_enter Try.func20, Try.ntmps20
      go_wp2_with (go_at_call 27; refine HR.out.mono ?_; rintro e W1 ⟨ao, c, rfl, ho⟩; have HX := hide (Box.new (nx := (g.next : Int)) ho))
      go_ret2
      exact ⟨HX.out.bw, rfl⟩
    · have h480I : ¬ ((480 : Int) < (d.length : Int)) := by omega
      have HHAS : Hid (∀ W b ao c, Box w W b (g.next : Int) (.slice ao g.sl.length c) g.sl → Calls Try.prog 31 #[.agg #[.int .i64 (g.next : Int), .slice ao g.sl.length c], .int .i64 i] W fun e w' => e = .returned (.bool (hasB g.sl i)) ∧ Below W.heap.size W w') := fun W b ao c hb => has_any hb.own.at g.next i
      cases hh : hasB g.sl i with
      | false =>
        have HE : Hid (setOf bs i d = (61, none)) := by unfold setOf; rw [Hid, hd]; simp [h480, hh]
        rw [HE.out]
        rw [hh] at HHAS
        clear h hdv hd hgs hgood
        generalize d.length = D at *
        go_enter Try.func20, Try.ntmps20
        go_wp2_with (first | (go_at_call 27; refine HR.out.mono ?_; rintro e W1 ⟨ao, c, rfl, ho⟩; have HX := hide (Box.new (nx := (g.next : Int)) ho)) | (go_at_call 31; refine (HHAS.out _ _ _ _ HX.out).mono ?_; rintro e W2 ⟨rfl, hb2⟩))
        go_ret2
        exact ⟨HX.out.bw.trans (hb2.mono HX.out.bw.size), rfl⟩
      | true =>
        rw [hh] at HHAS
        obtain ⟨k, rfl, hk⟩ := has_nat hh
        have hsk : (g.sl.getD k none).isSome = true := by unfold hasB at hh; simpa using hh
        have HE : Hid (setOf bs k d = if 504 < tsize (g.sl.set k (some d)) then (60, none) else (0, some (g.set k d).enc)) := by unfold setOf; rw [Hid, hd]; simp only [if_neg h480, if_pos hh, Int.toNat_natCast]
        have htl : tsize (g.sl.set k (some d)) ≤ 100000 := by
          have := hgood.size
          have := blen_set g.sl k (some d) hk
          simp only [tsize, List.length_set, slen, Option.getD_some] at this ⊢; omega
        have HRM : Hid (∀ W b ao c n, Box w W b (g.next : Int) (.slice ao n c) (g.sl.set k (some d)) → Calls Try.prog 29 #[.agg #[.int .i64 (g.next : Int), .slice ao n c]] W fun e w' => e = .returned (.int .i64 (504 - (tsize (g.sl.set k (some d)) : Int))) ∧ Below W.heap.size W w') := fun W b ao c n hb => room_any hb.own.at g.next htl
        have HBY : Hid (tsize (g.sl.set k (some d)) ≤ 504 → ∀ W b ao c n, Box w W b (g.next : Int) (.slice ao n c) (g.sl.set k (some d)) → Calls Try.prog 26 #[.agg #[.int .i64 (g.next : Int), .slice ao n c]] W fun e w' => ∃ q, e = .returned (.slice (some ⟨q, 0, none⟩) 504 504) ∧ Sl w' (.slice (some ⟨q, 0, none⟩) 504 504) (g.set k d).enc ∧ Below W.heap.size W w') := fun hs W b ao c n hb => bytes_sl (g := g.set k d) hb.own.at hgood.next hs
        rw [HE.out]
        clear h hdv hd hgs hgood hh htl
        generalize hDD : d.length = D at *
        generalize hLL : g.sl.length = L at *
        go_enter Try.func20, Try.ntmps20
        go_wp2_with fail
        refine HR.out.mono ?_
        rintro e W1 ⟨ao, c, rfl, ho⟩
        have HX := hide (Box.new (nx := (g.next : Int)) ho)
        clear HR ho
        go_wp2_with fail
        refine (HHAS.out _ _ _ _ HX.out).mono ?_
        rintro e W2 ⟨rfl, hb2⟩
        have HX2 := hide (HX.out.below hb2)
        have x0 := HX2.out.c0
        have x1 := HX2.out.c1
        clear hb2 HX HHAS
        generalize W1.heap.size = b at *
        obtain ⟨G, cap, C, hv, hG, hg, ⟨u, hu⟩, hown, hOff⟩ := HX2.out.own.setData k (by omega) hsk _ d HD.out
        rw [hLL] at hv
        injection hv with hv1 hv2 hv3
        subst hv1 hv3
        have z1 : W2.cell? ⟨G, k * 2 + 1, none⟩ = some u := by rw [cell_row hg]; exact hu
        have zf : W2.frozen? ⟨G, k * 2 + 1, none⟩ = false := frozen_row hg
        have hGb : G ≠ b := fun e => by
          subst e
          rw [HX2.out.box] at hg
          simp at hg
        have HX3 : Hid (Box w (W2.setCell ⟨G, k * 2 + 1, none⟩ (.slice da D dc)) b (g.next : Int) (.slice (some ⟨G, 0, none⟩) L c) (g.sl.set k (some d))) := ⟨hown, HX2.out.base, (hOff.block _ (lt_of_heap HX2.out.box) (by simp; exact fun e => hGb e.symm)).trans HX2.out.box⟩
        clear hv2 hown hOff hu hg hsk hG
        go_upto_region 9 with fail
        clear x0 x1 z1 zf hGb
        generalize W2.setCell ⟨G, k * 2 + 1, none⟩ (.slice da D dc) = W3 at *
        have y0 := HX3.out.c0
        have y1 := HX3.out.c1
        generalize hTT : tsize (g.sl.set k (some d)) = T at *
        by_cases hT : 504 < T
        · have hTI : 504 - (T : Int) < 0 := by omega
          go_wp2_with (go_at_call 29; refine (HRM.out _ _ _ _ _ HX3.out).mono ?_; rintro e W4 ⟨rfl, hb4⟩)
          go_ret2
          exact ⟨HX3.out.bw.trans (hb4.mono HX3.out.bw.size), rfl⟩
        · have hTI : ¬ (504 - (T : Int) < 0) := by omega
          go_wp2_with (first | (go_at_call 29; refine (HRM.out _ _ _ _ _ HX3.out).mono ?_; rintro e W4 ⟨rfl, hb4⟩; have HX4 := hide (HX3.out.below hb4); have u0 := HX4.out.c0; have u1 := HX4.out.c1) | (go_at_call 26; refine (HBY.out (by omega) _ _ _ _ _ HX4.out).mono ?_; rintro e W5 ⟨q, rfl, hs5, hb5⟩))
          go_ret2
          exact ⟨HX4.out.bw.trans (hb5.mono HX4.out.bw.size), _, rfl, hs5⟩
end Go.Proofs.Ytdddeneppciiiaa
