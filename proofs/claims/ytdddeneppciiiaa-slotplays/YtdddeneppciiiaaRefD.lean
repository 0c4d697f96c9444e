/- The document's answer: Del; the program's Set; two lists of ints. -/
import Derived.Test.YtdddeneppciiiaaRefS
namespace Go.Proofs.Ytdddeneppciiiaa
open Go.RowKit
set_option linter.unusedVariables false
set_option linter.unusedSimpArgs false

theorem run_cut65 (w : World) (ao : Option Addr) (n c h : Nat) (hh : h ≤ c) :
    (Instr.sliceAt 65 (.slice ao n c) none (some (.int .i64 (h : Int))) none).run Try.prog w = .ok (.slice ao h c) w := by
  have hu := Try.underlying65
  have h1 : (h : Int) ≤ (c : Int) := by omega
  obtain ⟨i, hi, hz⟩ := Option.map_eq_some_iff.1 Try.info71
  simp only [Prod.mk.injEq] at hz
  obtain ⟨hz, hsz, hby⟩ := hz
  simp [Instr.sliceAt, Instr.slice, run_underlying hu, Instr.sliceBounds, Instr.sliceBound, asIntOf, h1, sizeOf, typeInfo, hi, hsz, hh]
  by_cases e : c = 0
  · simp [e]
  · simp [e]
    cases ao with
    | none => rfl
    | some a => obtain ⟨g, o, s⟩ := a; cases s <;> simp [Addr.add]
def lenAt (w : World) (b : Nat) : Nat := match w.cell? ⟨b, 1, none⟩ with | some v => lenOfV v | none => 0
theorem lenAt_is {w : World} {b : Nat} {v : Value} (h : w.cell? ⟨b, 1, none⟩ = some v) : lenAt w b = lenOfV v := by unfold lenAt; rw [h]
theorem rdel_no {w : World} {v : Value} {bs : List UInt8} (h : Sl w v bs) (hd : dec bs = none) (i : Int) : Calls Try.prog 22 #[v, .int .i64 i] w fun e w' => REnd w (63, none) e w' := by
  have HR := hide (rread_none h hd)
  clear h
  go_enter Try.func22, Try.ntmps22
  go_wp2_with (go_at_call 34; refine HR.out.mono ?_; rintro e W1 ⟨rfl, hb1⟩)
  go_ret2
  exact ⟨hb1.alloc hb1.size _, rfl⟩
set_option maxHeartbeats 1000000 in
theorem rdel_not {w : World} {v : Value} {bs : List UInt8} {g : Pg} (h : Sl w v bs) (hd : dec bs = some g) (i : Int) (hh : hasB g.sl i = false) : Calls Try.prog 22 #[v, .int .i64 i] w fun e w' => REnd w (61, none) e w' := by
  have HR := hide (rread_some h hd)
  have HHAS : Hid (∀ W b ao c, RBox w W b (g.next : Int) (.slice ao g.sl.length c) g.sl → Calls Try.prog 36 #[.agg #[.int .i64 (g.next : Int), .slice ao g.sl.length c], .int .i64 i] W fun e w' => e = .returned (.bool false) ∧ Below W.heap.size W w') := fun W b ao c hb => by have := rhas_any hb.own.at rfl g.next i; rw [hh] at this; exact this
  clear h
  go_enter Try.func22, Try.ntmps22
  go_wp2_with (first | (go_at_call 34; refine HR.out.mono ?_; rintro e W1 ⟨ao, c, rfl, ho⟩; have HX := hide (RBox.new (nx := (g.next : Int)) ho)) | (go_at_call 36; refine (HHAS.out _ _ _ _ HX.out).mono ?_; rintro e W2 ⟨rfl, hb2⟩))
  go_ret2
  exact ⟨HX.out.bw.trans (hb2.mono HX.out.bw.size), rfl⟩
set_option maxHeartbeats 2000000 in
set_option maxRecDepth 100000 in
theorem rdel_some {w : World} {v : Value} {bs : List UInt8} {g : Pg} (h : Sl w v bs) (hd : dec bs = some g) (k : Nat) (hk : k < g.sl.length) (hh : hasB g.sl k = true) : Calls Try.prog 22 #[v, .int .i64 (k : Int)] w fun e w' => REnd w (0, some (g.del k).enc) e w' := by
  have HR := hide (rread_some h hd)
  have hgood := (enc_dec hd).1
  have HHAS : Hid (∀ W b ao c, RBox w W b (g.next : Int) (.slice ao g.sl.length c) g.sl → Calls Try.prog 36 #[.agg #[.int .i64 (g.next : Int), .slice ao g.sl.length c], .int .i64 (k : Int)] W fun e w' => e = .returned (.bool true) ∧ Below W.heap.size W w') := fun W b ao c hb => by have := rhas_any hb.own.at rfl g.next k; rw [hh] at this; exact this
  have hlen2 : g.sl.length ≤ 200 := by have := hgood.size; simp only [Pg.size, tsize] at this; omega
  have HGD := hide (del_good hgood k)
  have HGN := hide hgood.next
  have HDS : Hid ((g.del k).sl = (g.sl.set k none).take (need (g.sl.set k none) g.sl.length)) := by unfold Pg.del trim; rw [Hid, List.length_set]
  have HNS : Hid (∀ j, j < g.sl.length → need (g.sl.set k none) (j + 1) = if ((g.sl.set k none).getD j none).isSome = true then j + 1 else need (g.sl.set k none) j) := fun j hj => by
    have hj' : j < (g.sl.set k none).length := by rw [List.length_set]; exact hj
    rw [need, List.getElem?_eq_getElem hj']
    have : (g.sl.set k none).getD j none = (g.sl.set k none)[j] := by rw [List.getD_eq_getElem?_getD, List.getElem?_eq_getElem hj']; rfl
    rw [this]
    cases (g.sl.set k none)[j] <;> simp
  have HSLN : Hid ((g.sl.set k none).length = g.sl.length) := List.length_set
  clear h hd hh hgood
  generalize hLL : g.sl.length = L at *
  go_enter Try.func22, Try.ntmps22
  go_wp2_with fail
  refine HR.out.mono ?_
  rintro e W1 ⟨ao, c, rfl, ho⟩
  have HX := hide (RBox.new (nx := (g.next : Int)) ho)
  clear ho HR
  go_wp2_with fail
  refine (HHAS.out _ _ _ _ HX.out).mono ?_
  rintro e W2 ⟨rfl, hb2⟩
  have HX2 := hide (HX.out.below hb2)
  clear hb2 HX HHAS
  generalize W1.heap.size = b at *
  have x0 := HX2.out.c0
  have x1 := HX2.out.c1
  have hq1 : (W2.alloc (.cells #[.int .i64 (g.next : Int), .slice none 0 0] 67)).heap[W2.heap.size]? = some (.cells #[.int .i64 (g.next : Int), .slice none 0 0] 67 (0, 0)) := heap_alloc_new _ _
  have hx1 := HX2.out.below ((Below.refl _ _).alloc (Nat.le_refl _) (.cells #[.int .i64 (g.next : Int), .slice none 0 0] 67))
  obtain ⟨a3, c3, w3, hrun, hown, hb3⟩ := copy_slots hx1.bw hx1.own.at (by rw [hLL]; omega)
  rw [hLL] at hrun hown
  have hq3 := (hb3.block _ (lt_of_heap hq1)).trans hq1
  have HX4 := hide (RBox.put (nx := (g.next : Int)) (show w.heap.size ≤ W2.heap.size from HX2.out.bw.size) hq3 hown)
  have HRUN := hide hrun
  have HXA := hide hx1
  have HZ3 : Hid (w3.cell? ⟨W2.heap.size, 1, none⟩ = some (.slice none 0 0)) := by rw [Hid, cell_row hq3]; rfl
  have HZF : Hid (w3.frozen? ⟨W2.heap.size, 1, none⟩ = false) := frozen_row hq3
  clear hrun hown hb3 hq3 hx1 hq1
  go_upto_region 7 with fail
  have x1 := HXA.out.c1
  have y1 : (W2.alloc (.cells #[.int .i64 (g.next : Int), .slice none 0 0] 67)).cell? ⟨W2.heap.size, 1, none⟩ = some (.slice none 0 0) := by rw [cell_row (heap_alloc_new _ _)]; rfl
  clear x0
  generalize W2.alloc (.cells #[.int .i64 (g.next : Int), .slice none 0 0] 67) = w1 at *
  have z3 := HZ3.out
  have zf := HZF.out
  generalize W2.heap.size = q at *
  go_upto_region 8 with (refine wpList_append_is rfl (.tmp 24) (.tmp 26) 65 rfl (.slice none 0 0) (.slice ao L c) _ rfl rfl HRUN.out ?_)
  clear x1 y1 z3 zf HRUN HZ3 HZF HXA
  generalize w3.setCell ⟨q, 1, none⟩ (.slice a3 L c3) = w4 at *
  obtain ⟨G, cap, w7, hv, hst, hX7, hkp⟩ := HX4.out.set k (by omega) none
  rw [hLL] at hv
  injection hv with hv1 hv2 hv3
  subst hv1 hv3
  clear hv2
  have x1 := HX4.out.c1
  have hst : (Instr.storeAt 71 (.pointer (some ⟨G, k * 2, none⟩)) (.agg #[.bool false, .string { data := #[] }])).run Try.prog w4 = .ok () w7 := hst
  have HST := hide hst
  have HX7 := hide hX7
  have hcc : L ≤ c3 := by
    obtain ⟨ao', c', e, h1, _⟩ := HX4.out.own.at.len
    injection e with e1 e2 e3
    omega
  clear hst hX7 hkp
  go_wp2_with (refine wpList_store_in rfl 71 (.tmp 33) (.tmp 32) rfl rfl G (k * 2) [.bool false, .string { data := #[] }] w7 rfl rfl HST.out ?_)
  clear x1 HX4 HST
  go_loopw [34] (fun _ wr => ∃ m : Nat, m ≤ L ∧ RBox w wr q (g.next : Int) (.slice (some ⟨G, 0, none⟩) m c3) ((g.sl.set k none).take m) ∧ need (g.sl.set k none) m = need (g.sl.set k none) L) (fun _ wr => lenAt wr q)
  case atStart => exact ⟨L, Nat.le_refl _, by rw [List.take_of_length_le (by rw [HSLN.out]; exact Nat.le_refl _)]; exact HX7.out, rfl⟩
  case round =>
    obtain ⟨m, hm, hB, hne⟩ := hrel
    have HBX := hide hB
    have HNE := hide hne
    have x0 := hB.c0
    have x1 := hB.c1
    have HLA := hide (lenAt_is x1)
    have hfz := hB.fz 1
    clear hB hne HX7
    cases m with
    | zero =>
      have hfin : (g.del k).sl = (g.sl.set k none).take 0 := by rw [HDS.out, ← HNE.out, need]
      have HBY : Hid (Calls Try.prog 33 #[.agg #[.int .i64 (g.next : Int), .slice (some ⟨G, 0, none⟩) 0 c3]] wr fun e w' => ∃ a' c', e = .returned (.slice a' 504 c') ∧ Sl w' (.slice a' 504 c') (g.del k).enc ∧ Below wr.heap.size wr w') := rbytes_sl (g := g.del k) (by rw [hfin]; exact HBX.out) HGN.out HGD.out.size
      clear hfin
      go_wp2_with (go_at_call 33; refine HBY.out.mono ?_; rintro e W9 ⟨a9, c9, rfl, hs9, hb9⟩)
      go_ret2
      exact ⟨HBX.out.bw.trans (hb9.mono HBX.out.bw.size), _, _, rfl, hs9⟩
    | succ j =>
      obtain ⟨gg, oo, hgo, k1, _⟩ := HBX.out.own.at.get j (by rw [List.length_take, HSLN.out]; omega)
      injection hgo with hgo
      injection hgo with hg1 hg2
      subst hg1 hg2
      have hgt : ((g.sl.set k none).take (j + 1)).getD j none = (g.sl.set k none).getD j none := by
        rw [List.getD_eq_getElem?_getD, List.getD_eq_getElem?_getD, List.getElem?_take_of_lt (by omega)]
      rw [hgt, Nat.zero_add] at k1
      have HN1 := hide (HNS.out j (by omega))
      have hgl := World.block_lt_of_cell? wr _ k1
      have hi : ((j + 1 : Nat) : Int) - 1 = (j : Int) := by omega
      clear hgt
      cases hb : ((g.sl.set k none).getD j none).isSome with
      | true =>
        have HNJ : Hid (need (g.sl.set k none) (j + 1) = j + 1) := by rw [Hid, HN1.out, hb, if_pos rfl]
        rw [hb] at k1
        clear hb HN1
        have hfin : (g.del k).sl = (g.sl.set k none).take (j + 1) := by rw [HDS.out, ← HNE.out, HNJ.out]
        have HBY : Hid (Calls Try.prog 33 #[.agg #[.int .i64 (g.next : Int), .slice (some ⟨G, 0, none⟩) (j + 1) c3]] wr fun e w' => ∃ a' c', e = .returned (.slice a' 504 c') ∧ Sl w' (.slice a' 504 c') (g.del k).enc ∧ Below wr.heap.size wr w') := rbytes_sl (g := g.del k) (by rw [hfin]; exact HBX.out) HGN.out HGD.out.size
        clear hfin
        go_wp2_with (go_at_call 33; refine HBY.out.mono ?_; rintro e W9 ⟨a9, c9, rfl, hs9, hb9⟩)
        go_ret2
        exact ⟨HBX.out.bw.trans (hb9.mono HBX.out.bw.size), _, _, rfl, hs9⟩
      | false =>
        have HNJ : Hid (need (g.sl.set k none) j = need (g.sl.set k none) L) := by rw [Hid, ← HNE.out, HN1.out, hb]; simp
        rw [hb] at k1
        have hcut := fun W => run_cut65 W (some ⟨G, 0, none⟩) (j + 1) c3 j (by omega)
        have HX8 : Hid (RBox w (wr.setCell ⟨q, 1, none⟩ (.slice (some ⟨G, 0, none⟩) j c3)) q (g.next : Int) (.slice (some ⟨G, 0, none⟩) j c3) ((g.sl.set k none).take j)) := by
          have := HBX.out.own.cut j (by rw [List.length_take, HSLN.out]; omega)
          rw [List.take_take, Nat.min_eq_left (by omega)] at this
          exact RBox.put HBX.out.base HBX.out.box this
        clear hb HN1
        go_wp2
        go_roundw
        case rel => exact ⟨j, by omega, HX8.out, HNJ.out⟩
        case measure =>
          rw [lenAt_is HX8.out.c1, HLA.out]
          simp [lenOfV]
theorem rdel_any {w : World} {v : Value} {bs : List UInt8} (h : Sl w v bs) (i : Int) : Calls Try.prog 22 #[v, .int .i64 i] w fun e w' => REnd w (delOf bs i) e w' := by
  cases hd : dec bs with
  | none =>
    have : delOf bs i = (63, none) := by unfold delOf; rw [hd]
    rw [this]
    exact rdel_no h hd i
  | some g =>
    cases hh : hasB g.sl i with
    | false =>
      have : delOf bs i = (61, none) := by unfold delOf; rw [hd]; simp [hh]
      rw [this]
      exact rdel_not h hd i hh
    | true =>
      have : delOf bs i = (0, some (g.del i.toNat).enc) := by unfold delOf; rw [hd]; simp [hh]
      rw [this]
      obtain ⟨k, rfl, hk⟩ := has_nat hh
      rw [Int.toNat_natCast]
      exact rdel_some h hd k hk hh
end Go.Proofs.Ytdddeneppciiiaa
