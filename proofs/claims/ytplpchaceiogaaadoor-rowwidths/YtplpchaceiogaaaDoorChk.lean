/- Check: why a row may not lie in a table. -/
import Derived.Test.YtplpchaceiogaaaDoorOps
import Derived.Test.YtplpchaceiogaaaDoorFit
namespace Go.Proofs.YtplpchaceiogaaaDoor
open Go.RowKit
set_option linter.unusedVariables false
set_option linter.unusedSimpArgs false
set_option maxRecDepth 100000

structure ChkS (q gb ob g k vb : Nat) (T : Tb) (p : Pl) (C : Cl) (ix : Bool) (V : Vl) (w : World) : Prop where
  tb : TBox w q T p
  cl : ClAt w gb (ob + k * 4) C
  tr : w.cell? ⟨g, k, none⟩ = some (.bool ix)
  bx : Box w vb V
theorem ChkS.belowW {q gb ob g k vb : Nat} {T : Tb} {p : Pl} {C : Cl} {ix : Bool} {V : Vl} {w w' : World} (h : ChkS q gb ob g k vb T p C ix V w) (hb : Below w.heap.size w w') : ChkS q gb ob g k vb T p C ix V w' :=
  ⟨h.tb.belowW hb, h.cl.belowW hb, cell_belowW h.tr hb, h.bx.belowW hb⟩
theorem TBox.c1 {w : World} {q : Nat} {T : Tb} {p : Pl} (h : TBox w q T p) : w.cell? ⟨q, 1, none⟩ = some (.slice p.ca T.cols.length p.cc) := by rw [cell_row h]; rfl
theorem TBox.c2 {w : World} {q : Nat} {T : Tb} {p : Pl} (h : TBox w q T p) : w.cell? ⟨q, 2, none⟩ = some (.slice p.ia T.idx.length p.ic) := by rw [cell_row h]; rfl
theorem TBox.c4 {w : World} {q : Nat} {T : Tb} {p : Pl} (h : TBox w q T p) : w.cell? ⟨q, 4, none⟩ = some (.slice p.ra T.roots.length p.rc) := by rw [cell_row h]; rfl
set_option maxHeartbeats 8000000 in
theorem chk12 {w : World} {v : Value} {T : Tb} {p : Pl} {l : List Vl} (h : TbAt w T p) (hf : T.Few) (hv : VsAt w v l) (hw : ∀ V ∈ l, V.wf) (hl : bulk l ≤ 400000000) :
    Calls Tryd.prog 12 #[.agg #[.string (strOf T.nm), .slice p.ca T.cols.length p.cc, .slice p.ia T.idx.length p.ic, .int .i64 T.head, .slice p.ra T.roots.length p.rc], v] w fun e w' => ∃ x, e = .returned (.int .i64 x) ∧ CheckIs T l x ∧ Below w.heap.size w w' := by
  obtain ⟨ao, c, rfl, hc1, hc2⟩ := hv.len
  simp only [maxLen] at hc2
  have hN := hf.cols
  obtain ⟨W0, hW0⟩ : ∃ W0, w.alloc (.cells #[.string (strOf T.nm), .slice p.ca T.cols.length p.cc, .slice p.ia T.idx.length p.ic, .int .i64 T.head, .slice p.ra T.roots.length p.rc] 29) = W0 := ⟨_, rfl⟩
  have hb0 : Below w.heap.size w W0 := by rw [← hW0]; exact (Below.refl _ _).alloc (Nat.le_refl _) _
  have hx0 : TBox W0 w.heap.size T p := by rw [← hW0]; exact heap_alloc_new _ _
  have HX0 := hide hx0
  have HB0 := hide hb0
  have HI := hide (index31 (h.belowW hb0) hf)
  have HV : Hid (∀ W, Below w.heap.size w W → VsAt W (.slice ao l.length c) l) := fun W hW => hv.belowW hW
  have HCT : Hid (∀ W, Below w.heap.size w W → ClsAt W (.slice p.ca T.cols.length p.cc) T.cols) := fun W hW => Row.belowW h.cols hW
  have HCD : Hid (∀ W, Below w.heap.size w W → Calls Tryd.prog 13 #[.slice ao l.length c] W (CodEnd W l)) := fun W hW => cod13 (hv.belowW hW) hw hl
  have a1 : W0.cell? ⟨w.heap.size, 1, none⟩ = some (.slice p.ca T.cols.length p.cc) := hx0.c1
  have hgl := lt_of_heap hx0
  by_cases hn : l.length = T.cols.length
  · have HNE := hide hn
    have HCK1 : Hid (∀ k x, k < l.length → (∀ j, j < k → fitAt T l j = 0) → fitAt T l k = x → x ≠ 0 → CheckIs T l x) := fun k x h1 h2 h3 h4 => .inr ⟨hn, .inl ⟨k, h1, h2, h3, h4⟩⟩
    have HCK2 : Hid ((∀ j, j < l.length → fitAt T l j = 0) → CheckIs T l (codE l)) := fun h => .inr ⟨hn, .inr ⟨h, rfl⟩⟩
    rw [hn] at HV HCD HCK1 HCK2 hc1 ⊢
    have a0 : W0.cell? ⟨w.heap.size, 0, none⟩ = some (.string (strOf T.nm)) := by rw [cell_row hx0]; rfl
    have a2 : W0.cell? ⟨w.heap.size, 2, none⟩ = some (.slice p.ia T.idx.length p.ic) := hx0.c2
    have a3 : W0.cell? ⟨w.heap.size, 3, none⟩ = some (.int .i64 T.head) := by rw [cell_row hx0]; rfl
    have a4 : W0.cell? ⟨w.heap.size, 4, none⟩ = some (.slice p.ra T.roots.length p.rc) := hx0.c4
    clear h hv hw hl hf hx0 hb0 hn
    go_enter Tryd.func12, Tryd.ntmps12
    go_upto_region 1 with fail
    try rw [hW0]
    clear hW0
    generalize hq : w.heap.size = q at *
    have HQ := hide hq
    clear hq
    have hnn : ((T.cols.length : Int) != (T.cols.length : Int)) = false := by simp
    go_wp2_with (go_at_call 31; refine HI.out.mono ?_; rintro e W1 ⟨g, bs, rfl, hT, hbl, hbs, hB1⟩; have HT := hide hT; have HBL := hide hbl; have HBS := hide hbs; have HB1 := hide hB1; clear hT hbl hbs hB1)
    have hqg : q < W0.heap.size := hgl
    have HW1 : Hid (Below q w W1) := HB0.out.trans (HB1.out.mono (Nat.le_of_lt hqg))
    have HX1 : Hid (TBox W1 q T p) := HX0.out.belowW HB1.out
    clear HI HB0 HB1 HX0 a0 a1 a2 a3 a4 hgl
    go_loopw [21] (fun i wr => ∃ k : Nat, k ≤ T.cols.length ∧ i = .int .i64 (k : Int) ∧ (∀ j, j < k → fitAt T l j = 0) ∧ Below q w wr ∧ TBox wr q T p ∧ Truths wr g bs) (fun i _ => T.cols.length - (intOf i).toNat)
    case atStart => exact ⟨0, by omega, rfl, fun j hj => by omega, HW1.out, HX1.out, HT.out⟩
    case round =>
      clear HW1 HX1 HT hqg
      obtain ⟨k, hk, rfl, hz, hB, hX, hT⟩ := hrel
      have HZ := hide hz
      have HB := hide hB
      have HX := hide hX
      have HT := hide hT
      clear hz hB hX hT
      by_cases hlt : k < T.cols.length
      · obtain ⟨gv, ov, hao, hC⟩ := (HV.out wr HB.out).get k (by rw [HNE.out]; exact hlt)
        obtain ⟨gb, ob, hca, hCl⟩ := (HCT.out wr HB.out).get k hlt
        subst hao
        obtain ⟨k0, k1, k2, k3⟩ := hC
        have HK := hide (HCK1.out k)
        have HBk : Hid (bs.getD k false = hasAt T k) := HBS.out k hlt
        have HTk : Hid (wr.cell? ⟨g, k, none⟩ = some (.bool (bs.getD k false))) := HT.out.cell k (by rw [HBL.out]; exact hlt)
        have HF : Hid (fitAt T l k = fitE (T.cols.getD k Cl.zero) (hasAt T k) (l.getD k Vl.zero)) := rfl
        have HCl := hide hCl
        clear hCl
        have hgl := World.block_lt_of_cell? wr _ k0
        have HN := hide hN
        rw [HBk.out] at HTk
        generalize hasAt T k = ix at *
        generalize T.cols.getD k Cl.zero = C at *
        generalize l.getD k Vl.zero = V at *
        go_upto_region 7 with fail
        have hn1 : Below wr.heap.size wr (wr.alloc (.cells #[.int .i64 V.ty, .int .i64 V.n, .string (strOf V.t), .bool V.b] 32)) := (Below.refl _ _).alloc (Nat.le_refl _) _
        have HS : Hid (ChkS q gb ob g k wr.heap.size T p C ix V (wr.alloc (.cells #[.int .i64 V.ty, .int .i64 V.n, .string (strOf V.t), .bool V.b] 32))) := ⟨HX.out.belowW hn1, HCl.out.belowW hn1, cell_belowW HTk.out hn1, box_new wr V⟩
        have HB2 : Hid (Below q w (wr.alloc (.cells #[.int .i64 V.ty, .int .i64 V.n, .string (strOf V.t), .bool V.b] 32))) := HB.out.alloc (by have := lt_of_heap HX.out; omega) _
        have HT2 : Hid (Truths (wr.alloc (.cells #[.int .i64 V.ty, .int .i64 V.n, .string (strOf V.t), .bool V.b] 32)) g bs) := HT.out.belowW hn1
        clear hn1 k0 k1 k2 k3 hgl
        generalize wr.alloc (.cells #[.int .i64 V.ty, .int .i64 V.n, .string (strOf V.t), .bool V.b] 32) = W2 at *
        generalize wr.heap.size = vb at *
        refine wp_region_held_drew (S := ChkS q gb ob g k vb T p C ix V) (by kernel_rfl) (HS.out.belowW (below_drewN _ _ 1)) (fun hH => ?_)
        refine take_to 0 26 (.pointer (some ⟨q, 1, none⟩)) rfl (by kernel_rfl) (by kernel_rfl) (by kernel_rfl) (fun _ _ _ h => h) rfl (by rfl) (fun w hw => by rfl) hH ?_
        simp only [Act.put, List.setIfInBounds_toArray, List.set_cons_zero, List.set_cons_succ]
        refine take_to 1 27 (.slice p.ca T.cols.length p.cc) rfl (by kernel_rfl) (by kernel_rfl) (by kernel_rfl) (fun _ _ _ h => h) rfl (by rfl) (fun w hw => op_load _ _ 25 (.tmp 26) rfl (.pointer (some ⟨q, 1, none⟩)) _ rfl (run_loadAny w (q) (1) 25 _ Tryd.isAgg25 hw.tb.c1)) hH ?_
        simp only [Act.put, List.setIfInBounds_toArray, List.set_cons_zero, List.set_cons_succ]
        refine take_to 2 28 (.int .i64 (k : Int)) rfl (by kernel_rfl) (by kernel_rfl) (by kernel_rfl) (fun _ _ _ h => h) rfl (by rfl) (fun w hw => by rfl) hH ?_
        simp only [Act.put, List.setIfInBounds_toArray, List.set_cons_zero, List.set_cons_succ]
        refine take_to 3 29 (.pointer (some ⟨gb, ob + k * 4, none⟩)) rfl (by kernel_rfl) (by kernel_rfl) (by kernel_rfl) (fun _ _ _ h => h) rfl (by rfl) (fun w hw => op_index _ _ 25 (.tmp 27) (.tmp 28) rfl (.slice p.ca T.cols.length p.cc) (.int .i64 (k : Int)) _ rfl rfl (by rw [hca]; exact run_index25 w gb ob _ _ k hlt)) hH ?_
        simp only [Act.put, List.setIfInBounds_toArray, List.set_cons_zero, List.set_cons_succ]
        refine take_to 4 30 (.agg #[.string (strOf C.nm), .int .i64 C.ty, .bool C.nn, .bool C.un]) rfl (by kernel_rfl) (by kernel_rfl) (by kernel_rfl) (fun _ _ _ h => h) rfl (by rfl) (fun w hw => op_load _ _ 24 (.tmp 29) rfl (.pointer (some ⟨gb, ob + k * 4, none⟩)) _ rfl (load24c hw.cl)) hH ?_
        simp only [Act.put, List.setIfInBounds_toArray, List.set_cons_zero, List.set_cons_succ]
        refine take_to 5 31 (.slice (some ⟨g, 0, none⟩) T.cols.length T.cols.length) rfl (by kernel_rfl) (by kernel_rfl) (by kernel_rfl) (fun _ _ _ h => h) rfl (by rfl) (fun w hw => by rfl) hH ?_
        simp only [Act.put, List.setIfInBounds_toArray, List.set_cons_zero, List.set_cons_succ]
        refine take_to 6 32 (.int .i64 (k : Int)) rfl (by kernel_rfl) (by kernel_rfl) (by kernel_rfl) (fun _ _ _ h => h) rfl (by rfl) (fun w hw => by rfl) hH ?_
        simp only [Act.put, List.setIfInBounds_toArray, List.set_cons_zero, List.set_cons_succ]
        refine take_to 7 33 (.pointer (some ⟨g, 0 + k, none⟩)) rfl (by kernel_rfl) (by kernel_rfl) (by kernel_rfl) (fun _ _ _ h => h) rfl (by rfl) (fun w hw => op_index _ _ 61 (.tmp 31) (.tmp 32) rfl (.slice (some ⟨g, 0, none⟩) T.cols.length T.cols.length) (.int .i64 (k : Int)) _ rfl rfl (run_index61 w g 0 _ _ k hlt)) hH ?_
        simp only [Act.put, List.setIfInBounds_toArray, List.set_cons_zero, List.set_cons_succ]
        refine take_to 8 34 (.bool ix) rfl (by kernel_rfl) (by kernel_rfl) (by kernel_rfl) (fun _ _ _ h => h) rfl (by rfl) (fun w hw => op_load _ _ 4 (.tmp 33) rfl (.pointer (some ⟨g, 0 + k, none⟩)) _ rfl (run_loadAny w g (0 + k) 4 _ Tryd.isAgg4 (by rw [Nat.zero_add]; exact hw.tr))) hH ?_
        simp only [Act.put, List.setIfInBounds_toArray, List.set_cons_zero, List.set_cons_succ]
        refine take_to 9 35 (.agg #[.int .i64 V.ty, .int .i64 V.n, .string (strOf V.t), .bool V.b]) rfl (by kernel_rfl) (by kernel_rfl) (by kernel_rfl) (fun _ _ _ h => h) rfl (by rfl) (fun w hw => op_load _ _ 32 (.tmp 7) rfl (.pointer (some ⟨vb, 0, none⟩)) _ rfl (load32 hw.bx)) hH ?_
        simp only [Act.put, List.setIfInBounds_toArray, List.set_cons_zero, List.set_cons_succ]
        refine step_call3_to 10 36 32 rfl (by kernel_rfl) rfl (by rfl) (.tmp 30) (.tmp 34) (.tmp 35) _ rfl _ _ _ rfl rfl rfl Tryd.enters32 (fit32 C ix V _) ?_
        rintro e u1 ⟨rfl, hb1⟩
        have hH1 := hH.belowW hb1
        refine ⟨_, rfl, hH1, ?_⟩
        simp only [Act.put, List.setIfInBounds_toArray, List.set_cons_zero, List.set_cons_succ]
        refine step_to 11 8 (.int .i64 (fitE C ix V)) _ rfl (by kernel_rfl) rfl (by rfl) (rfl) hH1 ?_
        simp only [Act.put, List.setIfInBounds_toArray, List.set_cons_zero, List.set_cons_succ]
        refine wpAnyH_done (by kernel_rfl) ?_ _
        have HB3 : Hid (Below q w u1) := (HB2.out.trans ((below_drewN W2.heap.size W2 1).mono (by have := lt_of_heap HS.out.tb; omega))).trans (hb1.mono (by have := lt_of_heap HS.out.tb; simpa using Nat.le_of_lt this))
        have HX3 := hide hH1.tb
        have HT3 : Hid (Truths u1 g bs) := (HT2.out.belowW (below_drewN _ _ 1)).belowW hb1
        rw [← HF.out]
        clear hH hH1 hb1 HS HB2 HT2 HCl
        obtain ⟨x, hxx⟩ : ∃ x, fitAt T l k = x := ⟨_, rfl⟩
        have HFX := hide hxx
        rw [hxx]
        clear hxx HF
        by_cases hx : x = 0
        · have HZ2 : Hid (∀ j, j < k + 1 → fitAt T l j = 0) := fun j hj => by
            by_cases e : j < k
            · exact HZ.out j e
            · have e : j = k := by omega
              rw [e, HFX.out, hx]
          have hxb : (x != 0) = false := by simpa using hx
          go_wp2
          go_roundw
          case rel => exact ⟨k + 1, by omega, by go_num, HZ2.out, HB3.out, HX3.out, HT3.out⟩
          case measure => simp [intOf]; omega
        · have hxb : (x != 0) = true := by simpa using hx
          have HCK := hide (HK.out x hlt HZ.out HFX.out hx)
          go_wp2
          go_ret
          exact ⟨x, rfl, HCK.out, by rw [HQ.out]; exact HB3.out⟩
      · have hkL : k = T.cols.length := by omega
        subst hkL
        have HCK := hide (HCK2.out HZ.out)
        have HC := hide (HCD.out wr HB.out)
        clear HV HCT HCD HT HX HZ
        go_wp2_with (go_at_call 13; refine HC.out.mono ?_; rintro e W9 hE; obtain ⟨u, rfl⟩ := hE.err; have HE := hide hE.below; clear hE)
        go_ret
        exact ⟨codE l, rfl, HCK.out, by rw [HQ.out]; exact HB.out.trans (HE.out.mono (by rw [← HQ.out]; exact HB.out.size))⟩
  · have HCK : Hid (CheckIs T l 160) := .inl ⟨hn, rfl⟩
    have hnn : ((l.length : Int) != (T.cols.length : Int)) = true := by simp; omega
    clear h hv hw hl hf hb0 hx0
    go_enter Tryd.func12, Tryd.ntmps12
    go_upto_region 1 with fail
    try rw [hW0]
    clear hW0
    generalize hq : w.heap.size = q at *
    have HQ := hide hq
    clear hq
    go_wp2
    go_ret
    exact ⟨160, rfl, HCK.out, by rw [HQ.out]; exact HB0.out⟩
end Go.Proofs.YtplpchaceiogaaaDoor
