/- The walk of RowSchemas. -/
import Derived.Test.YtplpchaceiogaaaDoorSam
import Derived.Test.YtplpchaceiogaaaDoorAwk
import Derived.Test.YtplpchaceiogaaaDoorScm
namespace Go.Proofs.YtplpchaceiogaaaDoor
open Go.RowKit
set_option linter.unusedVariables false
set_option linter.unusedSimpArgs false
set_option maxRecDepth 100000
def tabT (bs : List UInt8) : Tb := (tabOf bs).getD Tb.zero
def tabB (bs : List UInt8) : Bool := (tabOf bs).isSome
theorem tab_ok {bs : List UInt8} (hl : bs.length ≤ 1048576) : (tabT bs).wf ∧ tbulk (tabT bs) ≤ 400000000 := by
  unfold tabT
  cases ht : tabOf bs with
  | none => exact ⟨⟨by simp [Tb.zero], by simp [Tb.zero], by simp [Tb.zero, in64], by simp [Tb.zero]⟩, by decide⟩
  | some T =>
    have hs : ∃ l, splitN bs.length bs [] = some l := by
      unfold tabOf at ht
      cases hs : splitN bs.length bs [] with
      | none => rw [hs] at ht; cases ht
      | some l => exact ⟨l, rfl⟩
    obtain ⟨l, hs⟩ := hs
    have h1 := ((tabOf_ref (Nat.le_trans hl (by omega)) hs).1 T ht).1
    have h2 : rT (startOf bs) = (T, (false, [])) := by unfold startOf; rw [hs]; exact h1
    exact rT_ok hl h2 rfl
theorem tab_end2 {w w' : World} {bs : List UInt8} {e : Ending} (h : TableEnd w bs e w') : Below w.heap.size w w' ∧ ∃ p : Pl, e = .returned (.tuple #[.agg #[.string (strOf (tabT bs).nm), .slice p.ca (tabT bs).cols.length p.cc, .slice p.ia (tabT bs).idx.length p.ic, .int .i64 (tabT bs).head, .slice p.ra (tabT bs).roots.length p.rc], .bool (tabB bs)]) ∧ TbAt w' (tabT bs) p ∧ (tabT bs).Few := by
  obtain ⟨hb, ⟨h1, rfl⟩ | ⟨T, p, h1, h2, rfl, h3⟩⟩ := h
  · refine ⟨hb, ⟨none, 0, none, 0, none, 0⟩, ?_, ?_⟩
    · unfold tabT tabB; rw [h1]; rfl
    · unfold tabT; rw [h1]; exact ⟨⟨Row.nil _, Row.nil _, Row.nil _⟩, ⟨by decide, by decide, by decide⟩⟩
  · refine ⟨hb, p, ?_, ?_⟩
    · unfold tabT tabB; rw [h1]; rfl
    · unfold tabT; rw [h1]; exact ⟨h3, h2⟩
structure LwS (q q5 q7 : Nat) (T : Tb) (p : Pl) (R : Tb) (p1 p2 : Pl) (m : Int) (W : World) : Prop where
  t2 : TBox W q T p
  ta : TbAt W T p
  t5 : TBox W q5 R p1
  tb : TbAt W R p1
  t7 : TBox W q7 R p2
  tc : TbAt W R p2
  z : W.cell? ⟨0, 0, none⟩ = some (.int .i64 m)
theorem LwS.belowW {q q5 q7 : Nat} {T : Tb} {p : Pl} {R : Tb} {p1 p2 : Pl} {m : Int} {w w' : World} (h : LwS q q5 q7 T p R p1 p2 m w) (hb : Below w.heap.size w w') : LwS q q5 q7 T p R p1 p2 m w' := ⟨h.t2.belowW hb, h.ta.belowW hb, h.t5.belowW hb, h.tb.belowW hb, h.t7.belowW hb, h.tc.belowW hb, cell_belowW h.z hb⟩
theorem op_eqlB (ρ : Operand → Value) (o : Oper) (x y : Operand) (tt : TypeId) (ho : o.op = .binOp .eql 4 x y tt) (b : Bool) (hx : ρ x = .bool b) (hy : ρ y = .bool b) {w : World} : (execOp ρ o).run Tryd.prog w = .ok (.value (.bool true)) w := by
  have hu := Tryd.underlying4
  unfold execOp
  simp only [ho, hx, hy]
  simp [go_sem, hu]
set_option maxHeartbeats 4000000 in
theorem schemas_walk (m : Int) {w : World} {v : Value} {T : Tb} {p : Pl} {bs : List UInt8} (h : TbAt w T p) (hf : T.Few) (hw : T.wf) (hl : tbulk T ≤ 400000000) (hv : Sl w v bs) (hb : bs.length ≤ 1048576) (hm : w.cell? ⟨0, 0, none⟩ = some (.int .i64 m)) :
    Calls Tryd.prog 6 #[.agg #[.string (strOf T.nm), .slice p.ca T.cols.length p.cc, .slice p.ia T.idx.length p.ic, .int .i64 T.head, .slice p.ra T.roots.length p.rc], v] w fun e w' => e = .returned (.bool true) ∧ Below w.heap.size w w' := by
  obtain ⟨W0, hW0⟩ : ∃ W0, w.alloc (.cells #[.string (strOf T.nm), .slice p.ca T.cols.length p.cc, .slice p.ia T.idx.length p.ic, .int .i64 T.head, .slice p.ra T.roots.length p.rc] 29) = W0 := ⟨_, rfl⟩
  have hb0 : Below w.heap.size w W0 := by rw [← hW0]; exact (Below.refl _ _).alloc (Nat.le_refl _) _
  have hx0 : TBox W0 w.heap.size T p := by rw [← hW0]; exact heap_alloc_new w _
  have HB0 := hide hb0
  have HX0 := hide hx0
  obtain ⟨hwf, hbk⟩ := tab_ok hb
  have H26 : Hid (Calls Tryd.prog 26 #[v] W0 fun e w' => Below W0.heap.size W0 w' ∧ ∃ p : Pl, e = .returned (.tuple #[.agg #[.string (strOf (tabT bs).nm), .slice p.ca (tabT bs).cols.length p.cc, .slice p.ia (tabT bs).idx.length p.ic, .int .i64 (tabT bs).head, .slice p.ra (tabT bs).roots.length p.rc], .bool (tabB bs)]) ∧ TbAt w' (tabT bs) p ∧ (tabT bs).Few) := (table26 (hv.belowW hb0) hb).mono fun e w' he => tab_end2 he
  have H27 : Hid (∀ W, Below w.heap.size w W → Calls Tryd.prog 27 #[v] W fun e w' => Below W.heap.size W w' ∧ ∃ p : Pl, e = .returned (.tuple #[.agg #[.string (strOf (tabT bs).nm), .slice p.ca (tabT bs).cols.length p.cc, .slice p.ia (tabT bs).idx.length p.ic, .int .i64 (tabT bs).head, .slice p.ra (tabT bs).roots.length p.rc], .bool (tabB bs)]) ∧ TbAt w' (tabT bs) p ∧ (tabT bs).Few) := fun W hW => (rtable27 (hv.belowW hW) hb).mono fun e w' he => tab_end2 he
  have HTA := hide h
  have HM := hide hm
  have HCA : Hid (∀ W, TbAt W T p → Calls Tryd.prog 28 #[.agg #[.string (strOf T.nm), .slice p.ca T.cols.length p.cc, .slice p.ia T.idx.length p.ic, .int .i64 T.head, .slice p.ra T.roots.length p.rc]] W fun e w' => ∃ u, e = .returned u ∧ Bts W w' u (joinL (schL T))) := fun W h => schema28 (T := T) (p := p) h hf hw hl
  have HCB : Hid (∀ W, TbAt W T p → Calls Tryd.prog 29 #[.agg #[.string (strOf T.nm), .slice p.ca T.cols.length p.cc, .slice p.ia T.idx.length p.ic, .int .i64 T.head, .slice p.ra T.roots.length p.rc]] W fun e w' => ∃ u, e = .returned u ∧ Bts W w' u (joinL (schL T))) := fun W h => rschema29 (T := T) (p := p) h hf hw hl
  have HWF := hide hwf
  have HBK := hide hbk
  clear h hv hw hl hf hx0 hb0 hm hwf hbk hb
  generalize tabT bs = R at *
  generalize tabB bs = ok at *
  go_enter Tryd.func6, Tryd.ntmps6
  go_upto_region 1 with fail
  try rw [hW0]
  clear hW0
  generalize hq : w.heap.size = q at *
  have HQ := hide hq
  clear hq
  go_upto_region 2 with (go_at_call 26; refine H26.out.mono ?_; rintro e W1 ⟨hb1, p1, rfl, ht1, hf1⟩; have HB1 := hide hb1; have HT1 := hide ht1; have HF1 := hide hf1; clear hb1 ht1 hf1)
  have HB2 : Hid (Below W0.heap.size W0 (W1.alloc (.cells #[.string (strOf R.nm), .slice p1.ca R.cols.length p1.cc, .slice p1.ia R.idx.length p1.ic, .int .i64 R.head, .slice p1.ra R.roots.length p1.rc] 29))) := HB1.out.alloc HB1.out.size _
  have HX5 : Hid (TBox (W1.alloc (.cells #[.string (strOf R.nm), .slice p1.ca R.cols.length p1.cc, .slice p1.ia R.idx.length p1.ic, .int .i64 R.head, .slice p1.ra R.roots.length p1.rc] 29)) W1.heap.size R p1) := heap_alloc_new W1 _
  have HT2 : Hid (TbAt (W1.alloc (.cells #[.string (strOf R.nm), .slice p1.ca R.cols.length p1.cc, .slice p1.ia R.idx.length p1.ic, .int .i64 R.head, .slice p1.ra R.roots.length p1.rc] 29)) R p1) := HT1.out.belowW ((Below.refl _ _).alloc (Nat.le_refl _) _)
  clear H26 HB1 HT1
  generalize W1.alloc (.cells #[.string (strOf R.nm), .slice p1.ca R.cols.length p1.cc, .slice p1.ia R.idx.length p1.ic, .int .i64 R.head, .slice p1.ra R.roots.length p1.rc] 29) = W2 at *
  generalize W1.heap.size = q5 at *
  have HQ0 : Hid (q ≤ W0.heap.size) := Nat.le_of_lt (lt_of_heap HX0.out)
  have HBW2 : Hid (Below q w W2) := HB0.out.trans (HB2.out.mono HQ0.out)
  have HC := hide (H27.out W2 HBW2.out)
  clear H27
  go_upto_region 3 with (go_at_call 27; refine HC.out.mono ?_; rintro e W3 ⟨hb3, p2, rfl, ht3, hf3⟩; have HB3 := hide hb3; have HT3 := hide ht3; clear hb3 ht3 hf3)
  have hal : Below W3.heap.size W3 (W3.alloc (.cells #[.string (strOf R.nm), .slice p2.ca R.cols.length p2.cc, .slice p2.ia R.idx.length p2.ic, .int .i64 R.head, .slice p2.ra R.roots.length p2.rc] 29)) := (Below.refl _ _).alloc (Nat.le_refl _) _
  have HS : Hid (LwS q q5 W3.heap.size T p R p1 p2 m (W3.alloc (.cells #[.string (strOf R.nm), .slice p2.ca R.cols.length p2.cc, .slice p2.ia R.idx.length p2.ic, .int .i64 R.head, .slice p2.ra R.roots.length p2.rc] 29))) := by
    have b02 : Below W0.heap.size W0 W2 := HB2.out
    refine ⟨((HX0.out.belowW b02).belowW HB3.out).belowW hal, ?_, (HX5.out.belowW HB3.out).belowW hal, (HT2.out.belowW HB3.out).belowW hal, heap_alloc_new W3 _, HT3.out.belowW hal, ?_⟩
    · exact (((HTA.out.belowW (by rw [HQ.out]; exact HB0.out)).belowW b02).belowW HB3.out).belowW hal
    · exact cell_belowW (cell_belowW (cell_belowW (cell_belowW HM.out (by rw [HQ.out]; exact HB0.out)) b02) HB3.out) hal
  have HBE : Hid (Below q w (W3.alloc (.cells #[.string (strOf R.nm), .slice p2.ca R.cols.length p2.cc, .slice p2.ia R.idx.length p2.ic, .int .i64 R.head, .slice p2.ra R.roots.length p2.rc] 29))) := HBW2.out.trans ((thenW HB3.out hal).mono (Nat.le_trans HQ0.out HB2.out.size))
  clear hal HX5 HT2 HT3 HB3 HB2 HBW2 HX0 HTA HM HC HB0
  generalize W3.alloc (.cells #[.string (strOf R.nm), .slice p2.ca R.cols.length p2.cc, .slice p2.ia R.idx.length p2.ic, .int .i64 R.head, .slice p2.ra R.roots.length p2.rc] 29) = W4 at *
  generalize W3.heap.size = q7 at *
  refine wp_region_held_drew (S := LwS q q5 q7 T p R p1 p2 m) (by kernel_rfl) (HS.out.belowW (below_drewN _ _ 1)) (fun hH => ?_)
  refine take_to 0 19 (.agg #[.string (strOf T.nm), .slice p.ca T.cols.length p.cc, .slice p.ia T.idx.length p.ic, .int .i64 T.head, .slice p.ra T.roots.length p.rc]) rfl (by kernel_rfl) (by kernel_rfl) (by kernel_rfl) (fun _ _ _ h => h) rfl (by rfl) (fun w hw => op_load _ _ 29 (.tmp 2) rfl (.pointer (some ⟨q, 0, none⟩)) _ rfl (load29 hw.t2)) hH ?_
  simp only [Act.put, List.setIfInBounds_toArray, List.set_cons_zero, List.set_cons_succ]
  refine take_to 3 22 (.agg #[.string (strOf T.nm), .slice p.ca T.cols.length p.cc, .slice p.ia T.idx.length p.ic, .int .i64 T.head, .slice p.ra T.roots.length p.rc]) rfl (by kernel_rfl) (by kernel_rfl) (by kernel_rfl) (fun _ _ _ h => h) rfl (by rfl) (fun w hw => op_load _ _ 29 (.tmp 2) rfl (.pointer (some ⟨q, 0, none⟩)) _ rfl (load29 hw.t2)) hH ?_
  simp only [Act.put, List.setIfInBounds_toArray, List.set_cons_zero, List.set_cons_succ]
  refine step_call1_to 1 20 28 rfl (by kernel_rfl) rfl (by rfl) (.tmp 19) _ rfl _ rfl Tryd.enters28t (HCA.out _ hH.ta) ?_
  rintro e u1 ⟨v1, rfl, hB1⟩
  obtain ⟨a1, c1, rfl, hx1, hx2⟩ := hB1.sl.len
  have hH1 := hH.belowW hB1.below
  refine ⟨_, rfl, hH1, ?_⟩
  simp only [Act.put, List.setIfInBounds_toArray, List.set_cons_zero, List.set_cons_succ]
  refine wpAnyH_all (rs := [2, 4]) (by kernel_rfl) (by simp) ?_
  intro i hi
  simp only [List.mem_cons, List.not_mem_nil, or_false] at hi
  rcases hi with rfl | rfl
  · refine op_to 21 (.string (strOf (joinL (schL T)))) u1 rfl rfl (by rfl) (op_conv _ _ 30 9 (.tmp 20) rfl _ _ rfl (run_str hB1.sl)) ⟨hH1, ?_⟩
    simp only [Act.put, List.setIfInBounds_toArray, List.set_cons_zero, List.set_cons_succ]
    refine step_call1_to 4 23 29 rfl (by kernel_rfl) rfl (by rfl) (.tmp 22) _ rfl _ rfl Tryd.enters29t (HCB.out _ hH1.ta) ?_
    rintro e u2 ⟨v2, rfl, hB2⟩
    obtain ⟨a2, c2, rfl, hx3, hx4⟩ := hB2.sl.len
    have hH2 := hH1.belowW hB2.below
    refine ⟨_, rfl, hH2, ?_⟩
    simp only [Act.put, List.setIfInBounds_toArray, List.set_cons_zero, List.set_cons_succ]
    refine step_to 5 24 (.string (strOf (joinL (schL T)))) u2 rfl (by kernel_rfl) rfl (by rfl) (op_conv _ _ 30 9 (.tmp 23) rfl _ _ rfl (run_str hB2.sl)) hH2 ?_
    simp only [Act.put, List.setIfInBounds_toArray, List.set_cons_zero, List.set_cons_succ]
    refine step_to 6 25 (.bool true) u2 rfl (by kernel_rfl) rfl (by rfl) (op_eqlS _ _ (.tmp 21) (.tmp 24) _ rfl _ rfl rfl) hH2 ?_
    simp only [Act.put, List.setIfInBounds_toArray, List.set_cons_zero, List.set_cons_succ]
    refine take_to 7 26 (.bool true) rfl (by kernel_rfl) (by kernel_rfl) (by kernel_rfl) (fun _ _ _ h => h) rfl (by rfl) (fun w hw => by rfl) hH2 ?_
    simp only [Act.put, List.setIfInBounds_toArray, List.set_cons_zero, List.set_cons_succ]
    refine take_to 8 27 (.agg #[.string (strOf R.nm), .slice p1.ca R.cols.length p1.cc, .slice p1.ia R.idx.length p1.ic, .int .i64 R.head, .slice p1.ra R.roots.length p1.rc]) rfl (by kernel_rfl) (by kernel_rfl) (by kernel_rfl) (fun _ _ _ h => h) rfl (by rfl) (fun w hw => op_load _ _ 29 (.tmp 5) rfl (.pointer (some ⟨q5, 0, none⟩)) _ rfl (load29 hw.t5)) hH2 ?_
    simp only [Act.put, List.setIfInBounds_toArray, List.set_cons_zero, List.set_cons_succ]
    refine take_to 9 28 (.agg #[.string (strOf R.nm), .slice p2.ca R.cols.length p2.cc, .slice p2.ia R.idx.length p2.ic, .int .i64 R.head, .slice p2.ra R.roots.length p2.rc]) rfl (by kernel_rfl) (by kernel_rfl) (by kernel_rfl) (fun _ _ _ h => h) rfl (by rfl) (fun w hw => op_load _ _ 29 (.tmp 7) rfl (.pointer (some ⟨q7, 0, none⟩)) _ rfl (load29 hw.t7)) hH2 ?_
    simp only [Act.put, List.setIfInBounds_toArray, List.set_cons_zero, List.set_cons_succ]
    refine step_call2_to 10 29 30 rfl (by kernel_rfl) rfl (by rfl) (.tmp 27) (.tmp 28) _ rfl _ _ rfl rfl Tryd.enters30t (same30 (T := R) (p := p1) (p' := p2) hH2.tb hH2.tc HF1.out HWF.out HBK.out) ?_
    rintro e u3 ⟨rfl, hb3⟩
    have hH3 := hH2.belowW hb3
    refine ⟨_, rfl, hH3, ?_⟩
    simp only [Act.put, List.setIfInBounds_toArray, List.set_cons_zero, List.set_cons_succ]
    refine take_to 11 30 (.bool true) rfl (by kernel_rfl) (by kernel_rfl) (by kernel_rfl) (fun _ _ _ h => h) rfl (by rfl) (fun w hw => by rfl) hH3 ?_
    simp only [Act.put, List.setIfInBounds_toArray, List.set_cons_zero, List.set_cons_succ]
    refine take_to 12 31 (.bool true) rfl (by kernel_rfl) (by kernel_rfl) (by kernel_rfl) (fun _ _ _ h => h) rfl (by rfl) (fun w hw => by rfl) hH3 ?_
    simp only [Act.put, List.setIfInBounds_toArray, List.set_cons_zero, List.set_cons_succ]
    refine take_to 13 32 (.bool ok) rfl (by kernel_rfl) (by kernel_rfl) (by kernel_rfl) (fun _ _ _ h => h) rfl (by rfl) (fun w hw => by rfl) hH3 ?_
    simp only [Act.put, List.setIfInBounds_toArray, List.set_cons_zero, List.set_cons_succ]
    refine take_to 14 33 (.bool ok) rfl (by kernel_rfl) (by kernel_rfl) (by kernel_rfl) (fun _ _ _ h => h) rfl (by rfl) (fun w hw => by rfl) hH3 ?_
    simp only [Act.put, List.setIfInBounds_toArray, List.set_cons_zero, List.set_cons_succ]
    refine take_to 15 34 (.bool true) rfl (by kernel_rfl) (by kernel_rfl) (by kernel_rfl) (fun _ _ _ h => h) rfl (by rfl) (fun w hw => op_eqlB _ _ (.tmp 32) (.tmp 33) _ rfl ok rfl rfl) hH3 ?_
    simp only [Act.put, List.setIfInBounds_toArray, List.set_cons_zero, List.set_cons_succ]
    refine take_to 16 35 (.bool true) rfl (by kernel_rfl) (by kernel_rfl) (by kernel_rfl) (fun _ _ _ h => h) rfl (by rfl) (fun w hw => by rfl) hH3 ?_
    simp only [Act.put, List.setIfInBounds_toArray, List.set_cons_zero, List.set_cons_succ]
    refine take_to 17 36 (.bool true) rfl (by kernel_rfl) (by kernel_rfl) (by kernel_rfl) (fun _ _ _ h => h) rfl (by rfl) (fun w hw => by rfl) hH3 ?_
    simp only [Act.put, List.setIfInBounds_toArray, List.set_cons_zero, List.set_cons_succ]
    refine step_call0_to 18 37 9 rfl (by kernel_rfl) rfl (by rfl) _ rfl Tryd.enters9 (awake_any m _ hH3.z) ?_
    rintro e u4 ⟨rfl, hb4⟩
    have hH4 := hH3.belowW hb4
    refine ⟨_, rfl, hH4, ?_⟩
    simp only [Act.put, List.setIfInBounds_toArray, List.set_cons_zero, List.set_cons_succ]
    refine step_to 19 38 (.bool true) u4 rfl (by kernel_rfl) rfl (by rfl) (by rfl) hH4 ?_
    simp only [Act.put, List.setIfInBounds_toArray, List.set_cons_zero, List.set_cons_succ]
    refine step_to 20 4 (.bool true) u4 rfl (by kernel_rfl) rfl (by rfl) (by rfl) hH4 ?_
    simp only [Act.put, List.setIfInBounds_toArray, List.set_cons_zero, List.set_cons_succ]
    refine wpAnyH_done (by kernel_rfl) ?_ _
    have HB9 := hide (thenW (thenW (thenW (thenW (below_drewN W4.heap.size W4 1) hB1.below) hB2.below) hb3) hb4)
    clear hH hH1 hH2 hH3 hH4 hB1 hB2 hb3 hb4 hx1 hx2 hx3 hx4
    go_wp2
    go_ret
    refine ⟨rfl, ?_⟩
    have hz : q ≤ W4.heap.size := Nat.le_of_lt (lt_of_heap HS.out.t2)
    first
      | exact HBE.out.trans (HB9.out.mono hz)
      | (rw [HQ.out]; exact HBE.out.trans (HB9.out.mono hz))
  · refine op_call1 23 29 rfl rfl (by rfl) (.tmp 22) _ rfl _ rfl Tryd.enters29t (HCB.out _ hH1.ta) ?_
    rintro e u2 ⟨v2, rfl, hB2⟩
    obtain ⟨a2, c2, rfl, hx3, hx4⟩ := hB2.sl.len
    have hH2 := hH1.belowW hB2.below
    refine ⟨_, rfl, hH2, ?_⟩
    simp only [Act.put, List.setIfInBounds_toArray, List.set_cons_zero, List.set_cons_succ]
    refine wpAnyH_all (rs := [2, 5]) (by kernel_rfl) (by simp) ?_
    intro i hi
    simp only [List.mem_cons, List.not_mem_nil, or_false] at hi
    rcases hi with rfl | rfl
    · refine op_to 21 (.string (strOf (joinL (schL T)))) u2 rfl rfl (by rfl) (op_conv _ _ 30 9 (.tmp 20) rfl _ _ rfl (run_str (hB1.sl.belowW hB2.below))) ⟨hH2, ?_⟩
      simp only [Act.put, List.setIfInBounds_toArray, List.set_cons_zero, List.set_cons_succ]
      refine step_to 5 24 (.string (strOf (joinL (schL T)))) u2 rfl (by kernel_rfl) rfl (by rfl) (op_conv _ _ 30 9 (.tmp 23) rfl _ _ rfl (run_str hB2.sl)) hH2 ?_
      simp only [Act.put, List.setIfInBounds_toArray, List.set_cons_zero, List.set_cons_succ]
      refine step_to 6 25 (.bool true) u2 rfl (by kernel_rfl) rfl (by rfl) (op_eqlS _ _ (.tmp 21) (.tmp 24) _ rfl _ rfl rfl) hH2 ?_
      simp only [Act.put, List.setIfInBounds_toArray, List.set_cons_zero, List.set_cons_succ]
      refine take_to 7 26 (.bool true) rfl (by kernel_rfl) (by kernel_rfl) (by kernel_rfl) (fun _ _ _ h => h) rfl (by rfl) (fun w hw => by rfl) hH2 ?_
      simp only [Act.put, List.setIfInBounds_toArray, List.set_cons_zero, List.set_cons_succ]
      refine take_to 8 27 (.agg #[.string (strOf R.nm), .slice p1.ca R.cols.length p1.cc, .slice p1.ia R.idx.length p1.ic, .int .i64 R.head, .slice p1.ra R.roots.length p1.rc]) rfl (by kernel_rfl) (by kernel_rfl) (by kernel_rfl) (fun _ _ _ h => h) rfl (by rfl) (fun w hw => op_load _ _ 29 (.tmp 5) rfl (.pointer (some ⟨q5, 0, none⟩)) _ rfl (load29 hw.t5)) hH2 ?_
      simp only [Act.put, List.setIfInBounds_toArray, List.set_cons_zero, List.set_cons_succ]
      refine take_to 9 28 (.agg #[.string (strOf R.nm), .slice p2.ca R.cols.length p2.cc, .slice p2.ia R.idx.length p2.ic, .int .i64 R.head, .slice p2.ra R.roots.length p2.rc]) rfl (by kernel_rfl) (by kernel_rfl) (by kernel_rfl) (fun _ _ _ h => h) rfl (by rfl) (fun w hw => op_load _ _ 29 (.tmp 7) rfl (.pointer (some ⟨q7, 0, none⟩)) _ rfl (load29 hw.t7)) hH2 ?_
      simp only [Act.put, List.setIfInBounds_toArray, List.set_cons_zero, List.set_cons_succ]
      refine step_call2_to 10 29 30 rfl (by kernel_rfl) rfl (by rfl) (.tmp 27) (.tmp 28) _ rfl _ _ rfl rfl Tryd.enters30t (same30 (T := R) (p := p1) (p' := p2) hH2.tb hH2.tc HF1.out HWF.out HBK.out) ?_
      rintro e u3 ⟨rfl, hb3⟩
      have hH3 := hH2.belowW hb3
      refine ⟨_, rfl, hH3, ?_⟩
      simp only [Act.put, List.setIfInBounds_toArray, List.set_cons_zero, List.set_cons_succ]
      refine take_to 11 30 (.bool true) rfl (by kernel_rfl) (by kernel_rfl) (by kernel_rfl) (fun _ _ _ h => h) rfl (by rfl) (fun w hw => by rfl) hH3 ?_
      simp only [Act.put, List.setIfInBounds_toArray, List.set_cons_zero, List.set_cons_succ]
      refine take_to 12 31 (.bool true) rfl (by kernel_rfl) (by kernel_rfl) (by kernel_rfl) (fun _ _ _ h => h) rfl (by rfl) (fun w hw => by rfl) hH3 ?_
      simp only [Act.put, List.setIfInBounds_toArray, List.set_cons_zero, List.set_cons_succ]
      refine take_to 13 32 (.bool ok) rfl (by kernel_rfl) (by kernel_rfl) (by kernel_rfl) (fun _ _ _ h => h) rfl (by rfl) (fun w hw => by rfl) hH3 ?_
      simp only [Act.put, List.setIfInBounds_toArray, List.set_cons_zero, List.set_cons_succ]
      refine take_to 14 33 (.bool ok) rfl (by kernel_rfl) (by kernel_rfl) (by kernel_rfl) (fun _ _ _ h => h) rfl (by rfl) (fun w hw => by rfl) hH3 ?_
      simp only [Act.put, List.setIfInBounds_toArray, List.set_cons_zero, List.set_cons_succ]
      refine take_to 15 34 (.bool true) rfl (by kernel_rfl) (by kernel_rfl) (by kernel_rfl) (fun _ _ _ h => h) rfl (by rfl) (fun w hw => op_eqlB _ _ (.tmp 32) (.tmp 33) _ rfl ok rfl rfl) hH3 ?_
      simp only [Act.put, List.setIfInBounds_toArray, List.set_cons_zero, List.set_cons_succ]
      refine take_to 16 35 (.bool true) rfl (by kernel_rfl) (by kernel_rfl) (by kernel_rfl) (fun _ _ _ h => h) rfl (by rfl) (fun w hw => by rfl) hH3 ?_
      simp only [Act.put, List.setIfInBounds_toArray, List.set_cons_zero, List.set_cons_succ]
      refine take_to 17 36 (.bool true) rfl (by kernel_rfl) (by kernel_rfl) (by kernel_rfl) (fun _ _ _ h => h) rfl (by rfl) (fun w hw => by rfl) hH3 ?_
      simp only [Act.put, List.setIfInBounds_toArray, List.set_cons_zero, List.set_cons_succ]
      refine step_call0_to 18 37 9 rfl (by kernel_rfl) rfl (by rfl) _ rfl Tryd.enters9 (awake_any m _ hH3.z) ?_
      rintro e u4 ⟨rfl, hb4⟩
      have hH4 := hH3.belowW hb4
      refine ⟨_, rfl, hH4, ?_⟩
      simp only [Act.put, List.setIfInBounds_toArray, List.set_cons_zero, List.set_cons_succ]
      refine step_to 19 38 (.bool true) u4 rfl (by kernel_rfl) rfl (by rfl) (by rfl) hH4 ?_
      simp only [Act.put, List.setIfInBounds_toArray, List.set_cons_zero, List.set_cons_succ]
      refine step_to 20 4 (.bool true) u4 rfl (by kernel_rfl) rfl (by rfl) (by rfl) hH4 ?_
      simp only [Act.put, List.setIfInBounds_toArray, List.set_cons_zero, List.set_cons_succ]
      refine wpAnyH_done (by kernel_rfl) ?_ _
      have HB9 := hide (thenW (thenW (thenW (thenW (below_drewN W4.heap.size W4 1) hB1.below) hB2.below) hb3) hb4)
      clear hH hH1 hH2 hH3 hH4 hB1 hB2 hb3 hb4 hx1 hx2 hx3 hx4
      go_wp2
      go_ret
      refine ⟨rfl, ?_⟩
      have hz : q ≤ W4.heap.size := Nat.le_of_lt (lt_of_heap HS.out.t2)
      first
        | exact HBE.out.trans (HB9.out.mono hz)
        | (rw [HQ.out]; exact HBE.out.trans (HB9.out.mono hz))
    · refine op_to 24 (.string (strOf (joinL (schL T)))) u2 rfl rfl (by rfl) (op_conv _ _ 30 9 (.tmp 23) rfl _ _ rfl (run_str hB2.sl)) ⟨hH2, ?_⟩
      simp only [Act.put, List.setIfInBounds_toArray, List.set_cons_zero, List.set_cons_succ]
      refine step_to 2 21 (.string (strOf (joinL (schL T)))) u2 rfl (by kernel_rfl) rfl (by rfl) (op_conv _ _ 30 9 (.tmp 20) rfl _ _ rfl (run_str (hB1.sl.belowW hB2.below))) hH2 ?_
      simp only [Act.put, List.setIfInBounds_toArray, List.set_cons_zero, List.set_cons_succ]
      refine step_to 6 25 (.bool true) u2 rfl (by kernel_rfl) rfl (by rfl) (op_eqlS _ _ (.tmp 21) (.tmp 24) _ rfl _ rfl rfl) hH2 ?_
      simp only [Act.put, List.setIfInBounds_toArray, List.set_cons_zero, List.set_cons_succ]
      refine take_to 7 26 (.bool true) rfl (by kernel_rfl) (by kernel_rfl) (by kernel_rfl) (fun _ _ _ h => h) rfl (by rfl) (fun w hw => by rfl) hH2 ?_
      simp only [Act.put, List.setIfInBounds_toArray, List.set_cons_zero, List.set_cons_succ]
      refine take_to 8 27 (.agg #[.string (strOf R.nm), .slice p1.ca R.cols.length p1.cc, .slice p1.ia R.idx.length p1.ic, .int .i64 R.head, .slice p1.ra R.roots.length p1.rc]) rfl (by kernel_rfl) (by kernel_rfl) (by kernel_rfl) (fun _ _ _ h => h) rfl (by rfl) (fun w hw => op_load _ _ 29 (.tmp 5) rfl (.pointer (some ⟨q5, 0, none⟩)) _ rfl (load29 hw.t5)) hH2 ?_
      simp only [Act.put, List.setIfInBounds_toArray, List.set_cons_zero, List.set_cons_succ]
      refine take_to 9 28 (.agg #[.string (strOf R.nm), .slice p2.ca R.cols.length p2.cc, .slice p2.ia R.idx.length p2.ic, .int .i64 R.head, .slice p2.ra R.roots.length p2.rc]) rfl (by kernel_rfl) (by kernel_rfl) (by kernel_rfl) (fun _ _ _ h => h) rfl (by rfl) (fun w hw => op_load _ _ 29 (.tmp 7) rfl (.pointer (some ⟨q7, 0, none⟩)) _ rfl (load29 hw.t7)) hH2 ?_
      simp only [Act.put, List.setIfInBounds_toArray, List.set_cons_zero, List.set_cons_succ]
      refine step_call2_to 10 29 30 rfl (by kernel_rfl) rfl (by rfl) (.tmp 27) (.tmp 28) _ rfl _ _ rfl rfl Tryd.enters30t (same30 (T := R) (p := p1) (p' := p2) hH2.tb hH2.tc HF1.out HWF.out HBK.out) ?_
      rintro e u3 ⟨rfl, hb3⟩
      have hH3 := hH2.belowW hb3
      refine ⟨_, rfl, hH3, ?_⟩
      simp only [Act.put, List.setIfInBounds_toArray, List.set_cons_zero, List.set_cons_succ]
      refine take_to 11 30 (.bool true) rfl (by kernel_rfl) (by kernel_rfl) (by kernel_rfl) (fun _ _ _ h => h) rfl (by rfl) (fun w hw => by rfl) hH3 ?_
      simp only [Act.put, List.setIfInBounds_toArray, List.set_cons_zero, List.set_cons_succ]
      refine take_to 12 31 (.bool true) rfl (by kernel_rfl) (by kernel_rfl) (by kernel_rfl) (fun _ _ _ h => h) rfl (by rfl) (fun w hw => by rfl) hH3 ?_
      simp only [Act.put, List.setIfInBounds_toArray, List.set_cons_zero, List.set_cons_succ]
      refine take_to 13 32 (.bool ok) rfl (by kernel_rfl) (by kernel_rfl) (by kernel_rfl) (fun _ _ _ h => h) rfl (by rfl) (fun w hw => by rfl) hH3 ?_
      simp only [Act.put, List.setIfInBounds_toArray, List.set_cons_zero, List.set_cons_succ]
      refine take_to 14 33 (.bool ok) rfl (by kernel_rfl) (by kernel_rfl) (by kernel_rfl) (fun _ _ _ h => h) rfl (by rfl) (fun w hw => by rfl) hH3 ?_
      simp only [Act.put, List.setIfInBounds_toArray, List.set_cons_zero, List.set_cons_succ]
      refine take_to 15 34 (.bool true) rfl (by kernel_rfl) (by kernel_rfl) (by kernel_rfl) (fun _ _ _ h => h) rfl (by rfl) (fun w hw => op_eqlB _ _ (.tmp 32) (.tmp 33) _ rfl ok rfl rfl) hH3 ?_
      simp only [Act.put, List.setIfInBounds_toArray, List.set_cons_zero, List.set_cons_succ]
      refine take_to 16 35 (.bool true) rfl (by kernel_rfl) (by kernel_rfl) (by kernel_rfl) (fun _ _ _ h => h) rfl (by rfl) (fun w hw => by rfl) hH3 ?_
      simp only [Act.put, List.setIfInBounds_toArray, List.set_cons_zero, List.set_cons_succ]
      refine take_to 17 36 (.bool true) rfl (by kernel_rfl) (by kernel_rfl) (by kernel_rfl) (fun _ _ _ h => h) rfl (by rfl) (fun w hw => by rfl) hH3 ?_
      simp only [Act.put, List.setIfInBounds_toArray, List.set_cons_zero, List.set_cons_succ]
      refine step_call0_to 18 37 9 rfl (by kernel_rfl) rfl (by rfl) _ rfl Tryd.enters9 (awake_any m _ hH3.z) ?_
      rintro e u4 ⟨rfl, hb4⟩
      have hH4 := hH3.belowW hb4
      refine ⟨_, rfl, hH4, ?_⟩
      simp only [Act.put, List.setIfInBounds_toArray, List.set_cons_zero, List.set_cons_succ]
      refine step_to 19 38 (.bool true) u4 rfl (by kernel_rfl) rfl (by rfl) (by rfl) hH4 ?_
      simp only [Act.put, List.setIfInBounds_toArray, List.set_cons_zero, List.set_cons_succ]
      refine step_to 20 4 (.bool true) u4 rfl (by kernel_rfl) rfl (by rfl) (by rfl) hH4 ?_
      simp only [Act.put, List.setIfInBounds_toArray, List.set_cons_zero, List.set_cons_succ]
      refine wpAnyH_done (by kernel_rfl) ?_ _
      have HB9 := hide (thenW (thenW (thenW (thenW (below_drewN W4.heap.size W4 1) hB1.below) hB2.below) hb3) hb4)
      clear hH hH1 hH2 hH3 hH4 hB1 hB2 hb3 hb4 hx1 hx2 hx3 hx4
      go_wp2
      go_ret
      refine ⟨rfl, ?_⟩
      have hz : q ≤ W4.heap.size := Nat.le_of_lt (lt_of_heap HS.out.t2)
      first
        | exact HBE.out.trans (HB9.out.mono hz)
        | (rw [HQ.out]; exact HBE.out.trans (HB9.out.mono hz))
end Go.Proofs.YtplpchaceiogaaaDoor
