/- The walk of LockPlays. -/
import Derived.Test.YtffjdjbjkjefoaaLpp
namespace Go.Proofs.Ytffjdjbjkjefoaa
open Go.RowKit Go.WideAt
set_option linter.unusedVariables false
set_option linter.unusedSimpArgs false

theorem WantsAt.wl {w : World} {a : Option Addr} {l : List Wn} (h : WantsAt w a l) : Wl w a l := fun i x hx => by
  obtain ⟨_, _, b, o, e, _, hr⟩ := h.at' i x hx
  exact ⟨b, o, e, by simpa using hr 0 _ rfl, hr 1 _ rfl⟩
theorem op_eqlb (ρ : Operand → Value) (o : Oper) (x y : Operand) (tt : TypeId) (ho : o.op = .binOp .eql 4 x y tt) (a : Bool) (hx : ρ x = .bool a) (hy : ρ y = .bool a) {w : World} : (execOp ρ o).run Try.prog w = .ok (.value (.bool true)) w := by
  have hu := Try.underlying4
  unfold execOp
  simp only [ho, hx, hy]
  simp [go_sem, hu]
theorem pl_start {w x1 : World} {B : Tb} {t : Nat} (h : At w t x1 B (fun _ _ => none) 0) : Pl w t x1.heap.size (x1.alloc (.cells #[.slice none 0 0] 41)) B (fun _ _ => none) (fun _ _ => none) 0 0 (.slice none 0 0) [] :=
  ⟨h.by (alloc_below _ _), ⟨heap_alloc_new _ _, h.below.size, ⟨rfl, .inl ⟨rfl, rfl⟩⟩⟩, TbOf.nil, Nat.le_refl _,
   ⟨(fun e => by have := h.tab.lt (.inl rfl); omega), (fun e => by have := h.tab.lt (.inr e); omega), (fun e => by cases e), (fun k e => by cases e)⟩⟩
set_option maxRecDepth 100000 in
set_option maxHeartbeats 16000000 in
theorem plays_walk {w : World} {a : Option Addr} {n c : Nat} (h : OpsAt w a n) : Calls Try.prog 5 #[.slice a n c] w fun e w' => e = .returned (.bool true) ∧ Below w.heap.size w w' := by
  have HNEW := hide (new_any w)
  have HAW := hide awake_any
  have HO := hide h.2
  have hn := h.1
  clear h
  go_enter Try.func5, Try.ntmps5
  go_upto_region 2 with (go_at_call 8; refine HNEW.out.mono ?_; rintro e x1 ⟨B0, rfl, hT, hB⟩; have H1 : Hid (At w B0.t x1 B0 (fun _ _ => none) 0) := ⟨hT, hB, rfl⟩; clear hT hB)
  generalize B0.t = t at *
  go_upto_region 3 with fail
  have HP0 := hide (pl_start H1.out)
  generalize x1.alloc (.cells #[.slice none 0 0] 41) = x2 at *
  generalize x1.heap.size = rt at *
  go_upto_region 6 with (go_at_call 14; refine (HAW.out _).mono ?_; rintro e x3 ⟨rfl, hb3⟩; have HP1 := hide (HP0.out.by hb3); clear hb3)
  go_loopw [5] (fun i wr => ∃ (k : Nat) (B : Tb) (m : Held) (v : Value) (hs : List Ht), k ≤ n ∧ k ≤ 60 ∧ i = .int .i64 (k : Int) ∧ Pl w t rt wr B m m (k * 1048576) (k * 1048576) v hs) (fun i _ => n - (intOf i).toNat)
  case atStart => exact ⟨0, B0, _, _, [], by omega, by omega, rfl, by simpa using HP1.out⟩
  case round =>
    clear HP1 HP0 H1
    obtain ⟨k, B, m, v, hs, hk, hk6, rfl, hS⟩ := hrel
    have HS := hide hS
    clear hS
    by_cases hkn : k < n
    · by_cases hk60 : k < 60
      · have i1 : (k : Int) < (n : Int) := by omega
        have i2 : (k : Int) < 60 := by omega
        obtain ⟨N0, N1, hS0, hN1, hNN, hNb⟩ : ∃ N0 N1, Pl w t rt wr B m m N0 N0 v hs ∧ (k + 1) * 1048576 = N1 ∧ N0 + 1048576 = N1 ∧ N1 ≤ 62914560 := ⟨_, _, HS.out, rfl, by rw [Nat.add_mul, Nat.one_mul], Nat.le_trans (Nat.mul_le_mul_right _ (Nat.succ_le_of_lt hk60)) (by decide)⟩
        clear HS
        have HS := hide hS0
        have HN1E := hide hN1
        have HNk : Hid (N0 ≤ 61865984) := by show _ ≤ _; omega
        have HNk1 := hide hNb
        have HNN := hide hNN
        clear hN1 hNN hNb hS0
        have HKN := hide hkn
        have HK60 := hide hk60
        obtain ⟨b, oo, kd, id, aa, cc, l, hab, hid, o0, o1, o2, hw, hwl⟩ := HO.out k hkn
        subst hab
        have HID := hide hid
        have HWL := hide hwl
        have hbw := HS.out.tab.below
        have c0 := (hbw.cell (p := ⟨b, oo + k * 3, none⟩) (World.block_lt_of_cell? _ _ o0)).trans o0
        have c1 := (hbw.cell (p := ⟨b, oo + k * 3 + 1, none⟩) (World.block_lt_of_cell? _ _ o1)).trans o1
        have c2 := (hbw.cell (p := ⟨b, oo + k * 3 + 2, none⟩) (World.block_lt_of_cell? _ _ o2)).trans o2
        have HWA := hide hw
        clear hw hid hwl o0 o1 o2 hbw
        go_upto_region 9 with fail
        have HP6 : Hid ((wr.alloc (.cells #[.int .i64 kd, .int .i64 id, .slice aa l.length cc] 43)).heap[wr.heap.size]? = some (.cells #[.int .i64 kd, .int .i64 id, .slice aa l.length cc] 43 (0, 0))) := heap_alloc_new _ _
        have HNB : Hid (¬ B.own wr.heap.size) := fun h => Nat.lt_irrefl _ (HS.out.tab.tab.lt (.inr h))
        have HNR : Hid (wr.heap.size ≠ rt) := fun h => by have := lt_of_heap HS.out.doc.cell; omega
        have HNV : Hid (v.ownBlock ≠ some wr.heap.size) := fun h => Nat.lt_irrefl _ (HS.out.doc.own.lt _ h).2
        have HS2 := hide (HS.out.by (alloc_below wr (.cells #[.int .i64 kd, .int .i64 id, .slice aa l.length cc] 43)))
        generalize wr.alloc (.cells #[.int .i64 kd, .int .i64 id, .slice aa l.length cc] 43) = W2 at *
        generalize wr.heap.size = p6 at *
        clear c0 c1 c2 HS
        have d0 : W2.cell? ⟨p6, 0, none⟩ = some (.int .i64 kd) := by rw [cell_row HP6.out]; rfl
        have d1 : W2.cell? ⟨p6, 1, none⟩ = some (.int .i64 id) := by rw [cell_row HP6.out]; rfl
        have d2 : W2.cell? ⟨p6, 2, none⟩ = some (.slice aa l.length cc) := by rw [cell_row HP6.out]; rfl
        have hnl : N0 + l.length ≤ N1 := by have := HWL.out; have := HNN.out; omega
        have hn0 : N0 ≤ N1 := by have := HNN.out; omega
        have HNL := hide hnl
        have HN0 := hide hn0
        have hL0 : l.length ≤ 1000000000 := by have := HWL.out; omega
        have HL0 := hide hL0
        clear hnl hn0 hL0
        by_cases hkd : kd = 0
        · subst hkd
          go_upto_region 14 with fail
          refine wp_region_held_drew (S := fun W => W.cell? ⟨p6, 1, none⟩ = some (.int .i64 id) ∧ W.cell? ⟨p6, 2, none⟩ = some (.slice aa l.length cc)) (by kernel_rfl) ⟨d1, d2⟩ (fun hH => ?_)
          refine take_to 0 46 (.pointer (some ⟨t, 0, none⟩)) rfl (by kernel_rfl) (by kernel_rfl) (by kernel_rfl) (fun _ _ _ h => h) rfl (by rfl) (fun w hw => by rfl) hH ?_
          simp only [Act.put, List.setIfInBounds_toArray, List.set_cons_zero, List.set_cons_succ]
          refine take_to 1 47 (.pointer (some ⟨p6, 1, none⟩)) rfl (by kernel_rfl) (by kernel_rfl) (by kernel_rfl) (fun _ _ _ h => h) rfl (by rfl) (fun w hw => by rfl) hH ?_
          simp only [Act.put, List.setIfInBounds_toArray, List.set_cons_zero, List.set_cons_succ]
          refine take_to 2 48 (.int .i64 id) rfl (by kernel_rfl) (by kernel_rfl) (by kernel_rfl) (fun _ _ _ h => h) rfl (by rfl) (fun w hw => op_load _ _ 3 (.tmp 47) rfl (.pointer (some ⟨p6, 1, none⟩)) _ rfl (run_loadAny w _ _ 3 _ Try.isAgg3 hw.1)) hH ?_
          simp only [Act.put, List.setIfInBounds_toArray, List.set_cons_zero, List.set_cons_succ]
          refine take_to 3 49 (.pointer (some ⟨p6, 2, none⟩)) rfl (by kernel_rfl) (by kernel_rfl) (by kernel_rfl) (fun _ _ _ h => h) rfl (by rfl) (fun w hw => by rfl) hH ?_
          simp only [Act.put, List.setIfInBounds_toArray, List.set_cons_zero, List.set_cons_succ]
          refine take_to 4 50 (.slice aa l.length cc) rfl (by kernel_rfl) (by kernel_rfl) (by kernel_rfl) (fun _ _ _ h => h) rfl (by rfl) (fun w hw => op_load _ _ 22 (.tmp 49) rfl (.pointer (some ⟨p6, 2, none⟩)) _ rfl (run_loadAny w _ _ 22 _ (fun w => by kernel_rfl) hw.2)) hH ?_
          simp only [Act.put, List.setIfInBounds_toArray, List.set_cons_zero, List.set_cons_succ]
          refine take_to 6 52 (.pointer (some ⟨rt, 0, none⟩)) rfl (by kernel_rfl) (by kernel_rfl) (by kernel_rfl) (fun _ _ _ h => h) rfl (by rfl) (fun w hw => by rfl) hH ?_
          simp only [Act.put, List.setIfInBounds_toArray, List.set_cons_zero, List.set_cons_succ]
          refine take_to 7 53 (.pointer (some ⟨p6, 1, none⟩)) rfl (by kernel_rfl) (by kernel_rfl) (by kernel_rfl) (fun _ _ _ h => h) rfl (by rfl) (fun w hw => by rfl) hH ?_
          simp only [Act.put, List.setIfInBounds_toArray, List.set_cons_zero, List.set_cons_succ]
          refine take_to 8 54 (.int .i64 id) rfl (by kernel_rfl) (by kernel_rfl) (by kernel_rfl) (fun _ _ _ h => h) rfl (by rfl) (fun w hw => op_load _ _ 3 (.tmp 53) rfl (.pointer (some ⟨p6, 1, none⟩)) _ rfl (run_loadAny w _ _ 3 _ Try.isAgg3 hw.1)) hH ?_
          simp only [Act.put, List.setIfInBounds_toArray, List.set_cons_zero, List.set_cons_succ]
          refine take_to 9 55 (.pointer (some ⟨p6, 2, none⟩)) rfl (by kernel_rfl) (by kernel_rfl) (by kernel_rfl) (fun _ _ _ h => h) rfl (by rfl) (fun w hw => by rfl) hH ?_
          simp only [Act.put, List.setIfInBounds_toArray, List.set_cons_zero, List.set_cons_succ]
          refine take_to 10 56 (.slice aa l.length cc) rfl (by kernel_rfl) (by kernel_rfl) (by kernel_rfl) (fun _ _ _ h => h) rfl (by rfl) (fun w hw => op_load _ _ 22 (.tmp 55) rfl (.pointer (some ⟨p6, 2, none⟩)) _ rfl (run_loadAny w _ _ 22 _ (fun w => by kernel_rfl) hw.2)) hH ?_
          simp only [Act.put, List.setIfInBounds_toArray, List.set_cons_zero, List.set_cons_succ]
          have hbd : Below W2.heap.size W2 W2.drew := below_drewN _ W2 1
          have HS3 := hide (HS2.out.by hbd)
          clear hbd
          have HQ3 : Hid (W2.drew.heap[p6]? = some (.cells #[.int .i64 0, .int .i64 id, .slice aa l.length cc] 43 (0, 0))) := HP6.out
          generalize W2.drew = W3 at *
          have hg3 : ∀ x s p, m x s = some p → isMode p = true := fun x s p e => (HS3.out.tab.tab.good x s p e).1
          have h63 := modes6 HS3.out.tab.tab id
          refine step_call3_to 5 51 9 rfl (by kernel_rfl) rfl (by rfl) (.tmp 46) (.tmp 48) (.tmp 50) _ rfl _ _ _ rfl rfl rfl Try.enters9 (HS3.out.take1 (c := cc) HID.out (HWA.out.belowW HS3.out.tab.below) (by have h1 := HNk.out; have h2 := HWL.out; omega)) ?_
          rintro e W4 ⟨A, B2, m2, hA, rfl, hS4, hM4, hm4⟩
          have hQ4 := (hM4.block p6 (lt_of_heap HQ3.out) HNB.out).trans HQ3.out
          refine ⟨_, rfl, ⟨by rw [cell_row hQ4]; rfl, by rw [cell_row hQ4]; rfl⟩, ?_⟩
          simp only [Act.put, List.setIfInBounds_toArray, List.set_cons_zero, List.set_cons_succ]
          refine step_call1_to 11 57 20 rfl (by kernel_rfl) rfl (by rfl) (.tmp 56) _ rfl _ rfl Try.enters20 (to_new (c := cc) (HWA.out.belowW hS4.tab.below).wl HL0.out) ?_
          rintro e W5 ⟨ap, d5, rfl, hW5, hb5, hq5⟩
          have hQ5 := (hb5.block p6 (lt_of_heap hQ4)).trans hQ4
          have hS5 := hS4.by hb5
          refine ⟨_, rfl, ⟨by rw [cell_row hQ5]; rfl, by rw [cell_row hQ5]; rfl⟩, ?_⟩
          simp only [Act.put, List.setIfInBounds_toArray, List.set_cons_zero, List.set_cons_succ]
          refine step_call3_to 12 58 19 rfl (by kernel_rfl) rfl (by rfl) (.tmp 52) (.tmp 54) (.tmp 57) _ rfl _ _ _ rfl rfl rfl Try.enters19 (hS5.take2 (by have h1 := HNk.out; omega) id h63 hg3 hA hm4 hW5 HL0.out (fun q o e => by
            have h1 := hq5 q o e
            refine ⟨fun e2 => ?_, fun e2 => ?_⟩
            · have := lt_of_heap hS4.doc.cell; omega
            · have := (hS4.doc.own.lt _ e2).2; omega)) ?_
          rintro e WT ⟨rfl, vT, hsT, hS6, hO6⟩
          have hQ6 := (hO6.block p6 (lt_of_heap hQ5) (by intro hm; rcases List.mem_cons.1 hm with e | e; exact HNR.out e; exact HNV.out (by simpa using e))).trans hQ5
          refine ⟨_, rfl, ⟨by rw [cell_row hQ6]; rfl, by rw [cell_row hQ6]; rfl⟩, ?_⟩
          simp only [Act.put, List.setIfInBounds_toArray, List.set_cons_zero, List.set_cons_succ]
          refine take_to 13 59 (.bool true) rfl (by kernel_rfl) (by kernel_rfl) (by kernel_rfl) (fun _ _ _ h => h) rfl (by rfl) (fun w hw => op_eqlb _ _ (.tmp 51) (.tmp 58) _ rfl A.isEmpty rfl rfl) ⟨by rw [cell_row hQ6]; rfl, by rw [cell_row hQ6]; rfl⟩ ?_
          simp only [Act.put, List.setIfInBounds_toArray, List.set_cons_zero, List.set_cons_succ]
          refine take_to 14 7 (.bool true) rfl (by kernel_rfl) (by kernel_rfl) (by kernel_rfl) (fun _ _ _ h => h) rfl (by rfl) (fun w hw => by rfl) ⟨by rw [cell_row hQ6]; rfl, by rw [cell_row hQ6]; rfl⟩ ?_
          simp only [Act.put, List.setIfInBounds_toArray, List.set_cons_zero, List.set_cons_succ]
          refine wpAnyH_done (by kernel_rfl) ?_ _
          have HST := hide (hS6.mono HNL.out HNL.out)
          have HQT := hide hQ6
          clear hH HS3 HQ3 hg3 h63 hA hS4 hM4 hm4 hQ4 hW5 hb5 hq5 hQ5 hS5 hS6 hO6 hQ6
          generalize m2 = mT at *
          clear d0 d1 d2 HP6 HS2
          go_upto_region 17 with fail
          have e1 : WT.cell? ⟨p6, 1, none⟩ = some (.int .i64 id) := by rw [cell_row HQT.out]; rfl
          refine wp_region_held_drew (S := fun W => W.cell? ⟨p6, 1, none⟩ = some (.int .i64 id)) (by kernel_rfl) e1 (fun hH => ?_)
          refine take_to 0 76 (.pointer (some ⟨t, 0, none⟩)) rfl (by kernel_rfl) (by kernel_rfl) (by kernel_rfl) (fun _ _ _ h => h) rfl (by rfl) (fun w hw => by rfl) hH ?_
          simp only [Act.put, List.setIfInBounds_toArray, List.set_cons_zero, List.set_cons_succ]
          refine take_to 1 77 (.pointer (some ⟨p6, 1, none⟩)) rfl (by kernel_rfl) (by kernel_rfl) (by kernel_rfl) (fun _ _ _ h => h) rfl (by rfl) (fun w hw => by rfl) hH ?_
          simp only [Act.put, List.setIfInBounds_toArray, List.set_cons_zero, List.set_cons_succ]
          refine take_to 2 78 (.int .i64 id) rfl (by kernel_rfl) (by kernel_rfl) (by kernel_rfl) (fun _ _ _ h => h) rfl (by rfl) (fun w hw => op_load _ _ 3 (.tmp 77) rfl (.pointer (some ⟨p6, 1, none⟩)) _ rfl (run_loadAny w _ _ 3 _ Try.isAgg3 hw)) hH ?_
          simp only [Act.put, List.setIfInBounds_toArray, List.set_cons_zero, List.set_cons_succ]
          refine take_to 4 80 (.pointer (some ⟨rt, 0, none⟩)) rfl (by kernel_rfl) (by kernel_rfl) (by kernel_rfl) (fun _ _ _ h => h) rfl (by rfl) (fun w hw => by rfl) hH ?_
          simp only [Act.put, List.setIfInBounds_toArray, List.set_cons_zero, List.set_cons_succ]
          refine take_to 5 81 (.pointer (some ⟨p6, 1, none⟩)) rfl (by kernel_rfl) (by kernel_rfl) (by kernel_rfl) (fun _ _ _ h => h) rfl (by rfl) (fun w hw => by rfl) hH ?_
          simp only [Act.put, List.setIfInBounds_toArray, List.set_cons_zero, List.set_cons_succ]
          refine take_to 6 82 (.int .i64 id) rfl (by kernel_rfl) (by kernel_rfl) (by kernel_rfl) (fun _ _ _ h => h) rfl (by rfl) (fun w hw => op_load _ _ 3 (.tmp 81) rfl (.pointer (some ⟨p6, 1, none⟩)) _ rfl (run_loadAny w _ _ 3 _ Try.isAgg3 hw)) hH ?_
          simp only [Act.put, List.setIfInBounds_toArray, List.set_cons_zero, List.set_cons_succ]
          have hbd : Below WT.heap.size WT WT.drew := below_drewN _ WT 1
          have HS9 := hide (HST.out.by hbd)
          clear hbd
          have HQ9 : Hid (WT.drew.heap[p6]? = some (.cells #[_, .int .i64 id, .slice aa l.length cc] 43 (0, 0))) := HQT.out
          clear HST HQT e1
          generalize WT.drew = W9 at *
          refine step_call2_to 3 79 10 rfl (by kernel_rfl) rfl (by rfl) (.tmp 76) (.tmp 78) _ rfl _ _ rfl rfl Try.enters10 (HS9.out.held HID.out (by have h1 := HNk1.out; omega)) ?_
          rintro e V1 ⟨ah, ch, LH, rfl, hLH, hnH, hwH, hbH⟩
          have hq1 := (hbH.block p6 (lt_of_heap HQ9.out)).trans HQ9.out
          have hs1 := HS9.out.by hbH
          refine ⟨_, rfl, by rw [cell_row hq1]; rfl, ?_⟩
          simp only [Act.put, List.setIfInBounds_toArray, List.set_cons_zero, List.set_cons_succ]
          refine step_call2_to 7 83 24 rfl (by kernel_rfl) rfl (by rfl) (.tmp 80) (.tmp 82) _ rfl _ _ rfl rfl Try.enters24 (hs1.rheld (by have h1 := HNk1.out; omega) id) ?_
          rintro e V2 ⟨ag, cg, F, rfl, hF, hwF, hbF⟩
          obtain rfl := HeldIs.same hF hLH
          have hq2 := (hbF.block p6 (lt_of_heap hq1)).trans hq1
          have e2 : V2.cell? ⟨p6, 1, none⟩ = some (.int .i64 id) := by rw [cell_row hq2]; rfl
          refine ⟨_, rfl, e2, ?_⟩
          simp only [Act.put, List.setIfInBounds_toArray, List.set_cons_zero, List.set_cons_succ]
          obtain ⟨nf, hnf⟩ : ∃ nf, F.length = nf := ⟨_, rfl⟩
          rw [hnf]
          refine take_to 8 8 (.slice ah nf ch) rfl (by kernel_rfl) (by kernel_rfl) (by kernel_rfl) (fun _ _ _ h => h) rfl (by rfl) (fun w hw => by rfl) e2 ?_
          simp only [Act.put, List.setIfInBounds_toArray, List.set_cons_zero, List.set_cons_succ]
          refine take_to 9 9 (.slice ag nf cg) rfl (by kernel_rfl) (by kernel_rfl) (by kernel_rfl) (fun _ _ _ h => h) rfl (by rfl) (fun w hw => by rfl) e2 ?_
          simp only [Act.put, List.setIfInBounds_toArray, List.set_cons_zero, List.set_cons_succ]
          refine wpAnyH_done (by kernel_rfl) ?_ _
          have HSV := hide (hs1.by hbF)
          have HW1 := hide (hwH.belowW hbF)
          have HW2 := hide hwF
          have HF := hide hF
          have HNF := hide hnf
          have hnf2 : nf ≤ 62914560 := by have h1 := HNk1.out; omega
          clear hH HS9 HQ9 hLH hnH hwH hbH hq1 hs1 hF hwF hbF hq2 e2 hnf
          go_upto_region 21 with fail
          go_loopw [10] (fun i wr => ∃ j : Nat, j ≤ nf ∧ i = .int .i64 (j : Int) ∧ Below V2.heap.size V2 wr) (fun i _ => nf - (intOf i).toNat)
          case atStart => exact ⟨0, by omega, rfl, Below.refl _ _⟩
          case round =>
            obtain ⟨j, hj, rfl, hB⟩ := hrel
            have HB := hide hB
            clear hB
            by_cases hjn : j < nf
            · have i4 : (j : Int) < (nf : Int) := by omega
              obtain ⟨x, hx⟩ : ∃ x, F[j]? = some x := ⟨_, List.getElem?_eq_getElem (by rw [HNF.out]; exact hjn)⟩
              obtain ⟨q1, o1, ea1, a1, a2⟩ := HW1.out j x hx
              obtain ⟨q2, o2, ea2, b1, b2⟩ := HW2.out j x hx
              subst ea1 ea2
              have HJN := hide hjn
              have HMX : Hid (mT id x.1 = some x.2) := (HF.out.iff x.1 x.2).1 (List.mem_of_getElem? hx)
              have HNO := hide (HSV.out.tab.tab.good _ _ _ HMX.out).2.2
              have HA1 := hide (fun W (hW : Below V2.heap.size V2 W) => (hW.cell (p := ⟨q1, o1 + j * 2, none⟩) (World.block_lt_of_cell? _ _ a1)).trans a1)
              have HA2 := hide (fun W (hW : Below V2.heap.size V2 W) => (hW.cell (p := ⟨q1, o1 + j * 2 + 1, none⟩) (World.block_lt_of_cell? _ _ a2)).trans a2)
              have HB1 := hide (fun W (hW : Below V2.heap.size V2 W) => (hW.cell (p := ⟨q2, o2 + j * 2, none⟩) (World.block_lt_of_cell? _ _ b1)).trans b1)
              have HB2 := hide (fun W (hW : Below V2.heap.size V2 W) => (hW.cell (p := ⟨q2, o2 + j * 2 + 1, none⟩) (World.block_lt_of_cell? _ _ b2)).trans b2)
              clear a1 a2 b1 b2 hx
              obtain ⟨s, md⟩ := x
              change Hid (∀ W, Below V2.heap.size V2 W → W.cell? ⟨q1, o1 + j * 2, none⟩ = some (scell s)) at HA1
              change Hid (∀ W, Below V2.heap.size V2 W → W.cell? ⟨q1, o1 + j * 2 + 1, none⟩ = some (.int .i64 md)) at HA2
              change Hid (∀ W, Below V2.heap.size V2 W → W.cell? ⟨q2, o2 + j * 2, none⟩ = some (scell s)) at HB1
              change Hid (∀ W, Below V2.heap.size V2 W → W.cell? ⟨q2, o2 + j * 2 + 1, none⟩ = some (.int .i64 md)) at HB2
              go_upto_region 23 with fail
              have hd : Below V2.heap.size V2 wr.drew := HB.out.trans (below_drewN _ _ 1)
              refine wp_region_held_drew (S := fun W => Below V2.heap.size V2 W) (by kernel_rfl) hd (fun hH => ?_)
              refine take_to 0 99 (.slice (some ⟨q1, o1, none⟩) nf ch) rfl (by kernel_rfl) (by kernel_rfl) (by kernel_rfl) (fun _ _ _ h => h) rfl (by rfl) (fun w hw => by rfl) hH ?_
              simp only [Act.put, List.setIfInBounds_toArray, List.set_cons_zero, List.set_cons_succ]
              refine take_to 1 100 (.int .i64 (j : Int)) rfl (by kernel_rfl) (by kernel_rfl) (by kernel_rfl) (fun _ _ _ h => h) rfl (by rfl) (fun w hw => by rfl) hH ?_
              simp only [Act.put, List.setIfInBounds_toArray, List.set_cons_zero, List.set_cons_succ]
              refine take_to 2 101 (.pointer (some ⟨q1, o1 + j * 2, none⟩)) rfl (by kernel_rfl) (by kernel_rfl) (by kernel_rfl) (fun _ _ _ h => h) rfl (by rfl) (fun w hw => op_index _ _ 22 (.tmp 99) (.tmp 100) rfl (.slice (some ⟨q1, o1, none⟩) nf ch) (.int .i64 (j : Int)) _ rfl rfl (run_index22 w _ _ _ _ _ HJN.out)) hH ?_
              simp only [Act.put, List.setIfInBounds_toArray, List.set_cons_zero, List.set_cons_succ]
              refine take_to 3 102 (.pointer (some ⟨q1, o1 + j * 2, none⟩)) rfl (by kernel_rfl) (by kernel_rfl) (by kernel_rfl) (fun _ _ _ h => h) rfl (by rfl) (fun w hw => by rfl) hH ?_
              simp only [Act.put, List.setIfInBounds_toArray, List.set_cons_zero, List.set_cons_succ]
              refine take_to 4 103 (scell s) rfl (by kernel_rfl) (by kernel_rfl) (by kernel_rfl) (fun _ _ _ h => h) rfl (by rfl) (fun w hw => op_load _ _ 9 (.tmp 102) rfl (.pointer (some ⟨q1, o1 + j * 2, none⟩)) _ rfl (run_loadAny w _ _ 9 _ Try.isAgg9 (HA1.out w hw))) hH ?_
              simp only [Act.put, List.setIfInBounds_toArray, List.set_cons_zero, List.set_cons_succ]
              refine take_to 5 104 (.slice (some ⟨q2, o2, none⟩) nf cg) rfl (by kernel_rfl) (by kernel_rfl) (by kernel_rfl) (fun _ _ _ h => h) rfl (by rfl) (fun w hw => by rfl) hH ?_
              simp only [Act.put, List.setIfInBounds_toArray, List.set_cons_zero, List.set_cons_succ]
              refine take_to 6 105 (.int .i64 (j : Int)) rfl (by kernel_rfl) (by kernel_rfl) (by kernel_rfl) (fun _ _ _ h => h) rfl (by rfl) (fun w hw => by rfl) hH ?_
              simp only [Act.put, List.setIfInBounds_toArray, List.set_cons_zero, List.set_cons_succ]
              refine take_to 7 106 (.pointer (some ⟨q2, o2 + j * 2, none⟩)) rfl (by kernel_rfl) (by kernel_rfl) (by kernel_rfl) (fun _ _ _ h => h) rfl (by rfl) (fun w hw => op_index _ _ 45 (.tmp 104) (.tmp 105) rfl (.slice (some ⟨q2, o2, none⟩) nf cg) (.int .i64 (j : Int)) _ rfl rfl (run_index45 w _ _ _ _ _ HJN.out)) hH ?_
              simp only [Act.put, List.setIfInBounds_toArray, List.set_cons_zero, List.set_cons_succ]
              refine take_to 8 107 (.pointer (some ⟨q2, o2 + j * 2, none⟩)) rfl (by kernel_rfl) (by kernel_rfl) (by kernel_rfl) (fun _ _ _ h => h) rfl (by rfl) (fun w hw => by rfl) hH ?_
              simp only [Act.put, List.setIfInBounds_toArray, List.set_cons_zero, List.set_cons_succ]
              refine take_to 9 108 (scell s) rfl (by kernel_rfl) (by kernel_rfl) (by kernel_rfl) (fun _ _ _ h => h) rfl (by rfl) (fun w hw => op_load _ _ 9 (.tmp 107) rfl (.pointer (some ⟨q2, o2 + j * 2, none⟩)) _ rfl (run_loadAny w _ _ 9 _ Try.isAgg9 (HB1.out w hw))) hH ?_
              simp only [Act.put, List.setIfInBounds_toArray, List.set_cons_zero, List.set_cons_succ]
              refine take_to 10 109 (.bool false) rfl (by kernel_rfl) (by kernel_rfl) (by kernel_rfl) (fun _ _ _ h => h) rfl (by rfl) (fun w hw => op_neqstr _ _ (.tmp 103) (.tmp 108) _ rfl s rfl rfl) hH ?_
              simp only [Act.put, List.setIfInBounds_toArray, List.set_cons_zero, List.set_cons_succ]
              refine take_to 11 110 (.bool false) rfl (by kernel_rfl) (by kernel_rfl) (by kernel_rfl) (fun _ _ _ h => h) rfl (by rfl) (fun w hw => by rfl) hH ?_
              simp only [Act.put, List.setIfInBounds_toArray, List.set_cons_zero, List.set_cons_succ]
              refine take_to 12 111 (.slice (some ⟨q1, o1, none⟩) nf ch) rfl (by kernel_rfl) (by kernel_rfl) (by kernel_rfl) (fun _ _ _ h => h) rfl (by rfl) (fun w hw => by rfl) hH ?_
              simp only [Act.put, List.setIfInBounds_toArray, List.set_cons_zero, List.set_cons_succ]
              refine take_to 13 112 (.int .i64 (j : Int)) rfl (by kernel_rfl) (by kernel_rfl) (by kernel_rfl) (fun _ _ _ h => h) rfl (by rfl) (fun w hw => by rfl) hH ?_
              simp only [Act.put, List.setIfInBounds_toArray, List.set_cons_zero, List.set_cons_succ]
              refine take_to 14 113 (.pointer (some ⟨q1, o1 + j * 2, none⟩)) rfl (by kernel_rfl) (by kernel_rfl) (by kernel_rfl) (fun _ _ _ h => h) rfl (by rfl) (fun w hw => op_index _ _ 22 (.tmp 111) (.tmp 112) rfl (.slice (some ⟨q1, o1, none⟩) nf ch) (.int .i64 (j : Int)) _ rfl rfl (run_index22 w _ _ _ _ _ HJN.out)) hH ?_
              simp only [Act.put, List.setIfInBounds_toArray, List.set_cons_zero, List.set_cons_succ]
              refine take_to 15 114 (.pointer (some ⟨q1, o1 + j * 2 + 1, none⟩)) rfl (by kernel_rfl) (by kernel_rfl) (by kernel_rfl) (fun _ _ _ h => h) rfl (by rfl) (fun w hw => by rfl) hH ?_
              simp only [Act.put, List.setIfInBounds_toArray, List.set_cons_zero, List.set_cons_succ]
              refine take_to 16 115 (.int .i64 md) rfl (by kernel_rfl) (by kernel_rfl) (by kernel_rfl) (fun _ _ _ h => h) rfl (by rfl) (fun w hw => op_load _ _ 3 (.tmp 114) rfl (.pointer (some ⟨q1, o1 + j * 2 + 1, none⟩)) _ rfl (run_loadAny w _ _ 3 _ Try.isAgg3 (HA2.out w hw))) hH ?_
              simp only [Act.put, List.setIfInBounds_toArray, List.set_cons_zero, List.set_cons_succ]
              refine take_to 17 116 (.slice (some ⟨q2, o2, none⟩) nf cg) rfl (by kernel_rfl) (by kernel_rfl) (by kernel_rfl) (fun _ _ _ h => h) rfl (by rfl) (fun w hw => by rfl) hH ?_
              simp only [Act.put, List.setIfInBounds_toArray, List.set_cons_zero, List.set_cons_succ]
              refine take_to 18 117 (.int .i64 (j : Int)) rfl (by kernel_rfl) (by kernel_rfl) (by kernel_rfl) (fun _ _ _ h => h) rfl (by rfl) (fun w hw => by rfl) hH ?_
              simp only [Act.put, List.setIfInBounds_toArray, List.set_cons_zero, List.set_cons_succ]
              refine take_to 19 118 (.pointer (some ⟨q2, o2 + j * 2, none⟩)) rfl (by kernel_rfl) (by kernel_rfl) (by kernel_rfl) (fun _ _ _ h => h) rfl (by rfl) (fun w hw => op_index _ _ 45 (.tmp 116) (.tmp 117) rfl (.slice (some ⟨q2, o2, none⟩) nf cg) (.int .i64 (j : Int)) _ rfl rfl (run_index45 w _ _ _ _ _ HJN.out)) hH ?_
              simp only [Act.put, List.setIfInBounds_toArray, List.set_cons_zero, List.set_cons_succ]
              refine take_to 20 119 (.pointer (some ⟨q2, o2 + j * 2 + 1, none⟩)) rfl (by kernel_rfl) (by kernel_rfl) (by kernel_rfl) (fun _ _ _ h => h) rfl (by rfl) (fun w hw => by rfl) hH ?_
              simp only [Act.put, List.setIfInBounds_toArray, List.set_cons_zero, List.set_cons_succ]
              refine take_to 21 120 (.int .i64 md) rfl (by kernel_rfl) (by kernel_rfl) (by kernel_rfl) (fun _ _ _ h => h) rfl (by rfl) (fun w hw => op_load _ _ 3 (.tmp 119) rfl (.pointer (some ⟨q2, o2 + j * 2 + 1, none⟩)) _ rfl (run_loadAny w _ _ 3 _ Try.isAgg3 (HB2.out w hw))) hH ?_
              simp only [Act.put, List.setIfInBounds_toArray, List.set_cons_zero, List.set_cons_succ]
              refine take_to 22 121 (.bool false) rfl (by kernel_rfl) (by kernel_rfl) (by kernel_rfl) (fun _ _ _ h => h) rfl (by rfl) (fun w hw => op_neq3 _ _ (.tmp 115) (.tmp 120) _ rfl md md rfl rfl false (by simp)) hH ?_
              simp only [Act.put, List.setIfInBounds_toArray, List.set_cons_zero, List.set_cons_succ]
              refine take_to 23 122 (.bool false) rfl (by kernel_rfl) (by kernel_rfl) (by kernel_rfl) (fun _ _ _ h => h) rfl (by rfl) (fun w hw => by rfl) hH ?_
              simp only [Act.put, List.setIfInBounds_toArray, List.set_cons_zero, List.set_cons_succ]
              refine take_to 24 123 (.bool false) rfl (by kernel_rfl) (by kernel_rfl) (by kernel_rfl) (fun _ _ _ h => h) rfl (by rfl) (fun w hw => by rfl) hH ?_
              simp only [Act.put, List.setIfInBounds_toArray, List.set_cons_zero, List.set_cons_succ]
              refine take_to 25 124 (.pointer (some ⟨t, 0, none⟩)) rfl (by kernel_rfl) (by kernel_rfl) (by kernel_rfl) (fun _ _ _ h => h) rfl (by rfl) (fun w hw => by rfl) hH ?_
              simp only [Act.put, List.setIfInBounds_toArray, List.set_cons_zero, List.set_cons_succ]
              refine take_to 26 125 (.slice (some ⟨q1, o1, none⟩) nf ch) rfl (by kernel_rfl) (by kernel_rfl) (by kernel_rfl) (fun _ _ _ h => h) rfl (by rfl) (fun w hw => by rfl) hH ?_
              simp only [Act.put, List.setIfInBounds_toArray, List.set_cons_zero, List.set_cons_succ]
              refine take_to 27 126 (.int .i64 (j : Int)) rfl (by kernel_rfl) (by kernel_rfl) (by kernel_rfl) (fun _ _ _ h => h) rfl (by rfl) (fun w hw => by rfl) hH ?_
              simp only [Act.put, List.setIfInBounds_toArray, List.set_cons_zero, List.set_cons_succ]
              refine take_to 28 127 (.pointer (some ⟨q1, o1 + j * 2, none⟩)) rfl (by kernel_rfl) (by kernel_rfl) (by kernel_rfl) (fun _ _ _ h => h) rfl (by rfl) (fun w hw => op_index _ _ 22 (.tmp 125) (.tmp 126) rfl (.slice (some ⟨q1, o1, none⟩) nf ch) (.int .i64 (j : Int)) _ rfl rfl (run_index22 w _ _ _ _ _ HJN.out)) hH ?_
              simp only [Act.put, List.setIfInBounds_toArray, List.set_cons_zero, List.set_cons_succ]
              refine take_to 29 128 (.pointer (some ⟨q1, o1 + j * 2, none⟩)) rfl (by kernel_rfl) (by kernel_rfl) (by kernel_rfl) (fun _ _ _ h => h) rfl (by rfl) (fun w hw => by rfl) hH ?_
              simp only [Act.put, List.setIfInBounds_toArray, List.set_cons_zero, List.set_cons_succ]
              refine take_to 30 129 (scell s) rfl (by kernel_rfl) (by kernel_rfl) (by kernel_rfl) (fun _ _ _ h => h) rfl (by rfl) (fun w hw => op_load _ _ 9 (.tmp 128) rfl (.pointer (some ⟨q1, o1 + j * 2, none⟩)) _ rfl (run_loadAny w _ _ 9 _ Try.isAgg9 (HA1.out w hw))) hH ?_
              simp only [Act.put, List.setIfInBounds_toArray, List.set_cons_zero, List.set_cons_succ]
              refine take_to 32 131 (.pointer (some ⟨rt, 0, none⟩)) rfl (by kernel_rfl) (by kernel_rfl) (by kernel_rfl) (fun _ _ _ h => h) rfl (by rfl) (fun w hw => by rfl) hH ?_
              simp only [Act.put, List.setIfInBounds_toArray, List.set_cons_zero, List.set_cons_succ]
              refine take_to 33 132 (.slice (some ⟨q1, o1, none⟩) nf ch) rfl (by kernel_rfl) (by kernel_rfl) (by kernel_rfl) (fun _ _ _ h => h) rfl (by rfl) (fun w hw => by rfl) hH ?_
              simp only [Act.put, List.setIfInBounds_toArray, List.set_cons_zero, List.set_cons_succ]
              refine take_to 34 133 (.int .i64 (j : Int)) rfl (by kernel_rfl) (by kernel_rfl) (by kernel_rfl) (fun _ _ _ h => h) rfl (by rfl) (fun w hw => by rfl) hH ?_
              simp only [Act.put, List.setIfInBounds_toArray, List.set_cons_zero, List.set_cons_succ]
              refine take_to 35 134 (.pointer (some ⟨q1, o1 + j * 2, none⟩)) rfl (by kernel_rfl) (by kernel_rfl) (by kernel_rfl) (fun _ _ _ h => h) rfl (by rfl) (fun w hw => op_index _ _ 22 (.tmp 132) (.tmp 133) rfl (.slice (some ⟨q1, o1, none⟩) nf ch) (.int .i64 (j : Int)) _ rfl rfl (run_index22 w _ _ _ _ _ HJN.out)) hH ?_
              simp only [Act.put, List.setIfInBounds_toArray, List.set_cons_zero, List.set_cons_succ]
              refine take_to 36 135 (.pointer (some ⟨q1, o1 + j * 2, none⟩)) rfl (by kernel_rfl) (by kernel_rfl) (by kernel_rfl) (fun _ _ _ h => h) rfl (by rfl) (fun w hw => by rfl) hH ?_
              simp only [Act.put, List.setIfInBounds_toArray, List.set_cons_zero, List.set_cons_succ]
              refine take_to 37 136 (scell s) rfl (by kernel_rfl) (by kernel_rfl) (by kernel_rfl) (fun _ _ _ h => h) rfl (by rfl) (fun w hw => op_load _ _ 9 (.tmp 135) rfl (.pointer (some ⟨q1, o1 + j * 2, none⟩)) _ rfl (run_loadAny w _ _ 9 _ Try.isAgg9 (HA1.out w hw))) hH ?_
              simp only [Act.put, List.setIfInBounds_toArray, List.set_cons_zero, List.set_cons_succ]
              refine step_call2_to 31 130 13 rfl (by kernel_rfl) rfl (by rfl) (.tmp 124) (.tmp 129) _ rfl _ _ rfl rfl Try.enters13 ((HSV.out.by hH).holders (by have h1 := HNk1.out; omega) HNO.out) ?_
              rintro e U1 ⟨va, A, rfl, hr1, hA1, hb1⟩
              have hH1 : Below V2.heap.size V2 U1 := hH.trans (hb1.mono hH.size)
              refine ⟨_, rfl, hH1, ?_⟩
              simp only [Act.put, List.setIfInBounds_toArray, List.set_cons_zero, List.set_cons_succ]
              refine step_call2_to 38 137 25 rfl (by kernel_rfl) rfl (by rfl) (.tmp 131) (.tmp 136) _ rfl _ _ rfl rfl Try.enters25 ((HSV.out.by hH1).rholders (by have h1 := HNk1.out; omega) s) ?_
              rintro e U2 ⟨vb, A', rfl, hr2, hA2, hl2, hb2⟩
              obtain rfl := hA1.one hA2
              have hr3 := owns_below hr1 hb2 (Nat.le_refl _)
              have hH2 : Below V2.heap.size V2 U2 := hH1.trans (hb2.mono hH1.size)
              refine ⟨_, rfl, hH2, ?_⟩
              simp only [Act.put, List.setIfInBounds_toArray, List.set_cons_zero, List.set_cons_succ]
              refine step_call2_to 39 138 21 rfl (by kernel_rfl) rfl (by rfl) (.tmp 130) (.tmp 137) _ rfl _ _ rfl rfl Try.enters21 (ints_same (Row.of_owns hr3) (Row.of_owns hr2) (by have h1 := HNk1.out; omega)) ?_
              rintro e U3 ⟨rfl, hb3⟩
              have hH3 : Below V2.heap.size V2 U3 := hH2.trans (hb3.mono hH2.size)
              refine ⟨_, rfl, hH3, ?_⟩
              simp only [Act.put, List.setIfInBounds_toArray, List.set_cons_zero, List.set_cons_succ]
              refine take_to 40 139 (.bool false) rfl (by kernel_rfl) (by kernel_rfl) (by kernel_rfl) (fun _ _ _ h => h) rfl (by rfl) (fun w hw => by rfl) hH3 ?_
              simp only [Act.put, List.setIfInBounds_toArray, List.set_cons_zero, List.set_cons_succ]
              refine take_to 41 140 (.bool false) rfl (by kernel_rfl) (by kernel_rfl) (by kernel_rfl) (fun _ _ _ h => h) rfl (by rfl) (fun w hw => by rfl) hH3 ?_
              simp only [Act.put, List.setIfInBounds_toArray, List.set_cons_zero, List.set_cons_succ]
              refine wpAnyH_done (by kernel_rfl) ?_ _
              have HE := hide hH3
              clear hH hd hr1 hA1 hb1 hH1 hr2 hA2 hl2 hb2 hr3 hH2 hb3 hH3
              go_wp2
              refine ⟨⟨j + 1, by have := HJN.out; omega, by go_num, HE.out⟩, ?_⟩
              have := HJN.out
              simp [intOf]
              omega
            · obtain rfl : j = nf := by omega
              have HSX := hide (HSV.out.by HB.out)
              go_wp2
              refine ⟨⟨k + 1, _, _, _, _, by have := HKN.out; omega, by have := HK60.out; omega, by go_num, by rw [HN1E.out]; exact HSX.out⟩, ?_⟩
              have := HKN.out
              simp [intOf]
              omega
        · by_cases hkd1 : kd = 1
          · subst hkd1
            go_upto_region 16 with fail
            refine wp_region_held_drew (S := fun W => W.cell? ⟨p6, 1, none⟩ = some (.int .i64 id) ∧ W.cell? ⟨p6, 2, none⟩ = some (.slice aa l.length cc)) (by kernel_rfl) ⟨d1, d2⟩ (fun hH => ?_)
            refine take_to 0 62 (.pointer (some ⟨t, 0, none⟩)) rfl (by kernel_rfl) (by kernel_rfl) (by kernel_rfl) (fun _ _ _ h => h) rfl (by rfl) (fun w hw => by rfl) hH ?_
            simp only [Act.put, List.setIfInBounds_toArray, List.set_cons_zero, List.set_cons_succ]
            refine take_to 1 63 (.pointer (some ⟨p6, 1, none⟩)) rfl (by kernel_rfl) (by kernel_rfl) (by kernel_rfl) (fun _ _ _ h => h) rfl (by rfl) (fun w hw => by rfl) hH ?_
            simp only [Act.put, List.setIfInBounds_toArray, List.set_cons_zero, List.set_cons_succ]
            refine take_to 2 64 (.int .i64 id) rfl (by kernel_rfl) (by kernel_rfl) (by kernel_rfl) (fun _ _ _ h => h) rfl (by rfl) (fun w hw => op_load _ _ 3 (.tmp 63) rfl (.pointer (some ⟨p6, 1, none⟩)) _ rfl (run_loadAny w _ _ 3 _ Try.isAgg3 hw.1)) hH ?_
            simp only [Act.put, List.setIfInBounds_toArray, List.set_cons_zero, List.set_cons_succ]
            refine take_to 3 65 (.pointer (some ⟨p6, 2, none⟩)) rfl (by kernel_rfl) (by kernel_rfl) (by kernel_rfl) (fun _ _ _ h => h) rfl (by rfl) (fun w hw => by rfl) hH ?_
            simp only [Act.put, List.setIfInBounds_toArray, List.set_cons_zero, List.set_cons_succ]
            refine take_to 4 66 (.slice aa l.length cc) rfl (by kernel_rfl) (by kernel_rfl) (by kernel_rfl) (fun _ _ _ h => h) rfl (by rfl) (fun w hw => op_load _ _ 22 (.tmp 65) rfl (.pointer (some ⟨p6, 2, none⟩)) _ rfl (run_loadAny w _ _ 22 _ (fun w => by kernel_rfl) hw.2)) hH ?_
            simp only [Act.put, List.setIfInBounds_toArray, List.set_cons_zero, List.set_cons_succ]
            refine take_to 6 68 (.pointer (some ⟨rt, 0, none⟩)) rfl (by kernel_rfl) (by kernel_rfl) (by kernel_rfl) (fun _ _ _ h => h) rfl (by rfl) (fun w hw => by rfl) hH ?_
            simp only [Act.put, List.setIfInBounds_toArray, List.set_cons_zero, List.set_cons_succ]
            refine take_to 7 69 (.pointer (some ⟨p6, 1, none⟩)) rfl (by kernel_rfl) (by kernel_rfl) (by kernel_rfl) (fun _ _ _ h => h) rfl (by rfl) (fun w hw => by rfl) hH ?_
            simp only [Act.put, List.setIfInBounds_toArray, List.set_cons_zero, List.set_cons_succ]
            refine take_to 8 70 (.int .i64 id) rfl (by kernel_rfl) (by kernel_rfl) (by kernel_rfl) (fun _ _ _ h => h) rfl (by rfl) (fun w hw => op_load _ _ 3 (.tmp 69) rfl (.pointer (some ⟨p6, 1, none⟩)) _ rfl (run_loadAny w _ _ 3 _ Try.isAgg3 hw.1)) hH ?_
            simp only [Act.put, List.setIfInBounds_toArray, List.set_cons_zero, List.set_cons_succ]
            refine take_to 9 71 (.pointer (some ⟨p6, 2, none⟩)) rfl (by kernel_rfl) (by kernel_rfl) (by kernel_rfl) (fun _ _ _ h => h) rfl (by rfl) (fun w hw => by rfl) hH ?_
            simp only [Act.put, List.setIfInBounds_toArray, List.set_cons_zero, List.set_cons_succ]
            refine take_to 10 72 (.slice aa l.length cc) rfl (by kernel_rfl) (by kernel_rfl) (by kernel_rfl) (fun _ _ _ h => h) rfl (by rfl) (fun w hw => op_load _ _ 22 (.tmp 71) rfl (.pointer (some ⟨p6, 2, none⟩)) _ rfl (run_loadAny w _ _ 22 _ (fun w => by kernel_rfl) hw.2)) hH ?_
            simp only [Act.put, List.setIfInBounds_toArray, List.set_cons_zero, List.set_cons_succ]
            have hbd : Below W2.heap.size W2 W2.drew := below_drewN _ W2 1
            have HS3 := hide (HS2.out.by hbd)
            clear hbd
            have HQ3 : Hid (W2.drew.heap[p6]? = some (.cells #[.int .i64 1, .int .i64 id, .slice aa l.length cc] 43 (0, 0))) := HP6.out
            generalize W2.drew = W3 at *
            refine step_call3_to 5 67 11 rfl (by kernel_rfl) rfl (by rfl) (.tmp 62) (.tmp 64) (.tmp 66) _ rfl _ _ _ rfl rfl rfl Try.enters11 (HS3.out.ask (c := cc) HID.out (HWA.out.belowW HS3.out.tab.below) (by have h1 := HNk.out; omega)) ?_
            rintro e W4 ⟨va, A, rfl, hr4, hA, hb4⟩
            have hQ4 := (hb4.block p6 (lt_of_heap HQ3.out)).trans HQ3.out
            have hS4 := HS3.out.by hb4
            refine ⟨_, rfl, ⟨by rw [cell_row hQ4]; rfl, by rw [cell_row hQ4]; rfl⟩, ?_⟩
            simp only [Act.put, List.setIfInBounds_toArray, List.set_cons_zero, List.set_cons_succ]
            refine step_call1_to 11 73 20 rfl (by kernel_rfl) rfl (by rfl) (.tmp 72) _ rfl _ rfl Try.enters20 (to_new (c := cc) (HWA.out.belowW hS4.tab.below).wl HL0.out) ?_
            rintro e W5 ⟨ap, d5, rfl, hW5, hb5, hq5⟩
            have hQ5 := (hb5.block p6 (lt_of_heap hQ4)).trans hQ4
            have hS5 := hS4.by hb5
            have hr5 := owns_below hr4 hb5 (Nat.le_refl _)
            refine ⟨_, rfl, ⟨by rw [cell_row hQ5]; rfl, by rw [cell_row hQ5]; rfl⟩, ?_⟩
            simp only [Act.put, List.setIfInBounds_toArray, List.set_cons_zero, List.set_cons_succ]
            refine step_call3_to 12 74 22 rfl (by kernel_rfl) rfl (by rfl) (.tmp 68) (.tmp 70) (.tmp 73) _ rfl _ _ _ rfl rfl rfl Try.enters22 (hS5.rask (by have h1 := HNk.out; omega) id hW5 HL0.out) ?_
            rintro e W6 ⟨vb, A', rfl, hr6, hA', hl6, hb6⟩
            obtain rfl := hA.one hA'
            have hQ6 := (hb6.block p6 (lt_of_heap hQ5)).trans hQ5
            have hS6 := hS5.by hb6
            have hr7 := owns_below hr5 hb6 (Nat.le_refl _)
            refine ⟨_, rfl, ⟨by rw [cell_row hQ6]; rfl, by rw [cell_row hQ6]; rfl⟩, ?_⟩
            simp only [Act.put, List.setIfInBounds_toArray, List.set_cons_zero, List.set_cons_succ]
            refine step_call2_to 13 75 21 rfl (by kernel_rfl) rfl (by rfl) (.tmp 67) (.tmp 74) _ rfl _ _ rfl rfl Try.enters21 (ints_same (Row.of_owns hr7) (Row.of_owns hr6) (by have h1 := HNk.out; omega)) ?_
            rintro e WT ⟨rfl, hb7⟩
            have hQ7 := (hb7.block p6 (lt_of_heap hQ6)).trans hQ6
            refine ⟨_, rfl, ⟨by rw [cell_row hQ7]; rfl, by rw [cell_row hQ7]; rfl⟩, ?_⟩
            simp only [Act.put, List.setIfInBounds_toArray, List.set_cons_zero, List.set_cons_succ]
            refine take_to 14 7 (.bool true) rfl (by kernel_rfl) (by kernel_rfl) (by kernel_rfl) (fun _ _ _ h => h) rfl (by rfl) (fun w hw => by rfl) ⟨by rw [cell_row hQ7]; rfl, by rw [cell_row hQ7]; rfl⟩ ?_
            simp only [Act.put, List.setIfInBounds_toArray, List.set_cons_zero, List.set_cons_succ]
            refine wpAnyH_done (by kernel_rfl) ?_ _
            have HST := hide ((hS6.by hb7).mono HN0.out HN0.out)
            have HQT := hide hQ7
            clear hH HS3 HQ3 hr4 hA hb4 hQ4 hS4 hW5 hb5 hq5 hQ5 hS5 hr5 hr6 hA' hl6 hb6 hQ6 hS6 hr7 hb7 hQ7
            obtain ⟨mT, hmT⟩ : ∃ mT, m = mT := ⟨_, rfl⟩
            rw [hmT] at HST
            clear hmT
            clear d0 d1 d2 HP6 HS2
            go_upto_region 17 with fail
            have e1 : WT.cell? ⟨p6, 1, none⟩ = some (.int .i64 id) := by rw [cell_row HQT.out]; rfl
            refine wp_region_held_drew (S := fun W => W.cell? ⟨p6, 1, none⟩ = some (.int .i64 id)) (by kernel_rfl) e1 (fun hH => ?_)
            refine take_to 0 76 (.pointer (some ⟨t, 0, none⟩)) rfl (by kernel_rfl) (by kernel_rfl) (by kernel_rfl) (fun _ _ _ h => h) rfl (by rfl) (fun w hw => by rfl) hH ?_
            simp only [Act.put, List.setIfInBounds_toArray, List.set_cons_zero, List.set_cons_succ]
            refine take_to 1 77 (.pointer (some ⟨p6, 1, none⟩)) rfl (by kernel_rfl) (by kernel_rfl) (by kernel_rfl) (fun _ _ _ h => h) rfl (by rfl) (fun w hw => by rfl) hH ?_
            simp only [Act.put, List.setIfInBounds_toArray, List.set_cons_zero, List.set_cons_succ]
            refine take_to 2 78 (.int .i64 id) rfl (by kernel_rfl) (by kernel_rfl) (by kernel_rfl) (fun _ _ _ h => h) rfl (by rfl) (fun w hw => op_load _ _ 3 (.tmp 77) rfl (.pointer (some ⟨p6, 1, none⟩)) _ rfl (run_loadAny w _ _ 3 _ Try.isAgg3 hw)) hH ?_
            simp only [Act.put, List.setIfInBounds_toArray, List.set_cons_zero, List.set_cons_succ]
            refine take_to 4 80 (.pointer (some ⟨rt, 0, none⟩)) rfl (by kernel_rfl) (by kernel_rfl) (by kernel_rfl) (fun _ _ _ h => h) rfl (by rfl) (fun w hw => by rfl) hH ?_
            simp only [Act.put, List.setIfInBounds_toArray, List.set_cons_zero, List.set_cons_succ]
            refine take_to 5 81 (.pointer (some ⟨p6, 1, none⟩)) rfl (by kernel_rfl) (by kernel_rfl) (by kernel_rfl) (fun _ _ _ h => h) rfl (by rfl) (fun w hw => by rfl) hH ?_
            simp only [Act.put, List.setIfInBounds_toArray, List.set_cons_zero, List.set_cons_succ]
            refine take_to 6 82 (.int .i64 id) rfl (by kernel_rfl) (by kernel_rfl) (by kernel_rfl) (fun _ _ _ h => h) rfl (by rfl) (fun w hw => op_load _ _ 3 (.tmp 81) rfl (.pointer (some ⟨p6, 1, none⟩)) _ rfl (run_loadAny w _ _ 3 _ Try.isAgg3 hw)) hH ?_
            simp only [Act.put, List.setIfInBounds_toArray, List.set_cons_zero, List.set_cons_succ]
            have hbd : Below WT.heap.size WT WT.drew := below_drewN _ WT 1
            have HS9 := hide (HST.out.by hbd)
            clear hbd
            have HQ9 : Hid (WT.drew.heap[p6]? = some (.cells #[_, .int .i64 id, .slice aa l.length cc] 43 (0, 0))) := HQT.out
            clear HST HQT e1
            generalize WT.drew = W9 at *
            refine step_call2_to 3 79 10 rfl (by kernel_rfl) rfl (by rfl) (.tmp 76) (.tmp 78) _ rfl _ _ rfl rfl Try.enters10 (HS9.out.held HID.out (by have h1 := HNk1.out; omega)) ?_
            rintro e V1 ⟨ah, ch, LH, rfl, hLH, hnH, hwH, hbH⟩
            have hq1 := (hbH.block p6 (lt_of_heap HQ9.out)).trans HQ9.out
            have hs1 := HS9.out.by hbH
            refine ⟨_, rfl, by rw [cell_row hq1]; rfl, ?_⟩
            simp only [Act.put, List.setIfInBounds_toArray, List.set_cons_zero, List.set_cons_succ]
            refine step_call2_to 7 83 24 rfl (by kernel_rfl) rfl (by rfl) (.tmp 80) (.tmp 82) _ rfl _ _ rfl rfl Try.enters24 (hs1.rheld (by have h1 := HNk1.out; omega) id) ?_
            rintro e V2 ⟨ag, cg, F, rfl, hF, hwF, hbF⟩
            obtain rfl := HeldIs.same hF hLH
            have hq2 := (hbF.block p6 (lt_of_heap hq1)).trans hq1
            have e2 : V2.cell? ⟨p6, 1, none⟩ = some (.int .i64 id) := by rw [cell_row hq2]; rfl
            refine ⟨_, rfl, e2, ?_⟩
            simp only [Act.put, List.setIfInBounds_toArray, List.set_cons_zero, List.set_cons_succ]
            obtain ⟨nf, hnf⟩ : ∃ nf, F.length = nf := ⟨_, rfl⟩
            rw [hnf]
            refine take_to 8 8 (.slice ah nf ch) rfl (by kernel_rfl) (by kernel_rfl) (by kernel_rfl) (fun _ _ _ h => h) rfl (by rfl) (fun w hw => by rfl) e2 ?_
            simp only [Act.put, List.setIfInBounds_toArray, List.set_cons_zero, List.set_cons_succ]
            refine take_to 9 9 (.slice ag nf cg) rfl (by kernel_rfl) (by kernel_rfl) (by kernel_rfl) (fun _ _ _ h => h) rfl (by rfl) (fun w hw => by rfl) e2 ?_
            simp only [Act.put, List.setIfInBounds_toArray, List.set_cons_zero, List.set_cons_succ]
            refine wpAnyH_done (by kernel_rfl) ?_ _
            have HSV := hide (hs1.by hbF)
            have HW1 := hide (hwH.belowW hbF)
            have HW2 := hide hwF
            have HF := hide hF
            have HNF := hide hnf
            have hnf2 : nf ≤ 62914560 := by have h1 := HNk1.out; omega
            clear hH HS9 HQ9 hLH hnH hwH hbH hq1 hs1 hF hwF hbF hq2 e2 hnf
            go_upto_region 21 with fail
            go_loopw [10] (fun i wr => ∃ j : Nat, j ≤ nf ∧ i = .int .i64 (j : Int) ∧ Below V2.heap.size V2 wr) (fun i _ => nf - (intOf i).toNat)
            case atStart => exact ⟨0, by omega, rfl, Below.refl _ _⟩
            case round =>
              obtain ⟨j, hj, rfl, hB⟩ := hrel
              have HB := hide hB
              clear hB
              by_cases hjn : j < nf
              · have i4 : (j : Int) < (nf : Int) := by omega
                obtain ⟨x, hx⟩ : ∃ x, F[j]? = some x := ⟨_, List.getElem?_eq_getElem (by rw [HNF.out]; exact hjn)⟩
                obtain ⟨q1, o1, ea1, a1, a2⟩ := HW1.out j x hx
                obtain ⟨q2, o2, ea2, b1, b2⟩ := HW2.out j x hx
                subst ea1 ea2
                have HJN := hide hjn
                have HMX : Hid (mT id x.1 = some x.2) := (HF.out.iff x.1 x.2).1 (List.mem_of_getElem? hx)
                have HNO := hide (HSV.out.tab.tab.good _ _ _ HMX.out).2.2
                have HA1 := hide (fun W (hW : Below V2.heap.size V2 W) => (hW.cell (p := ⟨q1, o1 + j * 2, none⟩) (World.block_lt_of_cell? _ _ a1)).trans a1)
                have HA2 := hide (fun W (hW : Below V2.heap.size V2 W) => (hW.cell (p := ⟨q1, o1 + j * 2 + 1, none⟩) (World.block_lt_of_cell? _ _ a2)).trans a2)
                have HB1 := hide (fun W (hW : Below V2.heap.size V2 W) => (hW.cell (p := ⟨q2, o2 + j * 2, none⟩) (World.block_lt_of_cell? _ _ b1)).trans b1)
                have HB2 := hide (fun W (hW : Below V2.heap.size V2 W) => (hW.cell (p := ⟨q2, o2 + j * 2 + 1, none⟩) (World.block_lt_of_cell? _ _ b2)).trans b2)
                clear a1 a2 b1 b2 hx
                obtain ⟨s, md⟩ := x
                change Hid (∀ W, Below V2.heap.size V2 W → W.cell? ⟨q1, o1 + j * 2, none⟩ = some (scell s)) at HA1
                change Hid (∀ W, Below V2.heap.size V2 W → W.cell? ⟨q1, o1 + j * 2 + 1, none⟩ = some (.int .i64 md)) at HA2
                change Hid (∀ W, Below V2.heap.size V2 W → W.cell? ⟨q2, o2 + j * 2, none⟩ = some (scell s)) at HB1
                change Hid (∀ W, Below V2.heap.size V2 W → W.cell? ⟨q2, o2 + j * 2 + 1, none⟩ = some (.int .i64 md)) at HB2
                go_upto_region 23 with fail
                have hd : Below V2.heap.size V2 wr.drew := HB.out.trans (below_drewN _ _ 1)
                refine wp_region_held_drew (S := fun W => Below V2.heap.size V2 W) (by kernel_rfl) hd (fun hH => ?_)
                refine take_to 0 99 (.slice (some ⟨q1, o1, none⟩) nf ch) rfl (by kernel_rfl) (by kernel_rfl) (by kernel_rfl) (fun _ _ _ h => h) rfl (by rfl) (fun w hw => by rfl) hH ?_
                simp only [Act.put, List.setIfInBounds_toArray, List.set_cons_zero, List.set_cons_succ]
                refine take_to 1 100 (.int .i64 (j : Int)) rfl (by kernel_rfl) (by kernel_rfl) (by kernel_rfl) (fun _ _ _ h => h) rfl (by rfl) (fun w hw => by rfl) hH ?_
                simp only [Act.put, List.setIfInBounds_toArray, List.set_cons_zero, List.set_cons_succ]
                refine take_to 2 101 (.pointer (some ⟨q1, o1 + j * 2, none⟩)) rfl (by kernel_rfl) (by kernel_rfl) (by kernel_rfl) (fun _ _ _ h => h) rfl (by rfl) (fun w hw => op_index _ _ 22 (.tmp 99) (.tmp 100) rfl (.slice (some ⟨q1, o1, none⟩) nf ch) (.int .i64 (j : Int)) _ rfl rfl (run_index22 w _ _ _ _ _ HJN.out)) hH ?_
                simp only [Act.put, List.setIfInBounds_toArray, List.set_cons_zero, List.set_cons_succ]
                refine take_to 3 102 (.pointer (some ⟨q1, o1 + j * 2, none⟩)) rfl (by kernel_rfl) (by kernel_rfl) (by kernel_rfl) (fun _ _ _ h => h) rfl (by rfl) (fun w hw => by rfl) hH ?_
                simp only [Act.put, List.setIfInBounds_toArray, List.set_cons_zero, List.set_cons_succ]
                refine take_to 4 103 (scell s) rfl (by kernel_rfl) (by kernel_rfl) (by kernel_rfl) (fun _ _ _ h => h) rfl (by rfl) (fun w hw => op_load _ _ 9 (.tmp 102) rfl (.pointer (some ⟨q1, o1 + j * 2, none⟩)) _ rfl (run_loadAny w _ _ 9 _ Try.isAgg9 (HA1.out w hw))) hH ?_
                simp only [Act.put, List.setIfInBounds_toArray, List.set_cons_zero, List.set_cons_succ]
                refine take_to 5 104 (.slice (some ⟨q2, o2, none⟩) nf cg) rfl (by kernel_rfl) (by kernel_rfl) (by kernel_rfl) (fun _ _ _ h => h) rfl (by rfl) (fun w hw => by rfl) hH ?_
                simp only [Act.put, List.setIfInBounds_toArray, List.set_cons_zero, List.set_cons_succ]
                refine take_to 6 105 (.int .i64 (j : Int)) rfl (by kernel_rfl) (by kernel_rfl) (by kernel_rfl) (fun _ _ _ h => h) rfl (by rfl) (fun w hw => by rfl) hH ?_
                simp only [Act.put, List.setIfInBounds_toArray, List.set_cons_zero, List.set_cons_succ]
                refine take_to 7 106 (.pointer (some ⟨q2, o2 + j * 2, none⟩)) rfl (by kernel_rfl) (by kernel_rfl) (by kernel_rfl) (fun _ _ _ h => h) rfl (by rfl) (fun w hw => op_index _ _ 45 (.tmp 104) (.tmp 105) rfl (.slice (some ⟨q2, o2, none⟩) nf cg) (.int .i64 (j : Int)) _ rfl rfl (run_index45 w _ _ _ _ _ HJN.out)) hH ?_
                simp only [Act.put, List.setIfInBounds_toArray, List.set_cons_zero, List.set_cons_succ]
                refine take_to 8 107 (.pointer (some ⟨q2, o2 + j * 2, none⟩)) rfl (by kernel_rfl) (by kernel_rfl) (by kernel_rfl) (fun _ _ _ h => h) rfl (by rfl) (fun w hw => by rfl) hH ?_
                simp only [Act.put, List.setIfInBounds_toArray, List.set_cons_zero, List.set_cons_succ]
                refine take_to 9 108 (scell s) rfl (by kernel_rfl) (by kernel_rfl) (by kernel_rfl) (fun _ _ _ h => h) rfl (by rfl) (fun w hw => op_load _ _ 9 (.tmp 107) rfl (.pointer (some ⟨q2, o2 + j * 2, none⟩)) _ rfl (run_loadAny w _ _ 9 _ Try.isAgg9 (HB1.out w hw))) hH ?_
                simp only [Act.put, List.setIfInBounds_toArray, List.set_cons_zero, List.set_cons_succ]
                refine take_to 10 109 (.bool false) rfl (by kernel_rfl) (by kernel_rfl) (by kernel_rfl) (fun _ _ _ h => h) rfl (by rfl) (fun w hw => op_neqstr _ _ (.tmp 103) (.tmp 108) _ rfl s rfl rfl) hH ?_
                simp only [Act.put, List.setIfInBounds_toArray, List.set_cons_zero, List.set_cons_succ]
                refine take_to 11 110 (.bool false) rfl (by kernel_rfl) (by kernel_rfl) (by kernel_rfl) (fun _ _ _ h => h) rfl (by rfl) (fun w hw => by rfl) hH ?_
                simp only [Act.put, List.setIfInBounds_toArray, List.set_cons_zero, List.set_cons_succ]
                refine take_to 12 111 (.slice (some ⟨q1, o1, none⟩) nf ch) rfl (by kernel_rfl) (by kernel_rfl) (by kernel_rfl) (fun _ _ _ h => h) rfl (by rfl) (fun w hw => by rfl) hH ?_
                simp only [Act.put, List.setIfInBounds_toArray, List.set_cons_zero, List.set_cons_succ]
                refine take_to 13 112 (.int .i64 (j : Int)) rfl (by kernel_rfl) (by kernel_rfl) (by kernel_rfl) (fun _ _ _ h => h) rfl (by rfl) (fun w hw => by rfl) hH ?_
                simp only [Act.put, List.setIfInBounds_toArray, List.set_cons_zero, List.set_cons_succ]
                refine take_to 14 113 (.pointer (some ⟨q1, o1 + j * 2, none⟩)) rfl (by kernel_rfl) (by kernel_rfl) (by kernel_rfl) (fun _ _ _ h => h) rfl (by rfl) (fun w hw => op_index _ _ 22 (.tmp 111) (.tmp 112) rfl (.slice (some ⟨q1, o1, none⟩) nf ch) (.int .i64 (j : Int)) _ rfl rfl (run_index22 w _ _ _ _ _ HJN.out)) hH ?_
                simp only [Act.put, List.setIfInBounds_toArray, List.set_cons_zero, List.set_cons_succ]
                refine take_to 15 114 (.pointer (some ⟨q1, o1 + j * 2 + 1, none⟩)) rfl (by kernel_rfl) (by kernel_rfl) (by kernel_rfl) (fun _ _ _ h => h) rfl (by rfl) (fun w hw => by rfl) hH ?_
                simp only [Act.put, List.setIfInBounds_toArray, List.set_cons_zero, List.set_cons_succ]
                refine take_to 16 115 (.int .i64 md) rfl (by kernel_rfl) (by kernel_rfl) (by kernel_rfl) (fun _ _ _ h => h) rfl (by rfl) (fun w hw => op_load _ _ 3 (.tmp 114) rfl (.pointer (some ⟨q1, o1 + j * 2 + 1, none⟩)) _ rfl (run_loadAny w _ _ 3 _ Try.isAgg3 (HA2.out w hw))) hH ?_
                simp only [Act.put, List.setIfInBounds_toArray, List.set_cons_zero, List.set_cons_succ]
                refine take_to 17 116 (.slice (some ⟨q2, o2, none⟩) nf cg) rfl (by kernel_rfl) (by kernel_rfl) (by kernel_rfl) (fun _ _ _ h => h) rfl (by rfl) (fun w hw => by rfl) hH ?_
                simp only [Act.put, List.setIfInBounds_toArray, List.set_cons_zero, List.set_cons_succ]
                refine take_to 18 117 (.int .i64 (j : Int)) rfl (by kernel_rfl) (by kernel_rfl) (by kernel_rfl) (fun _ _ _ h => h) rfl (by rfl) (fun w hw => by rfl) hH ?_
                simp only [Act.put, List.setIfInBounds_toArray, List.set_cons_zero, List.set_cons_succ]
                refine take_to 19 118 (.pointer (some ⟨q2, o2 + j * 2, none⟩)) rfl (by kernel_rfl) (by kernel_rfl) (by kernel_rfl) (fun _ _ _ h => h) rfl (by rfl) (fun w hw => op_index _ _ 45 (.tmp 116) (.tmp 117) rfl (.slice (some ⟨q2, o2, none⟩) nf cg) (.int .i64 (j : Int)) _ rfl rfl (run_index45 w _ _ _ _ _ HJN.out)) hH ?_
                simp only [Act.put, List.setIfInBounds_toArray, List.set_cons_zero, List.set_cons_succ]
                refine take_to 20 119 (.pointer (some ⟨q2, o2 + j * 2 + 1, none⟩)) rfl (by kernel_rfl) (by kernel_rfl) (by kernel_rfl) (fun _ _ _ h => h) rfl (by rfl) (fun w hw => by rfl) hH ?_
                simp only [Act.put, List.setIfInBounds_toArray, List.set_cons_zero, List.set_cons_succ]
                refine take_to 21 120 (.int .i64 md) rfl (by kernel_rfl) (by kernel_rfl) (by kernel_rfl) (fun _ _ _ h => h) rfl (by rfl) (fun w hw => op_load _ _ 3 (.tmp 119) rfl (.pointer (some ⟨q2, o2 + j * 2 + 1, none⟩)) _ rfl (run_loadAny w _ _ 3 _ Try.isAgg3 (HB2.out w hw))) hH ?_
                simp only [Act.put, List.setIfInBounds_toArray, List.set_cons_zero, List.set_cons_succ]
                refine take_to 22 121 (.bool false) rfl (by kernel_rfl) (by kernel_rfl) (by kernel_rfl) (fun _ _ _ h => h) rfl (by rfl) (fun w hw => op_neq3 _ _ (.tmp 115) (.tmp 120) _ rfl md md rfl rfl false (by simp)) hH ?_
                simp only [Act.put, List.setIfInBounds_toArray, List.set_cons_zero, List.set_cons_succ]
                refine take_to 23 122 (.bool false) rfl (by kernel_rfl) (by kernel_rfl) (by kernel_rfl) (fun _ _ _ h => h) rfl (by rfl) (fun w hw => by rfl) hH ?_
                simp only [Act.put, List.setIfInBounds_toArray, List.set_cons_zero, List.set_cons_succ]
                refine take_to 24 123 (.bool false) rfl (by kernel_rfl) (by kernel_rfl) (by kernel_rfl) (fun _ _ _ h => h) rfl (by rfl) (fun w hw => by rfl) hH ?_
                simp only [Act.put, List.setIfInBounds_toArray, List.set_cons_zero, List.set_cons_succ]
                refine take_to 25 124 (.pointer (some ⟨t, 0, none⟩)) rfl (by kernel_rfl) (by kernel_rfl) (by kernel_rfl) (fun _ _ _ h => h) rfl (by rfl) (fun w hw => by rfl) hH ?_
                simp only [Act.put, List.setIfInBounds_toArray, List.set_cons_zero, List.set_cons_succ]
                refine take_to 26 125 (.slice (some ⟨q1, o1, none⟩) nf ch) rfl (by kernel_rfl) (by kernel_rfl) (by kernel_rfl) (fun _ _ _ h => h) rfl (by rfl) (fun w hw => by rfl) hH ?_
                simp only [Act.put, List.setIfInBounds_toArray, List.set_cons_zero, List.set_cons_succ]
                refine take_to 27 126 (.int .i64 (j : Int)) rfl (by kernel_rfl) (by kernel_rfl) (by kernel_rfl) (fun _ _ _ h => h) rfl (by rfl) (fun w hw => by rfl) hH ?_
                simp only [Act.put, List.setIfInBounds_toArray, List.set_cons_zero, List.set_cons_succ]
                refine take_to 28 127 (.pointer (some ⟨q1, o1 + j * 2, none⟩)) rfl (by kernel_rfl) (by kernel_rfl) (by kernel_rfl) (fun _ _ _ h => h) rfl (by rfl) (fun w hw => op_index _ _ 22 (.tmp 125) (.tmp 126) rfl (.slice (some ⟨q1, o1, none⟩) nf ch) (.int .i64 (j : Int)) _ rfl rfl (run_index22 w _ _ _ _ _ HJN.out)) hH ?_
                simp only [Act.put, List.setIfInBounds_toArray, List.set_cons_zero, List.set_cons_succ]
                refine take_to 29 128 (.pointer (some ⟨q1, o1 + j * 2, none⟩)) rfl (by kernel_rfl) (by kernel_rfl) (by kernel_rfl) (fun _ _ _ h => h) rfl (by rfl) (fun w hw => by rfl) hH ?_
                simp only [Act.put, List.setIfInBounds_toArray, List.set_cons_zero, List.set_cons_succ]
                refine take_to 30 129 (scell s) rfl (by kernel_rfl) (by kernel_rfl) (by kernel_rfl) (fun _ _ _ h => h) rfl (by rfl) (fun w hw => op_load _ _ 9 (.tmp 128) rfl (.pointer (some ⟨q1, o1 + j * 2, none⟩)) _ rfl (run_loadAny w _ _ 9 _ Try.isAgg9 (HA1.out w hw))) hH ?_
                simp only [Act.put, List.setIfInBounds_toArray, List.set_cons_zero, List.set_cons_succ]
                refine take_to 32 131 (.pointer (some ⟨rt, 0, none⟩)) rfl (by kernel_rfl) (by kernel_rfl) (by kernel_rfl) (fun _ _ _ h => h) rfl (by rfl) (fun w hw => by rfl) hH ?_
                simp only [Act.put, List.setIfInBounds_toArray, List.set_cons_zero, List.set_cons_succ]
                refine take_to 33 132 (.slice (some ⟨q1, o1, none⟩) nf ch) rfl (by kernel_rfl) (by kernel_rfl) (by kernel_rfl) (fun _ _ _ h => h) rfl (by rfl) (fun w hw => by rfl) hH ?_
                simp only [Act.put, List.setIfInBounds_toArray, List.set_cons_zero, List.set_cons_succ]
                refine take_to 34 133 (.int .i64 (j : Int)) rfl (by kernel_rfl) (by kernel_rfl) (by kernel_rfl) (fun _ _ _ h => h) rfl (by rfl) (fun w hw => by rfl) hH ?_
                simp only [Act.put, List.setIfInBounds_toArray, List.set_cons_zero, List.set_cons_succ]
                refine take_to 35 134 (.pointer (some ⟨q1, o1 + j * 2, none⟩)) rfl (by kernel_rfl) (by kernel_rfl) (by kernel_rfl) (fun _ _ _ h => h) rfl (by rfl) (fun w hw => op_index _ _ 22 (.tmp 132) (.tmp 133) rfl (.slice (some ⟨q1, o1, none⟩) nf ch) (.int .i64 (j : Int)) _ rfl rfl (run_index22 w _ _ _ _ _ HJN.out)) hH ?_
                simp only [Act.put, List.setIfInBounds_toArray, List.set_cons_zero, List.set_cons_succ]
                refine take_to 36 135 (.pointer (some ⟨q1, o1 + j * 2, none⟩)) rfl (by kernel_rfl) (by kernel_rfl) (by kernel_rfl) (fun _ _ _ h => h) rfl (by rfl) (fun w hw => by rfl) hH ?_
                simp only [Act.put, List.setIfInBounds_toArray, List.set_cons_zero, List.set_cons_succ]
                refine take_to 37 136 (scell s) rfl (by kernel_rfl) (by kernel_rfl) (by kernel_rfl) (fun _ _ _ h => h) rfl (by rfl) (fun w hw => op_load _ _ 9 (.tmp 135) rfl (.pointer (some ⟨q1, o1 + j * 2, none⟩)) _ rfl (run_loadAny w _ _ 9 _ Try.isAgg9 (HA1.out w hw))) hH ?_
                simp only [Act.put, List.setIfInBounds_toArray, List.set_cons_zero, List.set_cons_succ]
                refine step_call2_to 31 130 13 rfl (by kernel_rfl) rfl (by rfl) (.tmp 124) (.tmp 129) _ rfl _ _ rfl rfl Try.enters13 ((HSV.out.by hH).holders (by have h1 := HNk1.out; omega) HNO.out) ?_
                rintro e U1 ⟨va, A, rfl, hr1, hA1, hb1⟩
                have hH1 : Below V2.heap.size V2 U1 := hH.trans (hb1.mono hH.size)
                refine ⟨_, rfl, hH1, ?_⟩
                simp only [Act.put, List.setIfInBounds_toArray, List.set_cons_zero, List.set_cons_succ]
                refine step_call2_to 38 137 25 rfl (by kernel_rfl) rfl (by rfl) (.tmp 131) (.tmp 136) _ rfl _ _ rfl rfl Try.enters25 ((HSV.out.by hH1).rholders (by have h1 := HNk1.out; omega) s) ?_
                rintro e U2 ⟨vb, A', rfl, hr2, hA2, hl2, hb2⟩
                obtain rfl := hA1.one hA2
                have hr3 := owns_below hr1 hb2 (Nat.le_refl _)
                have hH2 : Below V2.heap.size V2 U2 := hH1.trans (hb2.mono hH1.size)
                refine ⟨_, rfl, hH2, ?_⟩
                simp only [Act.put, List.setIfInBounds_toArray, List.set_cons_zero, List.set_cons_succ]
                refine step_call2_to 39 138 21 rfl (by kernel_rfl) rfl (by rfl) (.tmp 130) (.tmp 137) _ rfl _ _ rfl rfl Try.enters21 (ints_same (Row.of_owns hr3) (Row.of_owns hr2) (by have h1 := HNk1.out; omega)) ?_
                rintro e U3 ⟨rfl, hb3⟩
                have hH3 : Below V2.heap.size V2 U3 := hH2.trans (hb3.mono hH2.size)
                refine ⟨_, rfl, hH3, ?_⟩
                simp only [Act.put, List.setIfInBounds_toArray, List.set_cons_zero, List.set_cons_succ]
                refine take_to 40 139 (.bool false) rfl (by kernel_rfl) (by kernel_rfl) (by kernel_rfl) (fun _ _ _ h => h) rfl (by rfl) (fun w hw => by rfl) hH3 ?_
                simp only [Act.put, List.setIfInBounds_toArray, List.set_cons_zero, List.set_cons_succ]
                refine take_to 41 140 (.bool false) rfl (by kernel_rfl) (by kernel_rfl) (by kernel_rfl) (fun _ _ _ h => h) rfl (by rfl) (fun w hw => by rfl) hH3 ?_
                simp only [Act.put, List.setIfInBounds_toArray, List.set_cons_zero, List.set_cons_succ]
                refine wpAnyH_done (by kernel_rfl) ?_ _
                have HE := hide hH3
                clear hH hd hr1 hA1 hb1 hH1 hr2 hA2 hl2 hb2 hr3 hH2 hb3 hH3
                go_wp2
                refine ⟨⟨j + 1, by have := HJN.out; omega, by go_num, HE.out⟩, ?_⟩
                have := HJN.out
                simp [intOf]
                omega
              · obtain rfl : j = nf := by omega
                have HSX := hide (HSV.out.by HB.out)
                go_wp2
                refine ⟨⟨k + 1, _, _, _, _, by have := HKN.out; omega, by have := HK60.out; omega, by go_num, by rw [HN1E.out]; exact HSX.out⟩, ?_⟩
                have := HKN.out
                simp [intOf]
                omega
          · have hkd' : (kd == 0) = false := beq_eq_false_iff_ne.2 hkd
            have hkd1' : (kd == 1) = false := beq_eq_false_iff_ne.2 hkd1
            have C1 := hide (HS2.out.release1 HID.out (by have := HNk.out; omega))
            go_upto_region 12 with (go_at_call 12; refine C1.out.mono ?_; rintro e W3 ⟨rfl, B2, hS3, hM3⟩; have HS3 := hide hS3; have HQ3 := hide ((hM3.block p6 (lt_of_heap HP6.out) HNB.out).trans HP6.out); clear hS3 hM3)
            clear d0 d1 d2 C1 HS2
            have d1 : W3.cell? ⟨p6, 1, none⟩ = some (.int .i64 id) := by rw [cell_row HQ3.out]; rfl
            have C2 := hide (HS3.out.release2 (by have := HNk.out; omega) id)
            go_upto_region 17 with (go_at_call 23; refine C2.out.mono ?_; rintro e WT ⟨rfl, vT, hsT, hS4, hO4⟩; have HST := hide (hS4.mono HN0.out HN0.out); have HQT := hide ((hO4.block p6 (lt_of_heap HQ3.out) (by intro hm; rcases List.mem_cons.1 hm with e | e; exact HNR.out e; exact HNV.out (by simpa using e))).trans HQ3.out); clear hS4 hO4)
            clear d1 C2 HS3 HQ3 HP6
            generalize freeH m id = mT at *
            have e1 : WT.cell? ⟨p6, 1, none⟩ = some (.int .i64 id) := by rw [cell_row HQT.out]; rfl
            refine wp_region_held_drew (S := fun W => W.cell? ⟨p6, 1, none⟩ = some (.int .i64 id)) (by kernel_rfl) e1 (fun hH => ?_)
            refine take_to 0 76 (.pointer (some ⟨t, 0, none⟩)) rfl (by kernel_rfl) (by kernel_rfl) (by kernel_rfl) (fun _ _ _ h => h) rfl (by rfl) (fun w hw => by rfl) hH ?_
            simp only [Act.put, List.setIfInBounds_toArray, List.set_cons_zero, List.set_cons_succ]
            refine take_to 1 77 (.pointer (some ⟨p6, 1, none⟩)) rfl (by kernel_rfl) (by kernel_rfl) (by kernel_rfl) (fun _ _ _ h => h) rfl (by rfl) (fun w hw => by rfl) hH ?_
            simp only [Act.put, List.setIfInBounds_toArray, List.set_cons_zero, List.set_cons_succ]
            refine take_to 2 78 (.int .i64 id) rfl (by kernel_rfl) (by kernel_rfl) (by kernel_rfl) (fun _ _ _ h => h) rfl (by rfl) (fun w hw => op_load _ _ 3 (.tmp 77) rfl (.pointer (some ⟨p6, 1, none⟩)) _ rfl (run_loadAny w _ _ 3 _ Try.isAgg3 hw)) hH ?_
            simp only [Act.put, List.setIfInBounds_toArray, List.set_cons_zero, List.set_cons_succ]
            refine take_to 4 80 (.pointer (some ⟨rt, 0, none⟩)) rfl (by kernel_rfl) (by kernel_rfl) (by kernel_rfl) (fun _ _ _ h => h) rfl (by rfl) (fun w hw => by rfl) hH ?_
            simp only [Act.put, List.setIfInBounds_toArray, List.set_cons_zero, List.set_cons_succ]
            refine take_to 5 81 (.pointer (some ⟨p6, 1, none⟩)) rfl (by kernel_rfl) (by kernel_rfl) (by kernel_rfl) (fun _ _ _ h => h) rfl (by rfl) (fun w hw => by rfl) hH ?_
            simp only [Act.put, List.setIfInBounds_toArray, List.set_cons_zero, List.set_cons_succ]
            refine take_to 6 82 (.int .i64 id) rfl (by kernel_rfl) (by kernel_rfl) (by kernel_rfl) (fun _ _ _ h => h) rfl (by rfl) (fun w hw => op_load _ _ 3 (.tmp 81) rfl (.pointer (some ⟨p6, 1, none⟩)) _ rfl (run_loadAny w _ _ 3 _ Try.isAgg3 hw)) hH ?_
            simp only [Act.put, List.setIfInBounds_toArray, List.set_cons_zero, List.set_cons_succ]
            have hbd : Below WT.heap.size WT WT.drew := below_drewN _ WT 1
            have HS9 := hide (HST.out.by hbd)
            clear hbd
            have HQ9 : Hid (WT.drew.heap[p6]? = some (.cells #[_, .int .i64 id, .slice aa l.length cc] 43 (0, 0))) := HQT.out
            clear HST HQT e1
            generalize WT.drew = W9 at *
            refine step_call2_to 3 79 10 rfl (by kernel_rfl) rfl (by rfl) (.tmp 76) (.tmp 78) _ rfl _ _ rfl rfl Try.enters10 (HS9.out.held HID.out (by have h1 := HNk1.out; omega)) ?_
            rintro e V1 ⟨ah, ch, LH, rfl, hLH, hnH, hwH, hbH⟩
            have hq1 := (hbH.block p6 (lt_of_heap HQ9.out)).trans HQ9.out
            have hs1 := HS9.out.by hbH
            refine ⟨_, rfl, by rw [cell_row hq1]; rfl, ?_⟩
            simp only [Act.put, List.setIfInBounds_toArray, List.set_cons_zero, List.set_cons_succ]
            refine step_call2_to 7 83 24 rfl (by kernel_rfl) rfl (by rfl) (.tmp 80) (.tmp 82) _ rfl _ _ rfl rfl Try.enters24 (hs1.rheld (by have h1 := HNk1.out; omega) id) ?_
            rintro e V2 ⟨ag, cg, F, rfl, hF, hwF, hbF⟩
            obtain rfl := HeldIs.same hF hLH
            have hq2 := (hbF.block p6 (lt_of_heap hq1)).trans hq1
            have e2 : V2.cell? ⟨p6, 1, none⟩ = some (.int .i64 id) := by rw [cell_row hq2]; rfl
            refine ⟨_, rfl, e2, ?_⟩
            simp only [Act.put, List.setIfInBounds_toArray, List.set_cons_zero, List.set_cons_succ]
            obtain ⟨nf, hnf⟩ : ∃ nf, F.length = nf := ⟨_, rfl⟩
            rw [hnf]
            refine take_to 8 8 (.slice ah nf ch) rfl (by kernel_rfl) (by kernel_rfl) (by kernel_rfl) (fun _ _ _ h => h) rfl (by rfl) (fun w hw => by rfl) e2 ?_
            simp only [Act.put, List.setIfInBounds_toArray, List.set_cons_zero, List.set_cons_succ]
            refine take_to 9 9 (.slice ag nf cg) rfl (by kernel_rfl) (by kernel_rfl) (by kernel_rfl) (fun _ _ _ h => h) rfl (by rfl) (fun w hw => by rfl) e2 ?_
            simp only [Act.put, List.setIfInBounds_toArray, List.set_cons_zero, List.set_cons_succ]
            refine wpAnyH_done (by kernel_rfl) ?_ _
            have HSV := hide (hs1.by hbF)
            have HW1 := hide (hwH.belowW hbF)
            have HW2 := hide hwF
            have HF := hide hF
            have HNF := hide hnf
            have hnf2 : nf ≤ 62914560 := by have h1 := HNk1.out; omega
            clear hH HS9 HQ9 hLH hnH hwH hbH hq1 hs1 hF hwF hbF hq2 e2 hnf
            go_upto_region 21 with fail
            go_loopw [10] (fun i wr => ∃ j : Nat, j ≤ nf ∧ i = .int .i64 (j : Int) ∧ Below V2.heap.size V2 wr) (fun i _ => nf - (intOf i).toNat)
            case atStart => exact ⟨0, by omega, rfl, Below.refl _ _⟩
            case round =>
              obtain ⟨j, hj, rfl, hB⟩ := hrel
              have HB := hide hB
              clear hB
              by_cases hjn : j < nf
              · have i4 : (j : Int) < (nf : Int) := by omega
                obtain ⟨x, hx⟩ : ∃ x, F[j]? = some x := ⟨_, List.getElem?_eq_getElem (by rw [HNF.out]; exact hjn)⟩
                obtain ⟨q1, o1, ea1, a1, a2⟩ := HW1.out j x hx
                obtain ⟨q2, o2, ea2, b1, b2⟩ := HW2.out j x hx
                subst ea1 ea2
                have HJN := hide hjn
                have HMX : Hid (mT id x.1 = some x.2) := (HF.out.iff x.1 x.2).1 (List.mem_of_getElem? hx)
                have HNO := hide (HSV.out.tab.tab.good _ _ _ HMX.out).2.2
                have HA1 := hide (fun W (hW : Below V2.heap.size V2 W) => (hW.cell (p := ⟨q1, o1 + j * 2, none⟩) (World.block_lt_of_cell? _ _ a1)).trans a1)
                have HA2 := hide (fun W (hW : Below V2.heap.size V2 W) => (hW.cell (p := ⟨q1, o1 + j * 2 + 1, none⟩) (World.block_lt_of_cell? _ _ a2)).trans a2)
                have HB1 := hide (fun W (hW : Below V2.heap.size V2 W) => (hW.cell (p := ⟨q2, o2 + j * 2, none⟩) (World.block_lt_of_cell? _ _ b1)).trans b1)
                have HB2 := hide (fun W (hW : Below V2.heap.size V2 W) => (hW.cell (p := ⟨q2, o2 + j * 2 + 1, none⟩) (World.block_lt_of_cell? _ _ b2)).trans b2)
                clear a1 a2 b1 b2 hx
                obtain ⟨s, md⟩ := x
                change Hid (∀ W, Below V2.heap.size V2 W → W.cell? ⟨q1, o1 + j * 2, none⟩ = some (scell s)) at HA1
                change Hid (∀ W, Below V2.heap.size V2 W → W.cell? ⟨q1, o1 + j * 2 + 1, none⟩ = some (.int .i64 md)) at HA2
                change Hid (∀ W, Below V2.heap.size V2 W → W.cell? ⟨q2, o2 + j * 2, none⟩ = some (scell s)) at HB1
                change Hid (∀ W, Below V2.heap.size V2 W → W.cell? ⟨q2, o2 + j * 2 + 1, none⟩ = some (.int .i64 md)) at HB2
                go_upto_region 23 with fail
                have hd : Below V2.heap.size V2 wr.drew := HB.out.trans (below_drewN _ _ 1)
                refine wp_region_held_drew (S := fun W => Below V2.heap.size V2 W) (by kernel_rfl) hd (fun hH => ?_)
                refine take_to 0 99 (.slice (some ⟨q1, o1, none⟩) nf ch) rfl (by kernel_rfl) (by kernel_rfl) (by kernel_rfl) (fun _ _ _ h => h) rfl (by rfl) (fun w hw => by rfl) hH ?_
                simp only [Act.put, List.setIfInBounds_toArray, List.set_cons_zero, List.set_cons_succ]
                refine take_to 1 100 (.int .i64 (j : Int)) rfl (by kernel_rfl) (by kernel_rfl) (by kernel_rfl) (fun _ _ _ h => h) rfl (by rfl) (fun w hw => by rfl) hH ?_
                simp only [Act.put, List.setIfInBounds_toArray, List.set_cons_zero, List.set_cons_succ]
                refine take_to 2 101 (.pointer (some ⟨q1, o1 + j * 2, none⟩)) rfl (by kernel_rfl) (by kernel_rfl) (by kernel_rfl) (fun _ _ _ h => h) rfl (by rfl) (fun w hw => op_index _ _ 22 (.tmp 99) (.tmp 100) rfl (.slice (some ⟨q1, o1, none⟩) nf ch) (.int .i64 (j : Int)) _ rfl rfl (run_index22 w _ _ _ _ _ HJN.out)) hH ?_
                simp only [Act.put, List.setIfInBounds_toArray, List.set_cons_zero, List.set_cons_succ]
                refine take_to 3 102 (.pointer (some ⟨q1, o1 + j * 2, none⟩)) rfl (by kernel_rfl) (by kernel_rfl) (by kernel_rfl) (fun _ _ _ h => h) rfl (by rfl) (fun w hw => by rfl) hH ?_
                simp only [Act.put, List.setIfInBounds_toArray, List.set_cons_zero, List.set_cons_succ]
                refine take_to 4 103 (scell s) rfl (by kernel_rfl) (by kernel_rfl) (by kernel_rfl) (fun _ _ _ h => h) rfl (by rfl) (fun w hw => op_load _ _ 9 (.tmp 102) rfl (.pointer (some ⟨q1, o1 + j * 2, none⟩)) _ rfl (run_loadAny w _ _ 9 _ Try.isAgg9 (HA1.out w hw))) hH ?_
                simp only [Act.put, List.setIfInBounds_toArray, List.set_cons_zero, List.set_cons_succ]
                refine take_to 5 104 (.slice (some ⟨q2, o2, none⟩) nf cg) rfl (by kernel_rfl) (by kernel_rfl) (by kernel_rfl) (fun _ _ _ h => h) rfl (by rfl) (fun w hw => by rfl) hH ?_
                simp only [Act.put, List.setIfInBounds_toArray, List.set_cons_zero, List.set_cons_succ]
                refine take_to 6 105 (.int .i64 (j : Int)) rfl (by kernel_rfl) (by kernel_rfl) (by kernel_rfl) (fun _ _ _ h => h) rfl (by rfl) (fun w hw => by rfl) hH ?_
                simp only [Act.put, List.setIfInBounds_toArray, List.set_cons_zero, List.set_cons_succ]
                refine take_to 7 106 (.pointer (some ⟨q2, o2 + j * 2, none⟩)) rfl (by kernel_rfl) (by kernel_rfl) (by kernel_rfl) (fun _ _ _ h => h) rfl (by rfl) (fun w hw => op_index _ _ 45 (.tmp 104) (.tmp 105) rfl (.slice (some ⟨q2, o2, none⟩) nf cg) (.int .i64 (j : Int)) _ rfl rfl (run_index45 w _ _ _ _ _ HJN.out)) hH ?_
                simp only [Act.put, List.setIfInBounds_toArray, List.set_cons_zero, List.set_cons_succ]
                refine take_to 8 107 (.pointer (some ⟨q2, o2 + j * 2, none⟩)) rfl (by kernel_rfl) (by kernel_rfl) (by kernel_rfl) (fun _ _ _ h => h) rfl (by rfl) (fun w hw => by rfl) hH ?_
                simp only [Act.put, List.setIfInBounds_toArray, List.set_cons_zero, List.set_cons_succ]
                refine take_to 9 108 (scell s) rfl (by kernel_rfl) (by kernel_rfl) (by kernel_rfl) (fun _ _ _ h => h) rfl (by rfl) (fun w hw => op_load _ _ 9 (.tmp 107) rfl (.pointer (some ⟨q2, o2 + j * 2, none⟩)) _ rfl (run_loadAny w _ _ 9 _ Try.isAgg9 (HB1.out w hw))) hH ?_
                simp only [Act.put, List.setIfInBounds_toArray, List.set_cons_zero, List.set_cons_succ]
                refine take_to 10 109 (.bool false) rfl (by kernel_rfl) (by kernel_rfl) (by kernel_rfl) (fun _ _ _ h => h) rfl (by rfl) (fun w hw => op_neqstr _ _ (.tmp 103) (.tmp 108) _ rfl s rfl rfl) hH ?_
                simp only [Act.put, List.setIfInBounds_toArray, List.set_cons_zero, List.set_cons_succ]
                refine take_to 11 110 (.bool false) rfl (by kernel_rfl) (by kernel_rfl) (by kernel_rfl) (fun _ _ _ h => h) rfl (by rfl) (fun w hw => by rfl) hH ?_
                simp only [Act.put, List.setIfInBounds_toArray, List.set_cons_zero, List.set_cons_succ]
                refine take_to 12 111 (.slice (some ⟨q1, o1, none⟩) nf ch) rfl (by kernel_rfl) (by kernel_rfl) (by kernel_rfl) (fun _ _ _ h => h) rfl (by rfl) (fun w hw => by rfl) hH ?_
                simp only [Act.put, List.setIfInBounds_toArray, List.set_cons_zero, List.set_cons_succ]
                refine take_to 13 112 (.int .i64 (j : Int)) rfl (by kernel_rfl) (by kernel_rfl) (by kernel_rfl) (fun _ _ _ h => h) rfl (by rfl) (fun w hw => by rfl) hH ?_
                simp only [Act.put, List.setIfInBounds_toArray, List.set_cons_zero, List.set_cons_succ]
                refine take_to 14 113 (.pointer (some ⟨q1, o1 + j * 2, none⟩)) rfl (by kernel_rfl) (by kernel_rfl) (by kernel_rfl) (fun _ _ _ h => h) rfl (by rfl) (fun w hw => op_index _ _ 22 (.tmp 111) (.tmp 112) rfl (.slice (some ⟨q1, o1, none⟩) nf ch) (.int .i64 (j : Int)) _ rfl rfl (run_index22 w _ _ _ _ _ HJN.out)) hH ?_
                simp only [Act.put, List.setIfInBounds_toArray, List.set_cons_zero, List.set_cons_succ]
                refine take_to 15 114 (.pointer (some ⟨q1, o1 + j * 2 + 1, none⟩)) rfl (by kernel_rfl) (by kernel_rfl) (by kernel_rfl) (fun _ _ _ h => h) rfl (by rfl) (fun w hw => by rfl) hH ?_
                simp only [Act.put, List.setIfInBounds_toArray, List.set_cons_zero, List.set_cons_succ]
                refine take_to 16 115 (.int .i64 md) rfl (by kernel_rfl) (by kernel_rfl) (by kernel_rfl) (fun _ _ _ h => h) rfl (by rfl) (fun w hw => op_load _ _ 3 (.tmp 114) rfl (.pointer (some ⟨q1, o1 + j * 2 + 1, none⟩)) _ rfl (run_loadAny w _ _ 3 _ Try.isAgg3 (HA2.out w hw))) hH ?_
                simp only [Act.put, List.setIfInBounds_toArray, List.set_cons_zero, List.set_cons_succ]
                refine take_to 17 116 (.slice (some ⟨q2, o2, none⟩) nf cg) rfl (by kernel_rfl) (by kernel_rfl) (by kernel_rfl) (fun _ _ _ h => h) rfl (by rfl) (fun w hw => by rfl) hH ?_
                simp only [Act.put, List.setIfInBounds_toArray, List.set_cons_zero, List.set_cons_succ]
                refine take_to 18 117 (.int .i64 (j : Int)) rfl (by kernel_rfl) (by kernel_rfl) (by kernel_rfl) (fun _ _ _ h => h) rfl (by rfl) (fun w hw => by rfl) hH ?_
                simp only [Act.put, List.setIfInBounds_toArray, List.set_cons_zero, List.set_cons_succ]
                refine take_to 19 118 (.pointer (some ⟨q2, o2 + j * 2, none⟩)) rfl (by kernel_rfl) (by kernel_rfl) (by kernel_rfl) (fun _ _ _ h => h) rfl (by rfl) (fun w hw => op_index _ _ 45 (.tmp 116) (.tmp 117) rfl (.slice (some ⟨q2, o2, none⟩) nf cg) (.int .i64 (j : Int)) _ rfl rfl (run_index45 w _ _ _ _ _ HJN.out)) hH ?_
                simp only [Act.put, List.setIfInBounds_toArray, List.set_cons_zero, List.set_cons_succ]
                refine take_to 20 119 (.pointer (some ⟨q2, o2 + j * 2 + 1, none⟩)) rfl (by kernel_rfl) (by kernel_rfl) (by kernel_rfl) (fun _ _ _ h => h) rfl (by rfl) (fun w hw => by rfl) hH ?_
                simp only [Act.put, List.setIfInBounds_toArray, List.set_cons_zero, List.set_cons_succ]
                refine take_to 21 120 (.int .i64 md) rfl (by kernel_rfl) (by kernel_rfl) (by kernel_rfl) (fun _ _ _ h => h) rfl (by rfl) (fun w hw => op_load _ _ 3 (.tmp 119) rfl (.pointer (some ⟨q2, o2 + j * 2 + 1, none⟩)) _ rfl (run_loadAny w _ _ 3 _ Try.isAgg3 (HB2.out w hw))) hH ?_
                simp only [Act.put, List.setIfInBounds_toArray, List.set_cons_zero, List.set_cons_succ]
                refine take_to 22 121 (.bool false) rfl (by kernel_rfl) (by kernel_rfl) (by kernel_rfl) (fun _ _ _ h => h) rfl (by rfl) (fun w hw => op_neq3 _ _ (.tmp 115) (.tmp 120) _ rfl md md rfl rfl false (by simp)) hH ?_
                simp only [Act.put, List.setIfInBounds_toArray, List.set_cons_zero, List.set_cons_succ]
                refine take_to 23 122 (.bool false) rfl (by kernel_rfl) (by kernel_rfl) (by kernel_rfl) (fun _ _ _ h => h) rfl (by rfl) (fun w hw => by rfl) hH ?_
                simp only [Act.put, List.setIfInBounds_toArray, List.set_cons_zero, List.set_cons_succ]
                refine take_to 24 123 (.bool false) rfl (by kernel_rfl) (by kernel_rfl) (by kernel_rfl) (fun _ _ _ h => h) rfl (by rfl) (fun w hw => by rfl) hH ?_
                simp only [Act.put, List.setIfInBounds_toArray, List.set_cons_zero, List.set_cons_succ]
                refine take_to 25 124 (.pointer (some ⟨t, 0, none⟩)) rfl (by kernel_rfl) (by kernel_rfl) (by kernel_rfl) (fun _ _ _ h => h) rfl (by rfl) (fun w hw => by rfl) hH ?_
                simp only [Act.put, List.setIfInBounds_toArray, List.set_cons_zero, List.set_cons_succ]
                refine take_to 26 125 (.slice (some ⟨q1, o1, none⟩) nf ch) rfl (by kernel_rfl) (by kernel_rfl) (by kernel_rfl) (fun _ _ _ h => h) rfl (by rfl) (fun w hw => by rfl) hH ?_
                simp only [Act.put, List.setIfInBounds_toArray, List.set_cons_zero, List.set_cons_succ]
                refine take_to 27 126 (.int .i64 (j : Int)) rfl (by kernel_rfl) (by kernel_rfl) (by kernel_rfl) (fun _ _ _ h => h) rfl (by rfl) (fun w hw => by rfl) hH ?_
                simp only [Act.put, List.setIfInBounds_toArray, List.set_cons_zero, List.set_cons_succ]
                refine take_to 28 127 (.pointer (some ⟨q1, o1 + j * 2, none⟩)) rfl (by kernel_rfl) (by kernel_rfl) (by kernel_rfl) (fun _ _ _ h => h) rfl (by rfl) (fun w hw => op_index _ _ 22 (.tmp 125) (.tmp 126) rfl (.slice (some ⟨q1, o1, none⟩) nf ch) (.int .i64 (j : Int)) _ rfl rfl (run_index22 w _ _ _ _ _ HJN.out)) hH ?_
                simp only [Act.put, List.setIfInBounds_toArray, List.set_cons_zero, List.set_cons_succ]
                refine take_to 29 128 (.pointer (some ⟨q1, o1 + j * 2, none⟩)) rfl (by kernel_rfl) (by kernel_rfl) (by kernel_rfl) (fun _ _ _ h => h) rfl (by rfl) (fun w hw => by rfl) hH ?_
                simp only [Act.put, List.setIfInBounds_toArray, List.set_cons_zero, List.set_cons_succ]
                refine take_to 30 129 (scell s) rfl (by kernel_rfl) (by kernel_rfl) (by kernel_rfl) (fun _ _ _ h => h) rfl (by rfl) (fun w hw => op_load _ _ 9 (.tmp 128) rfl (.pointer (some ⟨q1, o1 + j * 2, none⟩)) _ rfl (run_loadAny w _ _ 9 _ Try.isAgg9 (HA1.out w hw))) hH ?_
                simp only [Act.put, List.setIfInBounds_toArray, List.set_cons_zero, List.set_cons_succ]
                refine take_to 32 131 (.pointer (some ⟨rt, 0, none⟩)) rfl (by kernel_rfl) (by kernel_rfl) (by kernel_rfl) (fun _ _ _ h => h) rfl (by rfl) (fun w hw => by rfl) hH ?_
                simp only [Act.put, List.setIfInBounds_toArray, List.set_cons_zero, List.set_cons_succ]
                refine take_to 33 132 (.slice (some ⟨q1, o1, none⟩) nf ch) rfl (by kernel_rfl) (by kernel_rfl) (by kernel_rfl) (fun _ _ _ h => h) rfl (by rfl) (fun w hw => by rfl) hH ?_
                simp only [Act.put, List.setIfInBounds_toArray, List.set_cons_zero, List.set_cons_succ]
                refine take_to 34 133 (.int .i64 (j : Int)) rfl (by kernel_rfl) (by kernel_rfl) (by kernel_rfl) (fun _ _ _ h => h) rfl (by rfl) (fun w hw => by rfl) hH ?_
                simp only [Act.put, List.setIfInBounds_toArray, List.set_cons_zero, List.set_cons_succ]
                refine take_to 35 134 (.pointer (some ⟨q1, o1 + j * 2, none⟩)) rfl (by kernel_rfl) (by kernel_rfl) (by kernel_rfl) (fun _ _ _ h => h) rfl (by rfl) (fun w hw => op_index _ _ 22 (.tmp 132) (.tmp 133) rfl (.slice (some ⟨q1, o1, none⟩) nf ch) (.int .i64 (j : Int)) _ rfl rfl (run_index22 w _ _ _ _ _ HJN.out)) hH ?_
                simp only [Act.put, List.setIfInBounds_toArray, List.set_cons_zero, List.set_cons_succ]
                refine take_to 36 135 (.pointer (some ⟨q1, o1 + j * 2, none⟩)) rfl (by kernel_rfl) (by kernel_rfl) (by kernel_rfl) (fun _ _ _ h => h) rfl (by rfl) (fun w hw => by rfl) hH ?_
                simp only [Act.put, List.setIfInBounds_toArray, List.set_cons_zero, List.set_cons_succ]
                refine take_to 37 136 (scell s) rfl (by kernel_rfl) (by kernel_rfl) (by kernel_rfl) (fun _ _ _ h => h) rfl (by rfl) (fun w hw => op_load _ _ 9 (.tmp 135) rfl (.pointer (some ⟨q1, o1 + j * 2, none⟩)) _ rfl (run_loadAny w _ _ 9 _ Try.isAgg9 (HA1.out w hw))) hH ?_
                simp only [Act.put, List.setIfInBounds_toArray, List.set_cons_zero, List.set_cons_succ]
                refine step_call2_to 31 130 13 rfl (by kernel_rfl) rfl (by rfl) (.tmp 124) (.tmp 129) _ rfl _ _ rfl rfl Try.enters13 ((HSV.out.by hH).holders (by have h1 := HNk1.out; omega) HNO.out) ?_
                rintro e U1 ⟨va, A, rfl, hr1, hA1, hb1⟩
                have hH1 : Below V2.heap.size V2 U1 := hH.trans (hb1.mono hH.size)
                refine ⟨_, rfl, hH1, ?_⟩
                simp only [Act.put, List.setIfInBounds_toArray, List.set_cons_zero, List.set_cons_succ]
                refine step_call2_to 38 137 25 rfl (by kernel_rfl) rfl (by rfl) (.tmp 131) (.tmp 136) _ rfl _ _ rfl rfl Try.enters25 ((HSV.out.by hH1).rholders (by have h1 := HNk1.out; omega) s) ?_
                rintro e U2 ⟨vb, A', rfl, hr2, hA2, hl2, hb2⟩
                obtain rfl := hA1.one hA2
                have hr3 := owns_below hr1 hb2 (Nat.le_refl _)
                have hH2 : Below V2.heap.size V2 U2 := hH1.trans (hb2.mono hH1.size)
                refine ⟨_, rfl, hH2, ?_⟩
                simp only [Act.put, List.setIfInBounds_toArray, List.set_cons_zero, List.set_cons_succ]
                refine step_call2_to 39 138 21 rfl (by kernel_rfl) rfl (by rfl) (.tmp 130) (.tmp 137) _ rfl _ _ rfl rfl Try.enters21 (ints_same (Row.of_owns hr3) (Row.of_owns hr2) (by have h1 := HNk1.out; omega)) ?_
                rintro e U3 ⟨rfl, hb3⟩
                have hH3 : Below V2.heap.size V2 U3 := hH2.trans (hb3.mono hH2.size)
                refine ⟨_, rfl, hH3, ?_⟩
                simp only [Act.put, List.setIfInBounds_toArray, List.set_cons_zero, List.set_cons_succ]
                refine take_to 40 139 (.bool false) rfl (by kernel_rfl) (by kernel_rfl) (by kernel_rfl) (fun _ _ _ h => h) rfl (by rfl) (fun w hw => by rfl) hH3 ?_
                simp only [Act.put, List.setIfInBounds_toArray, List.set_cons_zero, List.set_cons_succ]
                refine take_to 41 140 (.bool false) rfl (by kernel_rfl) (by kernel_rfl) (by kernel_rfl) (fun _ _ _ h => h) rfl (by rfl) (fun w hw => by rfl) hH3 ?_
                simp only [Act.put, List.setIfInBounds_toArray, List.set_cons_zero, List.set_cons_succ]
                refine wpAnyH_done (by kernel_rfl) ?_ _
                have HE := hide hH3
                clear hH hd hr1 hA1 hb1 hH1 hr2 hA2 hl2 hb2 hr3 hH2 hb3 hH3
                go_wp2
                refine ⟨⟨j + 1, by have := HJN.out; omega, by go_num, HE.out⟩, ?_⟩
                have := HJN.out
                simp [intOf]
                omega
              · obtain rfl : j = nf := by omega
                have HSX := hide (HSV.out.by HB.out)
                go_wp2
                refine ⟨⟨k + 1, _, _, _, _, by have := HKN.out; omega, by have := HK60.out; omega, by go_num, by rw [HN1E.out]; exact HSX.out⟩, ?_⟩
                have := HKN.out
                simp [intOf]
                omega
      · obtain rfl : k = 60 := by omega
        go_wp2
        go_ret
        exact ⟨rfl, HS.out.tab.below⟩
    · obtain rfl : k = n := by omega
      go_wp2
      go_ret
      exact ⟨rfl, HS.out.tab.below⟩
end Go.Proofs.Ytffjdjbjkjefoaa
