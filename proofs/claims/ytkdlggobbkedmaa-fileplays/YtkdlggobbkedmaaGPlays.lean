/- The walk of the law FilePlays: it returns true and writes nothing that was there. -/
import Derived.Test.YtkdlggobbkedmaaGIn
import Derived.Deep.CutBlock
import Derived.Deep.DeepCutAuto
import Derived.Deep.MidRow
namespace Go.Proofs.Ytkdlggobbkedmaa
open Go.RowKit
set_option linter.unusedVariables false
set_option linter.unusedSimpArgs false

theorem Try.enters15 (args : Array Value) (w : World) : (callFunc 15 args).run Try.prog w = .ok (.enter 15 args) w := by kernel_rfl

set_option maxHeartbeats 8000000 in
set_option maxRecDepth 100000 in
theorem plays_good (N fr n : Nat) (a : Option Addr) (len cap : Nat) (w : World) (h1 : 1 ≤ N) (h2 : N ≤ 60) (hn : 1 ≤ n) (hfr : fr + 5 + 4 * n ≤ N) (hops : IsOps w a len) :
    Calls Try.prog 4 #[.int .i64 (N : Int), .int .i64 (fr : Int), .int .i64 (n : Int), .slice a len cap] w fun e w' => e = .returned (.bool true) ∧ Below w.heap.size w w' := by
  have hl := hops.1
  have HO := hide hops.2
  have HN1 := hide hn
  clear hops
  have d1 : decide ((N : Int) < 1) = false := by simp; omega
  have d2 : decide ((60 : Int) < (N : Int)) = false := by simp; omega
  have hm0 := mend_idle (D := Dv.fresh N) rfl rfl fr n (fresh_head N fr (by omega))
  have hfl : (Dv.fresh N).L.length = N := by simp [Dv.fresh]
  go_enter Try.func4, Try.ntmps4
  go_wp2_with fail
  refine (awake_true w).mono ?_
  rintro e w1 ⟨rfl, hb1⟩
  have HB1 := hide hb1
  clear hb1
  go_wp2_with fail
  refine (b_new N w1 h1 (by omega)).mono ?_
  rintro e w2 ⟨p, rfl, hD2⟩
  have HRN := hide (dd_rnew N hD2 h1 (by omega))
  clear hD2
  go_wp2_with fail
  refine HRN.out.mono ?_
  rintro e w3 ⟨r, rfl, hD3⟩
  have HOP := hide (pl_open fr n hD3 hn (by simp [Dv.fresh]) (by rw [hfl]; exact hfr))
  rw [hm0] at HOP
  clear HRN hD3
  go_wp2_with fail
  refine HOP.out.mono ?_
  rintro e w4 ⟨q, rfl, hD4, hF4, _, _⟩
  have hmn : (Dv.fresh N).mend fr n = (0, (Dv.fresh N).more 1) := hm0
  have HRO := hide (rl_open fr n hD4 hn (by simp [Dv.fresh]) (by rw [hfl]; exact hfr))
  rw [hmn] at HRO
  have HF4 := hide hF4
  clear HOP hD4 hF4 hm0 hmn
  go_wp2_with fail
  refine HRO.out.mono ?_
  rintro e w5 ⟨qm, rfl, hD5, hF5, hne5, hK5⟩
  have HT5 : Hid (Two w1 w5 p r fr n q qm false [] ((Dv.fresh N).more 1)) := by
    refine ⟨?_, (hK5.2 q (by simp) (by simp)).trans HF4.out, hF5, fun e => hne5 (by simp [e]), by simp⟩
    have : ((Dv.fresh N).more 1).norm = (Dv.fresh N).more 1 := by rw [← norm_more, norm_fresh]
    rw [this]
    exact hD5.mind (fun k hk => by simp at hk; rcases hk with h | h <;> simp [h])
  have HP5 : Hid (PAt w1 w5 p r fr n N 0 (.pointer (some ⟨q, 0, none⟩)) (.pointer (some ⟨qm, 0, none⟩))) := HT5.out.pat (by rw [more_L]; exact hfl) (by rw [more_W]; simp [Dv.fresh])
  clear HRO hD5 hF5 hne5 hK5 HT5 HF4 hfl
  go_wp2_with fail
  go_loopw [13, 15, 17] (fun fv mv iv wx => ∃ k : Nat, k ≤ 40 ∧ iv = .int .i64 k ∧ PAt w1 wx p r fr n N (20 * k) fv mv) (fun _ _ iv _ => 41 - (intOf iv).toNat)
  case atStart => exact ⟨0, by omega, rfl, HP5.out⟩
  case round =>
    clear HP5
    obtain ⟨k, hk, rfl, hP⟩ := hrel
    have HBW := hide (HB1.out.trans (hP.below.mono HB1.out.size))
    obtain ⟨D, hL, hWB, hcase⟩ := hP.st
    rcases hcase with ⟨rfl, rfl, hD⟩ | ⟨q, qm, failed, rfl, rfl, hT⟩
    · clear hD hP
      by_cases hl0 : k < len
      · by_cases hl1 : k < 40
        · go_wp2_with fail
          go_ret
          exact ⟨rfl, HBW.out⟩
        · go_wp2_with fail
          go_ret
          exact ⟨rfl, HBW.out⟩
      · go_wp2_with fail
        go_ret
        exact ⟨rfl, HBW.out⟩
    · have HT0 := hide hT
      have HN := hide hL
      have HFRL : Hid (fr + 5 + 4 * n ≤ D.L.length) := by show _ ≤ _; rw [hL]; exact hfr
      clear hT hP hL
      by_cases hgo : k < len ∧ k < 40
      · obtain ⟨hlt, hk40⟩ := hgo
        obtain ⟨b, o, hab, hbs, kind, P, A, B, S, ka, kn, kc, ks, hop⟩ := HO.out k hlt
        subst hab
        have HR6 : Hid (wr.rangeAt b (o + k * 6) [.int .i64 kind, .int .i64 P, .int .i64 A, .int .i64 B, .int .i64 S, .slice ka kn kc]) := fun j v hv => (HBW.out.cell (p := ⟨b, o + k * 6 + j, none⟩) hbs).trans (hop.cells j v hv)
        have HLO := hide hop.lo
        have HHI := hide hop.hi
        have HKS : Hid (IsBools w1 ka kn kc ks) := ⟨hop.keep.1, hop.keep.2.1, fun j hj => by
          obtain ⟨b', o', h1, h2, h3⟩ := hop.keep.2.2 j hj
          exact ⟨b', o', h1, Nat.lt_of_lt_of_le h2 HB1.out.size, (HB1.out.cell (p := ⟨b', o' + j, none⟩) h2).trans h3⟩⟩
        clear hop
        go_upto_block 2 with (refine wpList_load_mid rfl 48 _ rfl b (o + k * 6) rfl [.int .i64 kind, .int .i64 P, .int .i64 A, .int .i64 B, .int .i64 S, .slice ka kn kc] _ HR6.out Try.underlying48 rfl Try.size48 ?_)
        generalize hx1 : wr.alloc _ = x1
        have hG : x1.heap[wr.heap.size]? = some (.cells #[.int .i64 kind, .int .i64 P, .int .i64 A, .int .i64 B, .int .i64 S, .slice ka kn kc] 48 (0, 0)) := by rw [← hx1]; exact heap_alloc_new _ _
        have hBx : Below wr.heap.size wr x1 := by rw [← hx1]; exact (Below.refl _ _).alloc (Nat.le_refl _) _
        have hgl : wr.heap.size < x1.heap.size := (Array.getElem?_eq_some_iff.1 hG).1
        have HT := hide (HT0.out.mindNew (ys := [wr.heap.size]) hBx (fun k hk => by simp at hk; exact .inr (by omega)))
        clear hx1 HR6 hBx HT0
        generalize wr.heap.size = g at *
        go_cut [13, 15, 19] (fun fv mv ok wx => ok = .bool true ∧ PAt w1 wx p r fr n N (20 * k + 20) fv mv)
        case first =>
          have c0 : x1.cell? ⟨g, 0, none⟩ = some (.int .i64 kind) := by rw [cell_of_row _ _ _ _ _ _ hG]; rfl
          have c1 : x1.cell? ⟨g, 1, none⟩ = some (.int .i64 P) := by rw [cell_of_row _ _ _ _ _ _ hG]; rfl
          have c2 : x1.cell? ⟨g, 2, none⟩ = some (.int .i64 A) := by rw [cell_of_row _ _ _ _ _ _ hG]; rfl
          have c3 : x1.cell? ⟨g, 3, none⟩ = some (.int .i64 B) := by rw [cell_of_row _ _ _ _ _ _ hG]; rfl
          have c4 : x1.cell? ⟨g, 4, none⟩ = some (.int .i64 S) := by rw [cell_of_row _ _ _ _ _ _ hG]; rfl
          have c5 : x1.cell? ⟨g, 5, none⟩ = some (.slice ka kn kc) := by rw [cell_of_row _ _ _ _ _ _ hG]; rfl
          clear hG
          by_cases e0 : kind = 0
          · as_aux_lemma =>
              subst e0
              go_wp2_with fail
              refine (page_any A B x1).mono ?_
              rintro e x2 ⟨rfl, hgb, hb2⟩
              have HBL := hide (length_pg A B)
              have hT2 := HT.out.mindNew (ys := [x1.heap.size, g]) hb2 (fun k hk => by
                simp at hk
                rcases hk with rfl | rfl
                · exact .inr ⟨Nat.le_refl _, (Array.getElem?_eq_some_iff.1 hgb).1⟩
                · exact .inl (by simp))
              have c1x : x2.cell? ⟨g, 1, none⟩ = some (.int .i64 P) := (hb2.cell (p := ⟨g, 1, none⟩) hgl).trans c1
              clear hb2 c0 c1 c2 c3 c4 c5
              generalize x1.heap.size = gb at *
              obtain ⟨bs, hbs⟩ : ∃ bs, pg A B = bs := ⟨_, rfl⟩
              rw [hbs] at hgb HBL
              clear hbs
              have HNE := hide hT2.ne
              have HNQ := hide hT2.nq
              have HW1 := hide (fun d => two_write1 P gb 512 512 bs (hT2.belowW (below_drewN _ _ d)) (by simp) hgb HBL.out (by omega) (by omega) HFRL.out)
              clear hT2
              go_wp2_with fail
              refine wp_region_held_drew (S := fun w' => w'.heap[g]? = x2.heap[g]? ∧ w'.heap[gb]? = x2.heap[gb]?) (by kernel_rfl) ⟨rfl, rfl⟩ (fun hH => ?_)
              refine take_to 0 108 (.pointer (some ⟨q, 0, none⟩)) rfl (by kernel_rfl) (by kernel_rfl) (by kernel_rfl) (fun _ _ _ h => h) rfl (by rfl) (fun w hw => by rfl) hH ?_
              simp only [Act.put, List.setIfInBounds_toArray, List.set_cons_zero, List.set_cons_succ]
              refine take_to 1 109 (.pointer (some ⟨g, 1, none⟩)) rfl (by kernel_rfl) (by kernel_rfl) (by kernel_rfl) (fun _ _ _ h => h) rfl (by rfl) (fun w hw => by kernel_rfl) hH ?_
              simp only [Act.put, List.setIfInBounds_toArray, List.set_cons_zero, List.set_cons_succ]
              refine take_to 2 110 (.int .i64 P) rfl (by kernel_rfl) (by kernel_rfl) (by kernel_rfl) (fun _ _ _ h => h) rfl (by rfl) (fun w hw => op_load _ _ 3 (.tmp 109) rfl (.pointer (some ⟨g, 1, none⟩)) _ rfl (run_load3 w g 1 _ ((World.cell?_of_block (a := ⟨g, 1, none⟩) hw.1).trans c1x))) hH ?_
              simp only [Act.put, List.setIfInBounds_toArray, List.set_cons_zero, List.set_cons_succ]
              refine take_to 3 111 (.slice (some ⟨gb, 0, none⟩) 512 512) rfl (by kernel_rfl) (by kernel_rfl) (by kernel_rfl) (fun _ _ _ h => h) rfl (by rfl) (fun w hw => by rfl) hH ?_
              simp only [Act.put, List.setIfInBounds_toArray, List.set_cons_zero, List.set_cons_succ]
              refine take_to 5 113 (.pointer (some ⟨qm, 0, none⟩)) rfl (by kernel_rfl) (by kernel_rfl) (by kernel_rfl) (fun _ _ _ h => h) rfl (by rfl) (fun w hw => by rfl) hH ?_
              simp only [Act.put, List.setIfInBounds_toArray, List.set_cons_zero, List.set_cons_succ]
              refine take_to 6 114 (.pointer (some ⟨g, 1, none⟩)) rfl (by kernel_rfl) (by kernel_rfl) (by kernel_rfl) (fun _ _ _ h => h) rfl (by rfl) (fun w hw => by kernel_rfl) hH ?_
              simp only [Act.put, List.setIfInBounds_toArray, List.set_cons_zero, List.set_cons_succ]
              refine take_to 7 115 (.int .i64 P) rfl (by kernel_rfl) (by kernel_rfl) (by kernel_rfl) (fun _ _ _ h => h) rfl (by rfl) (fun w hw => op_load _ _ 3 (.tmp 114) rfl (.pointer (some ⟨g, 1, none⟩)) _ rfl (run_load3 w g 1 _ ((World.cell?_of_block (a := ⟨g, 1, none⟩) hw.1).trans c1x))) hH ?_
              simp only [Act.put, List.setIfInBounds_toArray, List.set_cons_zero, List.set_cons_succ]
              refine take_to 8 116 (.slice (some ⟨gb, 0, none⟩) 512 512) rfl (by kernel_rfl) (by kernel_rfl) (by kernel_rfl) (fun _ _ _ h => h) rfl (by rfl) (fun w hw => by rfl) hH ?_
              simp only [Act.put, List.setIfInBounds_toArray, List.set_cons_zero, List.set_cons_succ]
              refine take_to 9 117 (.string (strOf bs)) rfl (by kernel_rfl) (by kernel_rfl) (by kernel_rfl) (fun _ _ _ h => h) rfl (by rfl) (fun w hw => op_conv _ _ 31 9 (.tmp 116) rfl _ _ rfl (run_str w gb _ _ _ HBL.out (hw.2.trans hgb))) hH ?_
              simp only [Act.put, List.setIfInBounds_toArray, List.set_cons_zero, List.set_cons_succ]
              refine step_call3_to 4 112 9 rfl (by kernel_rfl) rfl (by rfl) (.tmp 108) (.tmp 110) (.tmp 111) _ rfl _ _ _ rfl rfl rfl Try.enters9 (HW1.out 1) ?_
              rintro e x3 ⟨rfl, hH3, hK3⟩
              have hS3 : x3.heap[g]? = x2.heap[g]? ∧ x3.heap[gb]? = x2.heap[gb]? := ⟨hK3 g (by simp), hK3 gb (by simp)⟩
              have HW2 := hide (two_write2 P bs hH3 rfl rfl HNE.out HNQ.out (by omega) HFRL.out)
              refine ⟨_, rfl, hS3, ?_⟩
              simp only [Act.put, List.setIfInBounds_toArray, List.set_cons_zero, List.set_cons_succ]
              refine step_call3_to 10 118 15 rfl (by kernel_rfl) rfl (by rfl) (.tmp 113) (.tmp 115) (.tmp 117) _ rfl _ _ _ rfl rfl rfl Try.enters15 (HW2.out) ?_
              rintro e x4 ⟨rfl, hT4, hK4⟩
              have hS4 : x4.heap[g]? = x2.heap[g]? ∧ x4.heap[gb]? = x2.heap[gb]? := ⟨(hK4 g (by simp)).trans hS3.1, (hK4 gb (by simp)).trans hS3.2⟩
              refine ⟨_, rfl, hS4, ?_⟩
              simp only [Act.put, List.setIfInBounds_toArray, List.set_cons_zero, List.set_cons_succ]
              refine step_to 11 119 (.bool true) x4 rfl (by kernel_rfl) rfl (by rfl) (op_eql3 _ _ (.tmp 112) (.tmp 118) 3 rfl _ _ rfl rfl _ (by simp)) hS4 ?_
              simp only [Act.put, List.setIfInBounds_toArray, List.set_cons_zero, List.set_cons_succ]
              refine step_to 12 19 (.bool true) x4 rfl (by kernel_rfl) rfl (by rfl) (rfl) hS4 ?_
              simp only [Act.put, List.setIfInBounds_toArray, List.set_cons_zero, List.set_cons_succ]
              refine wpAnyH_done (by kernel_rfl) ?_ _
              have HT4 := hide hT4
              have hnear := near_fwrite D fr n failed P bs
              have HGB4 := hide (hS4.2.trans hgb)
              clear hH hS3 hS4 hK3 hK4 hH3 hT4 HW2 HW1
              obtain ⟨f5, D5, hX5⟩ : ∃ f5 D5, (D.fwrite fr n failed P bs).2.1 = f5 ∧ (D.fwrite fr n failed P bs).2.2 = D5 := ⟨_, _, rfl, rfl⟩
              rw [hX5.1, hX5.2] at HT4
              rw [hX5.2] at hnear
              clear hX5
              have hcs : ∃ cs : Array Value, x4.heap[gb]? = some (.cells cs 5 (0, 0)) ∧ cs.size = 512 := ⟨_, HGB4.out, by rw [List.size_toArray, length_secCells, HBL.out]⟩
              have HCS := hide hcs
              clear HGB4 hcs hgb c1x
              go_wp2_with fail
              go_loopw [21] (fun jv wx => ∃ j : Nat, j ≤ 512 ∧ jv = .int .i64 j ∧ Two w1 wx p r fr n q qm f5 [gb, g] D5 ∧ ∃ cs : Array Value, wx.heap[gb]? = some (.cells cs 5 (0, 0)) ∧ cs.size = 512) (fun jv _ => 513 - (intOf jv).toNat)
              case atStart => exact ⟨0, by omega, rfl, HT4.out, HCS.out⟩
              case round =>
                clear HT4 HCS
                obtain ⟨j, hj, rfl, hT, cs, hcs, hsz⟩ := hrel
                have HT := hide hT
                clear hT
                by_cases hlt : j < 512
                · have hcl : wr.cell? ⟨gb, j, none⟩ = some cs[j] := by rw [cell_of_row _ _ _ _ _ _ hcs]; exact Array.getElem?_eq_getElem (by omega)
                  have hfz := frozen_of_row wr gb j _ _ hcs
                  go_wp2_with fail
                  go_roundw
                  case rel => exact ⟨j + 1, by omega, by go_num, HT.out.write (by simp) ((Off.refl [gb] wr).setCell _ _ (.inl (by simp))), _, heap_setCell_same wr gb j _ _ _ hcs, by simpa using hsz⟩
                  case measure => simp [intOf]; omega
                · go_wp2_with fail
                  go_meet
                  case rel => exact ⟨rfl, HT.out.pat (by rw [hnear.len]; exact HN.out) (by have := hnear.few; omega)⟩
          have n0 : (kind == 0) = false := beq_eq_false_iff_ne.2 e0
          by_cases e1 : kind = 1
          · as_aux_lemma =>
              subst e1
              have HRD := hide (pl_read P HT.out.dx (by simp) HT.out.fl (by omega) HFRL.out)
              have hnr := norm_fread D fr n P
              have hnear := near_fread D fr n P
              obtain ⟨bs, e1, D1, hX⟩ : ∃ bs e1 D1, D.fread fr n P = (bs, e1, D1) := ⟨_, _, _, rfl⟩
              rw [hX] at HRD hnr hnear
              have hnear : Near 10 D D1 := hnear
              have HNR := hide hnr
              clear hX hnr c0 c2 c3 c4 c5
              go_wp2_with fail
              refine HRD.out.mono ?_
              rintro e x2 ⟨v, ys, rfl, hTo, hys, hD2, hK2⟩
              have c1x : x2.cell? ⟨g, 1, none⟩ = some (.int .i64 P) := (World.cell?_of_block (a := ⟨g, 1, none⟩) (hK2.2 g (by simp) (by simp))).trans c1
              have HRR := hide (rl_read P hD2 (by simp) (hK2.2 qm (by simp) (by simp) |>.trans HT.out.rf) (by exact Nat.le_trans hWB (by omega)) (by exact HFRL.out))
              rw [HNR.out] at HRR
              have HTo := hide hTo
              have HYS := hide hys
              have HF2 : Hid (FileAt x2 q p fr n failed) := (hK2.2 q (by simp) (by simp)).trans HT.out.fl
              have HR2 : Hid (RFileAt x2 qm r fr n failed) := (hK2.2 qm (by simp) (by simp)).trans HT.out.rf
              clear HRD hTo hys hD2 hK2 c1
              go_wp2_with fail
              refine HRR.out.mono ?_
              rintro e x3 ⟨rfl, hD3, hK3⟩
              have st : (convert 31 9 v).run Try.prog x3 = .ok (.string (strOf bs)) x3 := by
                refine told_str ?_
                rcases HTo.out with h | ⟨gg, rfl, h1, h2⟩
                · exact .inl h
                · exact .inr ⟨gg, rfl, h1, (hK3.2 gg (List.mem_append_left _ (HYS.out gg rfl)) (by simp)).trans h2⟩
              have HT3 : Hid (Two w1 x3 p r fr n q qm failed [] D1) := ⟨hD3.mind (fun k hk => List.mem_append_right _ (by simp at hk; simp; rcases hk with h | h <;> simp [h])), (hK3.2 q (by simp) (by simp)).trans HF2.out, (hK3.2 qm (by simp) (by simp)).trans HR2.out, HT.out.ne, by simp⟩
              clear HRR hD3 hK3 HTo HYS HF2 HR2 HNR c1x
              generalize strOf bs = SB at *
              go_wp2_with fail
              go_meet
              case rel => exact ⟨by simp, HT3.out.pat (by rw [hnear.len]; exact HN.out) (by have := hnear.few; omega)⟩
          have n1 : (kind == 1) = false := beq_eq_false_iff_ne.2 e1
          by_cases e2 : kind = 2
          · as_aux_lemma =>
              subst e2
              have HCR := hide (pl_crash ka kn kc ks HT.out.dx (by omega) HKS.out)
              have hnc := norm_crash D ks
              have hnear := near_crash D ks
              obtain ⟨D1, hX⟩ : ∃ D1, D.crashed ks = D1 := ⟨_, rfl⟩
              rw [hX] at HCR hnc hnear
              have HNC := hide hnc
              have hW1 := hnear.few
              have hL1 := hnear.len
              clear hX hnc c0 c1 c2 c3 c4 hnear
              go_wp2_with fail
              refine HCR.out.mono ?_
              rintro e x2 ⟨rfl, hD2, hK2⟩
              have c5x : x2.cell? ⟨g, 5, none⟩ = some (.slice ka kn kc) := (World.cell?_of_block (a := ⟨g, 5, none⟩) (hK2.2 g (by simp) (by simp))).trans c5
              have HRC := hide (rl_crash ka kn kc ks hD2 (by exact Nat.le_trans hWB (by omega)) HKS.out)
              rw [HNC.out] at HRC
              clear HCR hD2 hK2 c5
              go_wp2_with fail
              refine HRC.out.mono ?_
              rintro e x3 ⟨rfl, hD3, hK3⟩
              have hD3 := hD3.mind (ys := []) (by simp)
              have HOP := hide (pl_open fr n hD3 HN1.out (by omega) (by rw [hL1]; exact HFRL.out))
              have hnm := norm_mend D1 fr n
              have hnear2 := near_mend D1 fr n
              obtain ⟨⟨x, D2⟩, hX⟩ : ∃ X, D1.mend fr n = X := ⟨_, rfl⟩
              rw [hX] at HOP hnm hnear2
              have hnear2 : Near 5 D1 D2 := hnear2
              have HNM := hide hnm
              clear HRC hD3 hK3 c5x hX hnm
              by_cases hx : x = 0
              · subst hx
                go_wp2_with fail
                refine HOP.out.mono ?_
                rintro e x4 ⟨q2, rfl, hD4, hF4, _, hK4⟩
                have HRO : Hid (Calls Try.prog 14 #[.pointer (some ⟨r, 0, none⟩), .int .i64 (fr : Int), .int .i64 (n : Int)] x4 fun e w' => ∃ m2, e = .returned (.tuple #[.pointer (some ⟨m2, 0, none⟩), .int .i64 0]) ∧ DX w1 w' p r (m2 :: [q2]) D2 D2.norm ∧ RFileAt w' m2 r fr n false ∧ m2 ∉ [q2] ∧ Kept2 [q2] [] x4 w') := by
                  have := rl_open fr n hD4 HN1.out (by exact Nat.le_trans hW1 (by omega)) (by show fr + 5 + 4 * n ≤ D1.L.length; rw [hL1]; exact HFRL.out)
                  rw [HNM.out] at this
                  refine this.mono ?_
                  rintro e w' ⟨m2, rfl, hD5, hF5, hne5, hK5⟩
                  rw [if_pos (show (normP (0, D2)).1 = 0 from rfl)]
                  exact ⟨m2, rfl, hD5, hF5, hne5, hK5⟩
                have HF4 := hide hF4
                clear HOP hD4 hF4 hK4
                go_wp2_with fail
                refine HRO.out.mono ?_
                rintro e x5 ⟨m2, rfl, hD5, hF5, hne5, hK5⟩
                have HT5 : Hid (Two w1 x5 p r fr n q2 m2 false [] D2) := ⟨hD5.mind (fun k hk => by simp at hk; rcases hk with h | h <;> simp [h]), (hK5.2 q2 (by simp) (by simp)).trans HF4.out, hF5, fun e => hne5 (by simp [e]), by simp⟩
                clear HRO hD5 hF5 hne5 hK5 HF4
                go_wp2_with fail
                go_meet
                case rel => exact ⟨rfl, HT5.out.pat (by rw [hnear2.len, hL1]; exact HN.out) (by have := hnear2.few; omega)⟩
              · have HOP2 : Hid (Calls Try.prog 7 #[.pointer (some ⟨p, 0, none⟩), .int .i64 (fr : Int), .int .i64 (n : Int)] x3 fun e w' => e = .returned (.tuple #[.pointer none, .int .i64 x]) ∧ DX w1 w' p r [] D2 D1.norm) := by
                  refine HOP.out.mono ?_
                  rintro e w' ⟨q2, rfl, hD4, _, _, _⟩
                  rw [if_neg (show ¬ ((x, D2) : Int × Dv).1 = 0 from hx)]
                  exact ⟨rfl, hD4.mind (by simp)⟩
                clear HOP
                go_wp2_with fail
                refine HOP2.out.mono ?_
                rintro e x4 ⟨rfl, hD4⟩
                have HRO : Hid (Calls Try.prog 14 #[.pointer (some ⟨r, 0, none⟩), .int .i64 (fr : Int), .int .i64 (n : Int)] x4 fun e w' => e = .returned (.tuple #[.pointer none, .int .i64 x]) ∧ DX w1 w' p r [] D2 D2.norm) := by
                  have := rl_open fr n hD4 HN1.out (by exact Nat.le_trans hW1 (by omega)) (by show fr + 5 + 4 * n ≤ D1.L.length; rw [hL1]; exact HFRL.out)
                  rw [HNM.out] at this
                  refine this.mono ?_
                  rintro e w' ⟨q2, rfl, hD5, _, _, _⟩
                  rw [if_neg (show ¬ (normP (x, D2)).1 = 0 from hx)]
                  exact ⟨rfl, hD5.mind (by simp)⟩
                clear HOP2 hD4
                go_wp2_with fail
                refine HRO.out.mono ?_
                rintro e x5 ⟨rfl, hD5⟩
                have HD5 := hide hD5
                clear HRO hD5
                go_wp2_with fail
                go_meet
                case rel => exact ⟨by simp, D2, by rw [hnear2.len, hL1]; exact HN.out, by have := hnear2.few; omega, .inl ⟨rfl, rfl, HD5.out⟩⟩
          have n2 : (kind == 2) = false := beq_eq_false_iff_ne.2 e2
          by_cases e3 : kind = 3
          · as_aux_lemma =>
              subst e3
              have HFU := hide (pl_fuse A HT.out.dx HLO.out HHI.out)
              have HLO2 : Hid (-9223372036854775808 ≤ max A (-1) ∧ max A (-1) ≤ 9223372036854775807) := ⟨by omega, by have := HHI.out; omega⟩
              clear c0 c1 c3 c4 c5
              go_wp2_with fail
              refine HFU.out.mono ?_
              rintro e x2 ⟨rfl, hD2, hK2⟩
              have c2x : x2.cell? ⟨g, 2, none⟩ = some (.int .i64 A) := (World.cell?_of_block (a := ⟨g, 2, none⟩) (hK2.2 g (by simp) (by simp))).trans c2
              obtain ⟨⟨vv, hcr⟩, hfz, hD3, hK3⟩ := rl_fuse (max A (-1)) hD2 HLO2.out.1 HLO2.out.2
              have HD3 := hide hD3
              have HK := hide (hK2.trans hK3)
              clear HFU hD2 hK2 hD3 hK3 c2
              by_cases hA : A < -1
              · have hm : max A (-1) = -1 := by omega
                rw [hm] at HD3 HK
                have HD4 : Hid (DX w1 (x2.setCell ⟨r, 2, none⟩ (.int .i64 (-1))) p r (q :: qm :: [g]) { D with fuse := A } ({ D with fuse := A } : Dv).norm) := by
                  show DX _ _ _ _ _ _ _
                  rw [norm_fuse, hm]
                  exact HD3.out
                have hd : decide (A < -1) = true := by simpa using hA
                go_wp2_with fail
                go_meet
                case rel => exact ⟨rfl, (Two.mk HD4.out ((HK.out.2 q (by simp) (by simp)).trans HT.out.fl) ((HK.out.2 qm (by simp) (by simp)).trans HT.out.rf) HT.out.ne HT.out.nq).pat HN.out (by show D.W.length ≤ _; omega)⟩
              · have hm : max A (-1) = A := by omega
                rw [hm] at HD3 HK
                have HD4 : Hid (DX w1 (x2.setCell ⟨r, 2, none⟩ (.int .i64 A)) p r (q :: qm :: [g]) { D with fuse := A } ({ D with fuse := A } : Dv).norm) := by
                  show DX _ _ _ _ _ _ _
                  rw [norm_fuse, hm]
                  exact HD3.out
                have hd : decide (A < -1) = false := by simpa using hA
                go_wp2_with fail
                go_meet
                case rel => exact ⟨rfl, (Two.mk HD4.out ((HK.out.2 q (by simp) (by simp)).trans HT.out.fl) ((HK.out.2 qm (by simp) (by simp)).trans HT.out.rf) HT.out.ne HT.out.nq).pat HN.out (by show D.W.length ≤ _; omega)⟩
          have n3 : (kind == 3) = false := beq_eq_false_iff_ne.2 e3
          by_cases e4 : kind = 4
          · as_aux_lemma =>
              subst e4
              go_wp2_with fail
              refine (sector_dev A B x1).mono ?_
              rintro e x2 ⟨rfl, hgb, hb2⟩
              have hT2 := HT.out.mindNew (ys := [x1.heap.size, g]) hb2 (fun k hk => by
                simp at hk
                rcases hk with rfl | rfl
                · exact .inr ⟨Nat.le_refl _, (Array.getElem?_eq_some_iff.1 hgb).1⟩
                · exact .inl (by simp))
              have c1x : x2.cell? ⟨g, 1, none⟩ = some (.int .i64 P) := (hb2.cell (p := ⟨g, 1, none⟩) hgl).trans c1
              clear hb2 c0 c1 c2 c3 c4 c5
              generalize x1.heap.size = gb at *
              have HWR := hide (pl_dwrite P gb 128 (sec A B) hT2.dx (by simp) hgb (length_sec _ _) (by omega))
              have hnw := norm_write D P (sec A B)
              have hnear := near_write D P (sec A B)
              obtain ⟨⟨x, D1⟩, hX⟩ : ∃ X, D.write P (sec A B) = X := ⟨_, rfl⟩
              rw [hX] at HWR hnw hnear
              have hnear : Near 1 D D1 := hnear
              have HNW := hide hnw
              have HT2 := hide hT2
              have HGB := hide hgb
              clear hX hnw hT2 hgb
              go_wp2_with fail
              refine HWR.out.mono ?_
              rintro e x3 ⟨rfl, hD3, hK3⟩
              have c1y : x3.cell? ⟨g, 1, none⟩ = some (.int .i64 P) := (World.cell?_of_block (a := ⟨g, 1, none⟩) (hK3.2 g (by simp) (by simp))).trans c1x
              have st := run_str x3 gb 128 128 _ (length_sec A B) ((hK3.2 gb (by simp) (by simp)).trans HGB.out)
              have HRW := hide (rl_dwrite P (sec A B) hD3 (by exact Nat.le_trans hWB (by omega)))
              rw [HNW.out] at HRW
              have HK3 := hide hK3
              clear HWR hD3 hK3 c1x HGB
              generalize sec A B = sb at *
              go_wp2_with fail
              refine HRW.out.mono ?_
              rintro e x4 ⟨rfl, hD4, hK4⟩
              have HK := hide (HK3.out.trans hK4)
              have HD4 : Hid (DX w1 x4 p r (q :: qm :: [gb, g]) D1 D1.norm) := hD4
              clear HRW hD4 hK4 HK3 st c1y
              go_wp2_with fail
              go_meet
              case rel => exact ⟨rfl, (Two.mk HD4.out ((HK.out.2 q (by simp) (by simp)).trans HT2.out.fl) ((HK.out.2 qm (by simp) (by simp)).trans HT2.out.rf) HT2.out.ne HT2.out.nq).pat (by rw [hnear.len]; exact HN.out) (by have := hnear.few; omega)⟩
          have n4 : (kind == 4) = false := beq_eq_false_iff_ne.2 e4
          by_cases e5 : kind = 5
          · as_aux_lemma =>
              subst e5
              obtain ⟨m, hm, hm1⟩ : ∃ m : Nat, (max 0 S).tmod 1000 = (m : Int) ∧ m < 1000 := by
                refine ⟨((max 0 S) % 1000).toNat, ?_, ?_⟩
                · rw [Int.tmod_eq_emod_of_nonneg (by omega)]
                  omega
                · omega
              have hb2 : Below x1.heap.size x1 (x1.alloc (.cells (secCells (zerosN m)).toArray 5)) := (Below.refl _ _).alloc (Nat.le_refl _) _
              have hgb : (x1.alloc (.cells (secCells (zerosN m)).toArray 5)).heap[x1.heap.size]? = some (.cells (secCells (zerosN m)).toArray 5 (0, 0)) := heap_alloc_new _ _
              obtain ⟨x2, hx2⟩ : ∃ x2, x1.alloc (.cells (secCells (zerosN m)).toArray 5) = x2 := ⟨_, rfl⟩
              have hmk : (Instr.makeSlice 31 (.int .i64 (m : Int)) (.int .i64 (m : Int))).run Try.prog x1 = .ok (.slice (some ⟨x1.heap.size, 0, none⟩) m m) x2 := by rw [← hx2]; exact makeN m (by omega) x1
              rw [hx2] at hb2 hgb
              clear hx2
              have HBL := hide (length_zerosN m)
              have hT2 := HT.out.mindNew (ys := [x1.heap.size, g]) hb2 (fun k hk => by
                simp at hk
                rcases hk with rfl | rfl
                · exact .inr ⟨Nat.le_refl _, (Array.getElem?_eq_some_iff.1 hgb).1⟩
                · exact .inl (by simp))
              have c1x : x2.cell? ⟨g, 1, none⟩ = some (.int .i64 P) := (hb2.cell (p := ⟨g, 1, none⟩) hgl).trans c1
              clear hb2 c0 c1 c2 c3 c5
              obtain ⟨bs, hbs⟩ : ∃ bs, zerosN m = bs := ⟨_, rfl⟩
              rw [hbs] at hgb HBL
              clear hbs
              have HNE := hide hT2.ne
              have HNQ := hide hT2.nq
              have HW1 := hide (fun d => two_write1 P x1.heap.size m m bs (hT2.belowW (below_drewN _ _ d)) (by simp) hgb HBL.out (by omega) (by omega) HFRL.out)
              clear hT2
              generalize x1.heap.size = gb at *
              by_cases hS : S ≤ 0
              · have hm0 : max 0 S = 0 := by omega
                rw [hm0] at hm
                have hmz : m = 0 := by
                  have : ((0 : Int)).tmod 1000 = 0 := by decide
                  omega
                subst hmz
                clear hm
                have hmk0 : (Instr.makeSlice 31 (.int .i64 0) (.int .i64 0)).run Try.prog x1 = .ok (.slice (some ⟨gb, 0, none⟩) 0 0) x2 := hmk
                go_wp2_with fail
                refine wp_region_held_drew (S := fun w' => w'.heap[g]? = x2.heap[g]? ∧ w'.heap[gb]? = x2.heap[gb]?) (by kernel_rfl) ⟨rfl, rfl⟩ (fun hH => ?_)
                refine take_to 0 223 (.pointer (some ⟨q, 0, none⟩)) rfl (by kernel_rfl) (by kernel_rfl) (by kernel_rfl) (fun _ _ _ h => h) rfl (by rfl) (fun w hw => by rfl) hH ?_
                simp only [Act.put, List.setIfInBounds_toArray, List.set_cons_zero, List.set_cons_succ]
                refine take_to 1 224 (.pointer (some ⟨g, 1, none⟩)) rfl (by kernel_rfl) (by kernel_rfl) (by kernel_rfl) (fun _ _ _ h => h) rfl (by rfl) (fun w hw => by kernel_rfl) hH ?_
                simp only [Act.put, List.setIfInBounds_toArray, List.set_cons_zero, List.set_cons_succ]
                refine take_to 2 225 (.int .i64 P) rfl (by kernel_rfl) (by kernel_rfl) (by kernel_rfl) (fun _ _ _ h => h) rfl (by rfl) (fun w hw => op_load _ _ 3 (.tmp 224) rfl (.pointer (some ⟨g, 1, none⟩)) _ rfl (run_load3 w g 1 _ ((World.cell?_of_block (a := ⟨g, 1, none⟩) hw.1).trans c1x))) hH ?_
                simp only [Act.put, List.setIfInBounds_toArray, List.set_cons_zero, List.set_cons_succ]
                refine take_to 3 226 (.slice (some ⟨gb, 0, none⟩) 0 0) rfl (by kernel_rfl) (by kernel_rfl) (by kernel_rfl) (fun _ _ _ h => h) rfl (by rfl) (fun w hw => by rfl) hH ?_
                simp only [Act.put, List.setIfInBounds_toArray, List.set_cons_zero, List.set_cons_succ]
                refine take_to 5 228 (.pointer (some ⟨qm, 0, none⟩)) rfl (by kernel_rfl) (by kernel_rfl) (by kernel_rfl) (fun _ _ _ h => h) rfl (by rfl) (fun w hw => by rfl) hH ?_
                simp only [Act.put, List.setIfInBounds_toArray, List.set_cons_zero, List.set_cons_succ]
                refine take_to 6 229 (.pointer (some ⟨g, 1, none⟩)) rfl (by kernel_rfl) (by kernel_rfl) (by kernel_rfl) (fun _ _ _ h => h) rfl (by rfl) (fun w hw => by kernel_rfl) hH ?_
                simp only [Act.put, List.setIfInBounds_toArray, List.set_cons_zero, List.set_cons_succ]
                refine take_to 7 230 (.int .i64 P) rfl (by kernel_rfl) (by kernel_rfl) (by kernel_rfl) (fun _ _ _ h => h) rfl (by rfl) (fun w hw => op_load _ _ 3 (.tmp 229) rfl (.pointer (some ⟨g, 1, none⟩)) _ rfl (run_load3 w g 1 _ ((World.cell?_of_block (a := ⟨g, 1, none⟩) hw.1).trans c1x))) hH ?_
                simp only [Act.put, List.setIfInBounds_toArray, List.set_cons_zero, List.set_cons_succ]
                refine take_to 8 231 (.slice (some ⟨gb, 0, none⟩) 0 0) rfl (by kernel_rfl) (by kernel_rfl) (by kernel_rfl) (fun _ _ _ h => h) rfl (by rfl) (fun w hw => by rfl) hH ?_
                simp only [Act.put, List.setIfInBounds_toArray, List.set_cons_zero, List.set_cons_succ]
                refine take_to 9 232 (.string (strOf bs)) rfl (by kernel_rfl) (by kernel_rfl) (by kernel_rfl) (fun _ _ _ h => h) rfl (by rfl) (fun w hw => op_conv _ _ 31 9 (.tmp 231) rfl _ _ rfl (run_str w gb _ _ _ HBL.out (hw.2.trans hgb))) hH ?_
                simp only [Act.put, List.setIfInBounds_toArray, List.set_cons_zero, List.set_cons_succ]
                refine step_call3_to 4 227 9 rfl (by kernel_rfl) rfl (by rfl) (.tmp 223) (.tmp 225) (.tmp 226) _ rfl _ _ _ rfl rfl rfl Try.enters9 (HW1.out 1) ?_
                rintro e x3 ⟨rfl, hH3, hK3⟩
                have hS3 : x3.heap[g]? = x2.heap[g]? ∧ x3.heap[gb]? = x2.heap[gb]? := ⟨hK3 g (by simp), hK3 gb (by simp)⟩
                have HW2 := hide (two_write2 P bs hH3 rfl rfl HNE.out HNQ.out (by omega) HFRL.out)
                refine ⟨_, rfl, hS3, ?_⟩
                simp only [Act.put, List.setIfInBounds_toArray, List.set_cons_zero, List.set_cons_succ]
                refine step_call3_to 10 233 15 rfl (by kernel_rfl) rfl (by rfl) (.tmp 228) (.tmp 230) (.tmp 232) _ rfl _ _ _ rfl rfl rfl Try.enters15 (HW2.out) ?_
                rintro e x4 ⟨rfl, hT4, hK4⟩
                have hS4 : x4.heap[g]? = x2.heap[g]? ∧ x4.heap[gb]? = x2.heap[gb]? := ⟨(hK4 g (by simp)).trans hS3.1, (hK4 gb (by simp)).trans hS3.2⟩
                refine ⟨_, rfl, hS4, ?_⟩
                simp only [Act.put, List.setIfInBounds_toArray, List.set_cons_zero, List.set_cons_succ]
                refine step_to 11 234 (.bool true) x4 rfl (by kernel_rfl) rfl (by rfl) (op_eql3 _ _ (.tmp 227) (.tmp 233) 3 rfl _ _ rfl rfl _ (by simp)) hS4 ?_
                simp only [Act.put, List.setIfInBounds_toArray, List.set_cons_zero, List.set_cons_succ]
                refine step_to 12 19 (.bool true) x4 rfl (by kernel_rfl) rfl (by rfl) (rfl) hS4 ?_
                simp only [Act.put, List.setIfInBounds_toArray, List.set_cons_zero, List.set_cons_succ]
                refine wpAnyH_done (by kernel_rfl) ?_ _
                have HT4 := hide hT4
                have hnear := near_fwrite D fr n failed P bs
                have HGB4 := hide (hS4.2.trans hgb)
                clear hH hS3 hS4 hK3 hK4 hH3 hT4 HW2 HW1
                clear c1x hgb HGB4
                go_wp2_with fail
                go_meet
                case rel => exact ⟨by simp, HT4.out.pat (by rw [hnear.len]; exact HN.out) (by have := hnear.few; omega)⟩
              · have hm0 : max 0 S = S := by omega
                rw [hm0] at hm
                have hS2 : 0 < S := by omega
                have hm2 : S % 1000 = (m : Int) := by rw [← hm, Int.tmod_eq_emod_of_nonneg (by omega)]
                clear hm
                go_wp2_with fail
                refine wp_region_held_drew (S := fun w' => w'.heap[g]? = x2.heap[g]? ∧ w'.heap[gb]? = x2.heap[gb]?) (by kernel_rfl) ⟨rfl, rfl⟩ (fun hH => ?_)
                refine take_to 0 223 (.pointer (some ⟨q, 0, none⟩)) rfl (by kernel_rfl) (by kernel_rfl) (by kernel_rfl) (fun _ _ _ h => h) rfl (by rfl) (fun w hw => by rfl) hH ?_
                simp only [Act.put, List.setIfInBounds_toArray, List.set_cons_zero, List.set_cons_succ]
                refine take_to 1 224 (.pointer (some ⟨g, 1, none⟩)) rfl (by kernel_rfl) (by kernel_rfl) (by kernel_rfl) (fun _ _ _ h => h) rfl (by rfl) (fun w hw => by kernel_rfl) hH ?_
                simp only [Act.put, List.setIfInBounds_toArray, List.set_cons_zero, List.set_cons_succ]
                refine take_to 2 225 (.int .i64 P) rfl (by kernel_rfl) (by kernel_rfl) (by kernel_rfl) (fun _ _ _ h => h) rfl (by rfl) (fun w hw => op_load _ _ 3 (.tmp 224) rfl (.pointer (some ⟨g, 1, none⟩)) _ rfl (run_load3 w g 1 _ ((World.cell?_of_block (a := ⟨g, 1, none⟩) hw.1).trans c1x))) hH ?_
                simp only [Act.put, List.setIfInBounds_toArray, List.set_cons_zero, List.set_cons_succ]
                refine take_to 3 226 (.slice (some ⟨gb, 0, none⟩) m m) rfl (by kernel_rfl) (by kernel_rfl) (by kernel_rfl) (fun _ _ _ h => h) rfl (by rfl) (fun w hw => by rfl) hH ?_
                simp only [Act.put, List.setIfInBounds_toArray, List.set_cons_zero, List.set_cons_succ]
                refine take_to 5 228 (.pointer (some ⟨qm, 0, none⟩)) rfl (by kernel_rfl) (by kernel_rfl) (by kernel_rfl) (fun _ _ _ h => h) rfl (by rfl) (fun w hw => by rfl) hH ?_
                simp only [Act.put, List.setIfInBounds_toArray, List.set_cons_zero, List.set_cons_succ]
                refine take_to 6 229 (.pointer (some ⟨g, 1, none⟩)) rfl (by kernel_rfl) (by kernel_rfl) (by kernel_rfl) (fun _ _ _ h => h) rfl (by rfl) (fun w hw => by kernel_rfl) hH ?_
                simp only [Act.put, List.setIfInBounds_toArray, List.set_cons_zero, List.set_cons_succ]
                refine take_to 7 230 (.int .i64 P) rfl (by kernel_rfl) (by kernel_rfl) (by kernel_rfl) (fun _ _ _ h => h) rfl (by rfl) (fun w hw => op_load _ _ 3 (.tmp 229) rfl (.pointer (some ⟨g, 1, none⟩)) _ rfl (run_load3 w g 1 _ ((World.cell?_of_block (a := ⟨g, 1, none⟩) hw.1).trans c1x))) hH ?_
                simp only [Act.put, List.setIfInBounds_toArray, List.set_cons_zero, List.set_cons_succ]
                refine take_to 8 231 (.slice (some ⟨gb, 0, none⟩) m m) rfl (by kernel_rfl) (by kernel_rfl) (by kernel_rfl) (fun _ _ _ h => h) rfl (by rfl) (fun w hw => by rfl) hH ?_
                simp only [Act.put, List.setIfInBounds_toArray, List.set_cons_zero, List.set_cons_succ]
                refine take_to 9 232 (.string (strOf bs)) rfl (by kernel_rfl) (by kernel_rfl) (by kernel_rfl) (fun _ _ _ h => h) rfl (by rfl) (fun w hw => op_conv _ _ 31 9 (.tmp 231) rfl _ _ rfl (run_str w gb _ _ _ HBL.out (hw.2.trans hgb))) hH ?_
                simp only [Act.put, List.setIfInBounds_toArray, List.set_cons_zero, List.set_cons_succ]
                refine step_call3_to 4 227 9 rfl (by kernel_rfl) rfl (by rfl) (.tmp 223) (.tmp 225) (.tmp 226) _ rfl _ _ _ rfl rfl rfl Try.enters9 (HW1.out 1) ?_
                rintro e x3 ⟨rfl, hH3, hK3⟩
                have hS3 : x3.heap[g]? = x2.heap[g]? ∧ x3.heap[gb]? = x2.heap[gb]? := ⟨hK3 g (by simp), hK3 gb (by simp)⟩
                have HW2 := hide (two_write2 P bs hH3 rfl rfl HNE.out HNQ.out (by omega) HFRL.out)
                refine ⟨_, rfl, hS3, ?_⟩
                simp only [Act.put, List.setIfInBounds_toArray, List.set_cons_zero, List.set_cons_succ]
                refine step_call3_to 10 233 15 rfl (by kernel_rfl) rfl (by rfl) (.tmp 228) (.tmp 230) (.tmp 232) _ rfl _ _ _ rfl rfl rfl Try.enters15 (HW2.out) ?_
                rintro e x4 ⟨rfl, hT4, hK4⟩
                have hS4 : x4.heap[g]? = x2.heap[g]? ∧ x4.heap[gb]? = x2.heap[gb]? := ⟨(hK4 g (by simp)).trans hS3.1, (hK4 gb (by simp)).trans hS3.2⟩
                refine ⟨_, rfl, hS4, ?_⟩
                simp only [Act.put, List.setIfInBounds_toArray, List.set_cons_zero, List.set_cons_succ]
                refine step_to 11 234 (.bool true) x4 rfl (by kernel_rfl) rfl (by rfl) (op_eql3 _ _ (.tmp 227) (.tmp 233) 3 rfl _ _ rfl rfl _ (by simp)) hS4 ?_
                simp only [Act.put, List.setIfInBounds_toArray, List.set_cons_zero, List.set_cons_succ]
                refine step_to 12 19 (.bool true) x4 rfl (by kernel_rfl) rfl (by rfl) (rfl) hS4 ?_
                simp only [Act.put, List.setIfInBounds_toArray, List.set_cons_zero, List.set_cons_succ]
                refine wpAnyH_done (by kernel_rfl) ?_ _
                have HT4 := hide hT4
                have hnear := near_fwrite D fr n failed P bs
                have HGB4 := hide (hS4.2.trans hgb)
                clear hH hS3 hS4 hK3 hK4 hH3 hT4 HW2 HW1
                clear c1x hgb HGB4
                go_wp2_with fail
                go_meet
                case rel => exact ⟨by simp, HT4.out.pat (by rw [hnear.len]; exact HN.out) (by have := hnear.few; omega)⟩
          have n5 : (kind == 5) = false := beq_eq_false_iff_ne.2 e5
          go_wp2_with fail
          go_meet
          case rel => exact ⟨rfl, HT.out.pat HN.out (by omega)⟩
        case rest =>
          as_aux_lemma =>
            obtain ⟨hok, hP⟩ := hcut
            subst hok
            obtain ⟨D, hL, hW, hcase⟩ := hP.st
            clear hP
            rcases hcase with ⟨rfl, rfl, hD⟩ | ⟨q, qm, failed, rfl, rfl, hT⟩
            · have HSA := hide (same_any hD (by omega))
              clear hD
              go_wp2_with fail
              refine HSA.out.mono ?_
              rintro e w8 ⟨rfl, D', hD', hAl, hK⟩
              have HD' := hide hD'
              have HAL := hide hAl
              clear HSA hD' hAl hK
              go_wp2_with fail
              go_roundw
              case rel => exact ⟨k + 1, by omega, by go_num, D', by rw [HAL.out.L]; exact hL, by rw [HAL.out.W]; omega, .inl ⟨rfl, rfl, HD'.out⟩⟩
              case measure => simp [intOf]; omega
            · have HSA := hide (same_any hT.dx (by omega))
              have HPA := hide (pages_any hT.fl)
              have HT := hide hT
              clear hT
              go_wp2_with (first | (go_at_call 23; refine HPA.out.mono ?_; rintro e w' ⟨rfl, hw⟩; have hw := hw.symm; subst hw) | fail)
              refine HSA.out.mono ?_
              rintro e w8 ⟨rfl, D', hD', hAl, hK⟩
              have HT8 : Hid (Two w1 w8 p r fr n q qm failed [] D') := ⟨hD', (hK.2 q (by simp) (by simp)).trans HT.out.fl, (hK.2 qm (by simp) (by simp)).trans HT.out.rf, HT.out.ne, by simp⟩
              have HAL := hide hAl
              clear HSA hD' hAl hK HT HPA
              go_wp2_with fail
              go_roundw
              case rel => exact ⟨k + 1, by omega, by go_num, D', by rw [HAL.out.L]; exact hL, by rw [HAL.out.W]; omega, .inr ⟨q, qm, failed, rfl, rfl, HT8.out⟩⟩
              case measure => simp [intOf]; omega
      · by_cases hl0 : k < len
        · have hl1 : ¬ k < 40 := fun h => hgo ⟨hl0, h⟩
          clear hgo
          go_wp2_with fail
          go_ret
          exact ⟨rfl, HBW.out⟩
        · clear hgo
          go_wp2_with fail
          go_ret
          exact ⟨rfl, HBW.out⟩
end Go.Proofs.Ytkdlggobbkedmaa
