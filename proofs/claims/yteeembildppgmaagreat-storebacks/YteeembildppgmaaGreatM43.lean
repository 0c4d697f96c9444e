/- A part of it: SBcW. -/
import Derived.Test.YteeembildppgmaaGreatM0
import Derived.Test.YteeembildppgmaaGreatM39
import Derived.Test.YteeembildppgmaaGreatM42
namespace Go.Proofs.YteeembildppgmaaGreat
open Go.RowKit
set_option linter.unusedVariables false
set_option linter.unusedSimpArgs false
theorem WOp.first200 {w : World} {b o k : Nat} {P F : Int} {da : Option Addr} {dn dc : Nat} {bs : List UInt8} (h : WOp w b o k P F da dn dc bs) (hd : 200 < dn) : ∃ g o', da = some ⟨g, o', none⟩ ∧ g < w.heap.size ∧ w.rangeAt g o' (secCells (bs.take 200)) := by
 obtain ⟨g, o', e, hg, hr⟩ := h.rd (by omega)
 refine ⟨g, o', e, hg, fun j v hv => hr j v ?_⟩
 rw [secCells_take] at hv
 by_cases hj : j < 200
 · rwa [List.getElem?_take_of_lt hj] at hv
 · rw [List.getElem?_take_eq_none (by omega)] at hv
   cases hv
theorem rem_in5 (z : Int) : ∃ q : Nat, q < 5 ∧ (z.tmod 5 + 5).tmod 5 = (q : Int) ∧ IntKind.i64.wrap (z.tmod 5 + 5) = z.tmod 5 + 5 := mod_in z 5 (by omega) (by omega)
structure Bc1 (w0 w : World) (s : Nat) (c : Cf) (p : Int) (av : ByteArray) (WB : Nat) : Prop where
 is : ∃ S T V rs Ms, StAt w0 w s c [] S ∧ BcI c S T V rs Ms 1418 WB ∧ MkL T rs Ms ∧ (1, dat V0) ∈ Ms ∧ (p = 0 ∨ ∃ (m : Nat) (Dm : Dt), p = (m : Int) ∧ 1 ≤ m ∧ (m, Dm) ∈ Ms ∧ av = strOf (areaN Dm 5) ∧ ∀ x ∈ Ms, x.1 ≤ m)
set_option maxHeartbeats 8000000 in
set_option maxRecDepth 100000 in
theorem backs_walk {w : World} {a1 : Option Addr} {n1 c1 : Nat} (mk : Int) (hW : IsW w a1 n1) :
 Calls Tryz.prog 7 #[.slice a1 n1 c1, .int .i64 mk] w fun e w' => e = .returned (.bool true) ∧ Below w.heap.size w w' := by
 have HO := hide (lopen_new (N := 128) (m := 8) w (by omega) (by omega) (by omega) (by omega))
 have HW := hide hW
 have hn1 := hW.1
 clear hW
 obtain ⟨bv, hbv⟩ : ∃ bv, strOf (areaN (dat V0) 5) = bv := ⟨_, rfl⟩
 have HBV := hide hbv
 clear hbv
 go_enter Tryz.func7, Tryz.ntmps7
 go_wp2_with (first
  | (go_at_call 9; refine HO.out.mono ?_; rintro e W1 ⟨s, c, rfl, _, hn, h⟩; have HN := hide (show c.n = 22 from hn)
     have hi : PInv c.n (St.new 128 8).pool V0 := by rw [HN.out]; exact made_inv 128 8 (by omega) (by omega)
     have HAR := hide (area5_ok h hi (by show 0 + 5 ≤ _; omega) (by rw [HN.out]; omega))
     rw [HBV.out] at HAR
     clear h hn HO hi)
  | (go_at_call 12; refine HAR.out.mono ?_; rintro e W2 ⟨rfl, ⟨pl, k1, k2, k3, k4, k5⟩, kk⟩
     have HBG := hide (bc_begin k1 rfl k2 k3.held k3.start (by obtain ⟨f, hf⟩ := k3; show pl.fo.1.n = 32; rw [hf]; rfl) rfl rfl rfl k5 (Nat.le_trans k4 (by show 0 + 5 ≤ 5; omega)))
     clear k1 k2 k3 k4 k5 kk HAR)
  | (go_at_call 10; refine HBG.out.mono ?_; rintro e W3 ⟨rfl, S, T, rs, h, I, L, _⟩; have HST : Hid (Bc1 w W3 s c 0 { data := #[] } (5 + 10 * 0)) := ⟨S, T, V0, rs, _, h, I, L, by simp, .inl rfl⟩; clear h I L HBG S T rs))
 go_loopw [13, 11, 12] (fun i pv sv wr => ∃ (j : Nat) (p : Int) (av : ByteArray), j ≤ n1 ∧ j ≤ 60 ∧ i = .int .i64 (j : Int) ∧ pv = .int .i64 p ∧ sv = .string av ∧ Hid (Bc1 w wr s c p av (5 + 10 * j))) (fun i _ _ _ => n1 - (intOf i).toNat)
 case atStart => exact ⟨0, 0, _, by omega, by omega, rfl, rfl, rfl, HST.out⟩
 case round =>
  obtain ⟨j, p, av, hjn, hj60, rfl, rfl, rfl, HM⟩ := hrel
  clear HST
  by_cases hn : j < n1
  · by_cases h60 : j < 60
    · go_upto_region 12 with fail
      cases hmk : ((j : Int) == mk) with
      | true =>
        obtain ⟨S, T, V, rs, Ms, ⟨tb, ov, ps, uvs, h⟩, I, L, hD0, hpm⟩ := HM.out.is
        have hT : S.txs[0]? = some T := by rw [I.txs]; rfl
        obtain ⟨gg, x, uv, vs, cc, hov, hx, hu, t, hcell⟩ := h.txAt 0 _ hT
        have HSV := hide (save_ok h hx hT hu (fun j U hj => by omega) 1 (by rw [I.id]; rfl))
        have HAR := hide (bc_area h I HN.out (by omega))
        have HI := hide (And.intro L hD0)
        have h1l : 1 ≤ T.last := L.ms _ hD0
        clear h I L hT hx hu t hcell hov HM hD0 hpm
        go_upto_region 18 with (first
         | (go_at_call 11; refine HSV.out.mono ?_; rintro e w' ⟨rfl, hw⟩; have hw := hw.symm; subst hw)
         | (go_at_call 12; refine HAR.out.mono ?_; rintro e W6 ⟨rfl, S2, h2, I2, k2⟩; have HB6 := hide h2.below; have HM6 : Hid (Bc1 w W6 s c (T.last : Int) (strOf (areaN (dat V) 5)) (5 + 10 * j + 5)) := ⟨S2, T, V, rs, Ms ++ [(T.last, dat V)], h2.at, (I2.mark HI.out.1).1, (I2.mark HI.out.1).2, by simp [HI.out.2], .inr ⟨T.last, dat V, rfl, h1l, by simp, rfl, (I2.mark HI.out.1).2.ms⟩⟩; clear h2 I2 k2 HAR HSV))
        generalize (T.last : Int) = p at *
        generalize strOf (areaN (dat V) 5) = av at *
        clear HI h1l hmk
        as_aux_lemma =>
         obtain ⟨b, o, P, F, da, dn, dc, bs, ea, hb0, op⟩ := HW.out.2 j hn
         subst ea
         have OP := hide op
         clear op
         have cD6 : W6.cell? ⟨b, o + j * 7 + 6, none⟩ = some (.slice da dn dc) := (HB6.out.cell (p := ⟨b, _, none⟩) hb0).trans OP.out.cD
         by_cases h200 : 200 < dn
         · have hcut : (Instr.sliceAt 36 (.slice da dn dc) none (some (.int .i64 200)) none).run Tryz.prog W6 = .ok (.slice da 200 dc) W6 := Enc.run_cut_to W6 da dn dc 200 (by have := OP.out.cap; omega)
           have hgt : (200 : Int) < (dn : Int) := by omega
           go_upto_region 21 with fail
           clear cD6
           obtain ⟨q, hq3, hqe, hqw⟩ := rem_in5 P
           obtain ⟨f8, hf8, hfe⟩ : ∃ f8 : Nat, f8 ≤ 255 ∧ F % 256 = (f8 : Int) := ⟨(F % 256).toNat, by omega, by omega⟩
           obtain ⟨S6, T6, V6, rs6, Ms, ⟨tb6, ov6, ps6, uvs6, h6⟩, I6, L6, hD6, hpm6⟩ := HM6.out.is
           have HWR := hide (bc_write (h6.belowW (below_drewN _ _ 1)) I6 L6 HN.out (by omega) q f8 hq3 hf8 da 200 dc (bs.take 200) (by rw [List.length_take, OP.out.len]; omega) (by omega) (by have := OP.out.cap; omega) OP.out.max (fun h0 => by
            obtain ⟨g', o', e1, e2, e3⟩ := OP.out.first200 h200
            exact ⟨g', o', e1, e2, rng_keep e3 e2 (HB6.out.trans ((below_drewN _ _ 1).mono HB6.out.size))⟩))
           have HPM := hide (And.intro hD6 hpm6)
           clear h6 I6 L6 hD6 hpm6 HM6
           refine wp_region_held_drew (S := fun w' => Below w.heap.size w w') (by kernel_rfl) (HB6.out.trans ((below_drewN _ _ 1).mono HB6.out.size)) (fun hH => ?_)
           refine take_to 0 92 (.pointer (some ⟨s, 0, none⟩)) rfl (by kernel_rfl) (by kernel_rfl) (by kernel_rfl) (fun _ _ _ h => h) rfl (by rfl) (fun w' hw => by rfl) hH ?_
           simp only [Act.put, zA, zB, zC]
           refine take_to 1 93 (.int .i64 1) rfl (by kernel_rfl) (by kernel_rfl) (by kernel_rfl) (fun _ _ _ h => h) rfl (by rfl) (fun w' hw => by rfl) hH ?_
           simp only [Act.put, zA, zB, zC]
           refine take_to 2 94 (.slice (some ⟨b, o, none⟩) n1 c1) rfl (by kernel_rfl) (by kernel_rfl) (by kernel_rfl) (fun _ _ _ h => h) rfl (by rfl) (fun w' hw => by rfl) hH ?_
           simp only [Act.put, zA, zB, zC]
           refine take_to 3 95 (.int .i64 (j : Int)) rfl (by kernel_rfl) (by kernel_rfl) (by kernel_rfl) (fun _ _ _ h => h) rfl (by rfl) (fun w' hw => by rfl) hH ?_
           simp only [Act.put, zA, zB, zC]
           refine take_to 4 96 (.pointer (some ⟨b, o + j * 7, none⟩)) rfl (by kernel_rfl) (by kernel_rfl) (by kernel_rfl) (fun _ _ _ h => h) rfl (by rfl) (fun w' hw => op_index _ _ 22 (.tmp 94) (.tmp 95) rfl _ _ _ rfl rfl (run_index22 w' b o n1 c1 j hn)) hH ?_
           simp only [Act.put, zA, zB, zC]
           refine take_to 5 97 (.pointer (some ⟨b, o + j * 7 + 2, none⟩)) rfl (by kernel_rfl) (by kernel_rfl) (by kernel_rfl) (fun _ _ _ h => h) rfl (by rfl) (fun w' hw => by rfl) hH ?_
           simp only [Act.put, zA, zB, zC]
           refine take_to 6 98 (.int .i64 P) rfl (by kernel_rfl) (by kernel_rfl) (by kernel_rfl) (fun _ _ _ h => h) rfl (by rfl) (fun w' hw => op_load _ _ 3 (.tmp 97) rfl (.pointer (some ⟨_, _, none⟩)) _ rfl (run_loadAny w' _ _ 3 _ Tryz.isAgg3 ((hw.cell (p := ⟨b, _, none⟩) hb0).trans OP.out.cP))) hH ?_
           simp only [Act.put, zA, zB, zC]
           refine take_to 7 99 (.int .i64 (P.tmod 5)) rfl (by kernel_rfl) (by kernel_rfl) (by kernel_rfl) (fun _ _ _ h => h) rfl (by rfl) (fun w' hw => op_rem3 _ _ (.tmp 98) (.const (.int .i64 5)) _ rfl P 5 rfl rfl _ (by omega) rfl) hH ?_
           simp only [Act.put, zA, zB, zC]
           refine take_to 8 100 (.int .i64 (P.tmod 5 + 5)) rfl (by kernel_rfl) (by kernel_rfl) (by kernel_rfl) (fun _ _ _ h => h) rfl (by rfl) (fun w' hw => op_add3 _ _ (.tmp 99) (.const (.int .i64 5)) _ rfl _ 5 rfl rfl _ hqw) hH ?_
           simp only [Act.put, zA, zB, zC]
           refine take_to 9 101 (.int .i64 (q : Int)) rfl (by kernel_rfl) (by kernel_rfl) (by kernel_rfl) (fun _ _ _ h => h) rfl (by rfl) (fun w' hw => op_rem3 _ _ (.tmp 100) (.const (.int .i64 5)) _ rfl _ 5 rfl rfl _ (by omega) hqe) hH ?_
           simp only [Act.put, zA, zB, zC]
           refine take_to 10 102 (.slice (some ⟨b, o, none⟩) n1 c1) rfl (by kernel_rfl) (by kernel_rfl) (by kernel_rfl) (fun _ _ _ h => h) rfl (by rfl) (fun w' hw => by rfl) hH ?_
           simp only [Act.put, zA, zB, zC]
           refine take_to 11 103 (.int .i64 (j : Int)) rfl (by kernel_rfl) (by kernel_rfl) (by kernel_rfl) (fun _ _ _ h => h) rfl (by rfl) (fun w' hw => by rfl) hH ?_
           simp only [Act.put, zA, zB, zC]
           refine take_to 12 104 (.pointer (some ⟨b, o + j * 7, none⟩)) rfl (by kernel_rfl) (by kernel_rfl) (by kernel_rfl) (fun _ _ _ h => h) rfl (by rfl) (fun w' hw => op_index _ _ 22 (.tmp 102) (.tmp 103) rfl _ _ _ rfl rfl (run_index22 w' b o n1 c1 j hn)) hH ?_
           simp only [Act.put, zA, zB, zC]
           refine take_to 13 105 (.pointer (some ⟨b, o + j * 7 + 3, none⟩)) rfl (by kernel_rfl) (by kernel_rfl) (by kernel_rfl) (fun _ _ _ h => h) rfl (by rfl) (fun w' hw => by rfl) hH ?_
           simp only [Act.put, zA, zB, zC]
           refine take_to 14 106 (.int .i64 F) rfl (by kernel_rfl) (by kernel_rfl) (by kernel_rfl) (fun _ _ _ h => h) rfl (by rfl) (fun w' hw => op_load _ _ 3 (.tmp 105) rfl (.pointer (some ⟨_, _, none⟩)) _ rfl (run_loadAny w' _ _ 3 _ Tryz.isAgg3 ((hw.cell (p := ⟨b, _, none⟩) hb0).trans OP.out.cF))) hH ?_
           simp only [Act.put, zA, zB, zC]
           refine take_to 15 107 (.int .i64 (f8 : Int)) rfl (by kernel_rfl) (by kernel_rfl) (by kernel_rfl) (fun _ _ _ h => h) rfl (by rfl) (fun w' hw => hfe ▸ op_and3 _ _ (.tmp 106) (.const (.int .i64 255)) _ rfl F rfl rfl) hH ?_
           simp only [Act.put, zA, zB, zC]
           refine take_to 16 108 (.slice da 200 dc) rfl (by kernel_rfl) (by kernel_rfl) (by kernel_rfl) (fun _ _ _ h => h) rfl (by rfl) (fun w' hw => by rfl) hH ?_
           simp only [Act.put, zA, zB, zC]
           refine step_call5_to 17 109 13 rfl (by kernel_rfl) rfl (by rfl) (.tmp 92) (.tmp 93) (.tmp 101) (.tmp 107) (.tmp 108) _ rfl _ _ _ _ _ rfl rfl rfl rfl rfl Tryz.enters13m HWR.out ?_
           rintro e W7 ⟨he, S7, T7, V7, rs7, h7, I7, L7, k7⟩
           have hB7 : Below w.heap.size w W7 := h7.below
           have HM7 : Hid (Bc1 w W7 s c p av (5 + 10 * (j + 1))) := ⟨S7, T7, V7, rs7, Ms, h7, I7.mono (Nat.le_refl _) (by omega), L7, HPM.out.1, HPM.out.2⟩
           clear h7 I7 L7 k7 HPM HWR
           rcases he with rfl | rfl
           · refine ⟨_, rfl, hB7, ?_⟩
             simp only [Act.put, zA, zB, zC]
             refine step_to 18 19 (.int .i64 0) W7 rfl (by kernel_rfl) rfl (by rfl) rfl hB7 ?_
             simp only [Act.put, zA, zB, zC]
             refine wpAnyH_done (by kernel_rfl) ?_ _
             clear hB7 hH
             go_wp2
             go_roundw
             case rel => exact ⟨j + 1, p, av, by omega, by omega, by go_num, rfl, rfl, HM7.out⟩
             case measure => simp [intOf] <;> omega
           · refine ⟨_, rfl, hB7, ?_⟩
             simp only [Act.put, zA, zB, zC]
             refine step_to 18 19 (.int .i64 60) W7 rfl (by kernel_rfl) rfl (by rfl) rfl hB7 ?_
             simp only [Act.put, zA, zB, zC]
             refine wpAnyH_done (by kernel_rfl) ?_ _
             clear hB7 hH
             go_wp2
             go_roundw
             case rel => exact ⟨j + 1, p, av, by omega, by omega, by go_num, rfl, rfl, HM7.out⟩
             case measure => simp [intOf] <;> omega
         · have hgt : ¬ ((200 : Int) < (dn : Int)) := by omega
           go_upto_region 21 with fail
           clear cD6
           obtain ⟨q, hq3, hqe, hqw⟩ := rem_in5 P
           obtain ⟨f8, hf8, hfe⟩ : ∃ f8 : Nat, f8 ≤ 255 ∧ F % 256 = (f8 : Int) := ⟨(F % 256).toNat, by omega, by omega⟩
           obtain ⟨S6, T6, V6, rs6, Ms, ⟨tb6, ov6, ps6, uvs6, h6⟩, I6, L6, hD6, hpm6⟩ := HM6.out.is
           have HWR := hide (bc_write (h6.belowW (below_drewN _ _ 1)) I6 L6 HN.out (by omega) q f8 hq3 hf8 da dn dc bs OP.out.len (by omega) OP.out.cap OP.out.max (fun h0 => by
            obtain ⟨g', o', e1, e2, e3⟩ := OP.out.rd h0
            exact ⟨g', o', e1, e2, rng_keep e3 e2 (HB6.out.trans ((below_drewN _ _ 1).mono HB6.out.size))⟩))
           have HPM := hide (And.intro hD6 hpm6)
           clear h6 I6 L6 hD6 hpm6 HM6
           refine wp_region_held_drew (S := fun w' => Below w.heap.size w w') (by kernel_rfl) (HB6.out.trans ((below_drewN _ _ 1).mono HB6.out.size)) (fun hH => ?_)
           refine take_to 0 92 (.pointer (some ⟨s, 0, none⟩)) rfl (by kernel_rfl) (by kernel_rfl) (by kernel_rfl) (fun _ _ _ h => h) rfl (by rfl) (fun w' hw => by rfl) hH ?_
           simp only [Act.put, zA, zB, zC]
           refine take_to 1 93 (.int .i64 1) rfl (by kernel_rfl) (by kernel_rfl) (by kernel_rfl) (fun _ _ _ h => h) rfl (by rfl) (fun w' hw => by rfl) hH ?_
           simp only [Act.put, zA, zB, zC]
           refine take_to 2 94 (.slice (some ⟨b, o, none⟩) n1 c1) rfl (by kernel_rfl) (by kernel_rfl) (by kernel_rfl) (fun _ _ _ h => h) rfl (by rfl) (fun w' hw => by rfl) hH ?_
           simp only [Act.put, zA, zB, zC]
           refine take_to 3 95 (.int .i64 (j : Int)) rfl (by kernel_rfl) (by kernel_rfl) (by kernel_rfl) (fun _ _ _ h => h) rfl (by rfl) (fun w' hw => by rfl) hH ?_
           simp only [Act.put, zA, zB, zC]
           refine take_to 4 96 (.pointer (some ⟨b, o + j * 7, none⟩)) rfl (by kernel_rfl) (by kernel_rfl) (by kernel_rfl) (fun _ _ _ h => h) rfl (by rfl) (fun w' hw => op_index _ _ 22 (.tmp 94) (.tmp 95) rfl _ _ _ rfl rfl (run_index22 w' b o n1 c1 j hn)) hH ?_
           simp only [Act.put, zA, zB, zC]
           refine take_to 5 97 (.pointer (some ⟨b, o + j * 7 + 2, none⟩)) rfl (by kernel_rfl) (by kernel_rfl) (by kernel_rfl) (fun _ _ _ h => h) rfl (by rfl) (fun w' hw => by rfl) hH ?_
           simp only [Act.put, zA, zB, zC]
           refine take_to 6 98 (.int .i64 P) rfl (by kernel_rfl) (by kernel_rfl) (by kernel_rfl) (fun _ _ _ h => h) rfl (by rfl) (fun w' hw => op_load _ _ 3 (.tmp 97) rfl (.pointer (some ⟨_, _, none⟩)) _ rfl (run_loadAny w' _ _ 3 _ Tryz.isAgg3 ((hw.cell (p := ⟨b, _, none⟩) hb0).trans OP.out.cP))) hH ?_
           simp only [Act.put, zA, zB, zC]
           refine take_to 7 99 (.int .i64 (P.tmod 5)) rfl (by kernel_rfl) (by kernel_rfl) (by kernel_rfl) (fun _ _ _ h => h) rfl (by rfl) (fun w' hw => op_rem3 _ _ (.tmp 98) (.const (.int .i64 5)) _ rfl P 5 rfl rfl _ (by omega) rfl) hH ?_
           simp only [Act.put, zA, zB, zC]
           refine take_to 8 100 (.int .i64 (P.tmod 5 + 5)) rfl (by kernel_rfl) (by kernel_rfl) (by kernel_rfl) (fun _ _ _ h => h) rfl (by rfl) (fun w' hw => op_add3 _ _ (.tmp 99) (.const (.int .i64 5)) _ rfl _ 5 rfl rfl _ hqw) hH ?_
           simp only [Act.put, zA, zB, zC]
           refine take_to 9 101 (.int .i64 (q : Int)) rfl (by kernel_rfl) (by kernel_rfl) (by kernel_rfl) (fun _ _ _ h => h) rfl (by rfl) (fun w' hw => op_rem3 _ _ (.tmp 100) (.const (.int .i64 5)) _ rfl _ 5 rfl rfl _ (by omega) hqe) hH ?_
           simp only [Act.put, zA, zB, zC]
           refine take_to 10 102 (.slice (some ⟨b, o, none⟩) n1 c1) rfl (by kernel_rfl) (by kernel_rfl) (by kernel_rfl) (fun _ _ _ h => h) rfl (by rfl) (fun w' hw => by rfl) hH ?_
           simp only [Act.put, zA, zB, zC]
           refine take_to 11 103 (.int .i64 (j : Int)) rfl (by kernel_rfl) (by kernel_rfl) (by kernel_rfl) (fun _ _ _ h => h) rfl (by rfl) (fun w' hw => by rfl) hH ?_
           simp only [Act.put, zA, zB, zC]
           refine take_to 12 104 (.pointer (some ⟨b, o + j * 7, none⟩)) rfl (by kernel_rfl) (by kernel_rfl) (by kernel_rfl) (fun _ _ _ h => h) rfl (by rfl) (fun w' hw => op_index _ _ 22 (.tmp 102) (.tmp 103) rfl _ _ _ rfl rfl (run_index22 w' b o n1 c1 j hn)) hH ?_
           simp only [Act.put, zA, zB, zC]
           refine take_to 13 105 (.pointer (some ⟨b, o + j * 7 + 3, none⟩)) rfl (by kernel_rfl) (by kernel_rfl) (by kernel_rfl) (fun _ _ _ h => h) rfl (by rfl) (fun w' hw => by rfl) hH ?_
           simp only [Act.put, zA, zB, zC]
           refine take_to 14 106 (.int .i64 F) rfl (by kernel_rfl) (by kernel_rfl) (by kernel_rfl) (fun _ _ _ h => h) rfl (by rfl) (fun w' hw => op_load _ _ 3 (.tmp 105) rfl (.pointer (some ⟨_, _, none⟩)) _ rfl (run_loadAny w' _ _ 3 _ Tryz.isAgg3 ((hw.cell (p := ⟨b, _, none⟩) hb0).trans OP.out.cF))) hH ?_
           simp only [Act.put, zA, zB, zC]
           refine take_to 15 107 (.int .i64 (f8 : Int)) rfl (by kernel_rfl) (by kernel_rfl) (by kernel_rfl) (fun _ _ _ h => h) rfl (by rfl) (fun w' hw => hfe ▸ op_and3 _ _ (.tmp 106) (.const (.int .i64 255)) _ rfl F rfl rfl) hH ?_
           simp only [Act.put, zA, zB, zC]
           refine take_to 16 108 (.slice da dn dc) rfl (by kernel_rfl) (by kernel_rfl) (by kernel_rfl) (fun _ _ _ h => h) rfl (by rfl) (fun w' hw => by rfl) hH ?_
           simp only [Act.put, zA, zB, zC]
           refine step_call5_to 17 109 13 rfl (by kernel_rfl) rfl (by rfl) (.tmp 92) (.tmp 93) (.tmp 101) (.tmp 107) (.tmp 108) _ rfl _ _ _ _ _ rfl rfl rfl rfl rfl Tryz.enters13m HWR.out ?_
           rintro e W7 ⟨he, S7, T7, V7, rs7, h7, I7, L7, k7⟩
           have hB7 : Below w.heap.size w W7 := h7.below
           have HM7 : Hid (Bc1 w W7 s c p av (5 + 10 * (j + 1))) := ⟨S7, T7, V7, rs7, Ms, h7, I7.mono (Nat.le_refl _) (by omega), L7, HPM.out.1, HPM.out.2⟩
           clear h7 I7 L7 k7 HPM HWR
           rcases he with rfl | rfl
           · refine ⟨_, rfl, hB7, ?_⟩
             simp only [Act.put, zA, zB, zC]
             refine step_to 18 19 (.int .i64 0) W7 rfl (by kernel_rfl) rfl (by rfl) rfl hB7 ?_
             simp only [Act.put, zA, zB, zC]
             refine wpAnyH_done (by kernel_rfl) ?_ _
             clear hB7 hH
             go_wp2
             go_roundw
             case rel => exact ⟨j + 1, p, av, by omega, by omega, by go_num, rfl, rfl, HM7.out⟩
             case measure => simp [intOf] <;> omega
           · refine ⟨_, rfl, hB7, ?_⟩
             simp only [Act.put, zA, zB, zC]
             refine step_to 18 19 (.int .i64 60) W7 rfl (by kernel_rfl) rfl (by rfl) rfl hB7 ?_
             simp only [Act.put, zA, zB, zC]
             refine wpAnyH_done (by kernel_rfl) ?_ _
             clear hB7 hH
             go_wp2
             go_roundw
             case rel => exact ⟨j + 1, p, av, by omega, by omega, by go_num, rfl, rfl, HM7.out⟩
             case measure => simp [intOf] <;> omega
      | false =>
        have HB6 : Hid (Below w.heap.size w wr) := by
         obtain ⟨_, _, _, _, _, ⟨_, _, _, _, h⟩, _⟩ := HM.out.is
         exact h.below
        have HM6 : Hid (Bc1 w wr s c p av (5 + 10 * j + 5)) := by
         obtain ⟨S, T, V, rs, Ms, h, I, L, hD0, hpm⟩ := HM.out.is
         exact ⟨S, T, V, rs, Ms, h, I.mono (Nat.le_refl _) (by omega), L, hD0, hpm⟩
        clear HM
        generalize wr = W6 at *
        go_upto_region 18 with fail
        clear hmk
        as_aux_lemma =>
         obtain ⟨b, o, P, F, da, dn, dc, bs, ea, hb0, op⟩ := HW.out.2 j hn
         subst ea
         have OP := hide op
         clear op
         have cD6 : W6.cell? ⟨b, o + j * 7 + 6, none⟩ = some (.slice da dn dc) := (HB6.out.cell (p := ⟨b, _, none⟩) hb0).trans OP.out.cD
         by_cases h200 : 200 < dn
         · have hcut : (Instr.sliceAt 36 (.slice da dn dc) none (some (.int .i64 200)) none).run Tryz.prog W6 = .ok (.slice da 200 dc) W6 := Enc.run_cut_to W6 da dn dc 200 (by have := OP.out.cap; omega)
           have hgt : (200 : Int) < (dn : Int) := by omega
           go_upto_region 21 with fail
           clear cD6
           obtain ⟨q, hq3, hqe, hqw⟩ := rem_in5 P
           obtain ⟨f8, hf8, hfe⟩ : ∃ f8 : Nat, f8 ≤ 255 ∧ F % 256 = (f8 : Int) := ⟨(F % 256).toNat, by omega, by omega⟩
           obtain ⟨S6, T6, V6, rs6, Ms, ⟨tb6, ov6, ps6, uvs6, h6⟩, I6, L6, hD6, hpm6⟩ := HM6.out.is
           have HWR := hide (bc_write (h6.belowW (below_drewN _ _ 1)) I6 L6 HN.out (by omega) q f8 hq3 hf8 da 200 dc (bs.take 200) (by rw [List.length_take, OP.out.len]; omega) (by omega) (by have := OP.out.cap; omega) OP.out.max (fun h0 => by
            obtain ⟨g', o', e1, e2, e3⟩ := OP.out.first200 h200
            exact ⟨g', o', e1, e2, rng_keep e3 e2 (HB6.out.trans ((below_drewN _ _ 1).mono HB6.out.size))⟩))
           have HPM := hide (And.intro hD6 hpm6)
           clear h6 I6 L6 hD6 hpm6 HM6
           refine wp_region_held_drew (S := fun w' => Below w.heap.size w w') (by kernel_rfl) (HB6.out.trans ((below_drewN _ _ 1).mono HB6.out.size)) (fun hH => ?_)
           refine take_to 0 92 (.pointer (some ⟨s, 0, none⟩)) rfl (by kernel_rfl) (by kernel_rfl) (by kernel_rfl) (fun _ _ _ h => h) rfl (by rfl) (fun w' hw => by rfl) hH ?_
           simp only [Act.put, zA, zB, zC]
           refine take_to 1 93 (.int .i64 1) rfl (by kernel_rfl) (by kernel_rfl) (by kernel_rfl) (fun _ _ _ h => h) rfl (by rfl) (fun w' hw => by rfl) hH ?_
           simp only [Act.put, zA, zB, zC]
           refine take_to 2 94 (.slice (some ⟨b, o, none⟩) n1 c1) rfl (by kernel_rfl) (by kernel_rfl) (by kernel_rfl) (fun _ _ _ h => h) rfl (by rfl) (fun w' hw => by rfl) hH ?_
           simp only [Act.put, zA, zB, zC]
           refine take_to 3 95 (.int .i64 (j : Int)) rfl (by kernel_rfl) (by kernel_rfl) (by kernel_rfl) (fun _ _ _ h => h) rfl (by rfl) (fun w' hw => by rfl) hH ?_
           simp only [Act.put, zA, zB, zC]
           refine take_to 4 96 (.pointer (some ⟨b, o + j * 7, none⟩)) rfl (by kernel_rfl) (by kernel_rfl) (by kernel_rfl) (fun _ _ _ h => h) rfl (by rfl) (fun w' hw => op_index _ _ 22 (.tmp 94) (.tmp 95) rfl _ _ _ rfl rfl (run_index22 w' b o n1 c1 j hn)) hH ?_
           simp only [Act.put, zA, zB, zC]
           refine take_to 5 97 (.pointer (some ⟨b, o + j * 7 + 2, none⟩)) rfl (by kernel_rfl) (by kernel_rfl) (by kernel_rfl) (fun _ _ _ h => h) rfl (by rfl) (fun w' hw => by rfl) hH ?_
           simp only [Act.put, zA, zB, zC]
           refine take_to 6 98 (.int .i64 P) rfl (by kernel_rfl) (by kernel_rfl) (by kernel_rfl) (fun _ _ _ h => h) rfl (by rfl) (fun w' hw => op_load _ _ 3 (.tmp 97) rfl (.pointer (some ⟨_, _, none⟩)) _ rfl (run_loadAny w' _ _ 3 _ Tryz.isAgg3 ((hw.cell (p := ⟨b, _, none⟩) hb0).trans OP.out.cP))) hH ?_
           simp only [Act.put, zA, zB, zC]
           refine take_to 7 99 (.int .i64 (P.tmod 5)) rfl (by kernel_rfl) (by kernel_rfl) (by kernel_rfl) (fun _ _ _ h => h) rfl (by rfl) (fun w' hw => op_rem3 _ _ (.tmp 98) (.const (.int .i64 5)) _ rfl P 5 rfl rfl _ (by omega) rfl) hH ?_
           simp only [Act.put, zA, zB, zC]
           refine take_to 8 100 (.int .i64 (P.tmod 5 + 5)) rfl (by kernel_rfl) (by kernel_rfl) (by kernel_rfl) (fun _ _ _ h => h) rfl (by rfl) (fun w' hw => op_add3 _ _ (.tmp 99) (.const (.int .i64 5)) _ rfl _ 5 rfl rfl _ hqw) hH ?_
           simp only [Act.put, zA, zB, zC]
           refine take_to 9 101 (.int .i64 (q : Int)) rfl (by kernel_rfl) (by kernel_rfl) (by kernel_rfl) (fun _ _ _ h => h) rfl (by rfl) (fun w' hw => op_rem3 _ _ (.tmp 100) (.const (.int .i64 5)) _ rfl _ 5 rfl rfl _ (by omega) hqe) hH ?_
           simp only [Act.put, zA, zB, zC]
           refine take_to 10 102 (.slice (some ⟨b, o, none⟩) n1 c1) rfl (by kernel_rfl) (by kernel_rfl) (by kernel_rfl) (fun _ _ _ h => h) rfl (by rfl) (fun w' hw => by rfl) hH ?_
           simp only [Act.put, zA, zB, zC]
           refine take_to 11 103 (.int .i64 (j : Int)) rfl (by kernel_rfl) (by kernel_rfl) (by kernel_rfl) (fun _ _ _ h => h) rfl (by rfl) (fun w' hw => by rfl) hH ?_
           simp only [Act.put, zA, zB, zC]
           refine take_to 12 104 (.pointer (some ⟨b, o + j * 7, none⟩)) rfl (by kernel_rfl) (by kernel_rfl) (by kernel_rfl) (fun _ _ _ h => h) rfl (by rfl) (fun w' hw => op_index _ _ 22 (.tmp 102) (.tmp 103) rfl _ _ _ rfl rfl (run_index22 w' b o n1 c1 j hn)) hH ?_
           simp only [Act.put, zA, zB, zC]
           refine take_to 13 105 (.pointer (some ⟨b, o + j * 7 + 3, none⟩)) rfl (by kernel_rfl) (by kernel_rfl) (by kernel_rfl) (fun _ _ _ h => h) rfl (by rfl) (fun w' hw => by rfl) hH ?_
           simp only [Act.put, zA, zB, zC]
           refine take_to 14 106 (.int .i64 F) rfl (by kernel_rfl) (by kernel_rfl) (by kernel_rfl) (fun _ _ _ h => h) rfl (by rfl) (fun w' hw => op_load _ _ 3 (.tmp 105) rfl (.pointer (some ⟨_, _, none⟩)) _ rfl (run_loadAny w' _ _ 3 _ Tryz.isAgg3 ((hw.cell (p := ⟨b, _, none⟩) hb0).trans OP.out.cF))) hH ?_
           simp only [Act.put, zA, zB, zC]
           refine take_to 15 107 (.int .i64 (f8 : Int)) rfl (by kernel_rfl) (by kernel_rfl) (by kernel_rfl) (fun _ _ _ h => h) rfl (by rfl) (fun w' hw => hfe ▸ op_and3 _ _ (.tmp 106) (.const (.int .i64 255)) _ rfl F rfl rfl) hH ?_
           simp only [Act.put, zA, zB, zC]
           refine take_to 16 108 (.slice da 200 dc) rfl (by kernel_rfl) (by kernel_rfl) (by kernel_rfl) (fun _ _ _ h => h) rfl (by rfl) (fun w' hw => by rfl) hH ?_
           simp only [Act.put, zA, zB, zC]
           refine step_call5_to 17 109 13 rfl (by kernel_rfl) rfl (by rfl) (.tmp 92) (.tmp 93) (.tmp 101) (.tmp 107) (.tmp 108) _ rfl _ _ _ _ _ rfl rfl rfl rfl rfl Tryz.enters13m HWR.out ?_
           rintro e W7 ⟨he, S7, T7, V7, rs7, h7, I7, L7, k7⟩
           have hB7 : Below w.heap.size w W7 := h7.below
           have HM7 : Hid (Bc1 w W7 s c p av (5 + 10 * (j + 1))) := ⟨S7, T7, V7, rs7, Ms, h7, I7.mono (Nat.le_refl _) (by omega), L7, HPM.out.1, HPM.out.2⟩
           clear h7 I7 L7 k7 HPM HWR
           rcases he with rfl | rfl
           · refine ⟨_, rfl, hB7, ?_⟩
             simp only [Act.put, zA, zB, zC]
             refine step_to 18 19 (.int .i64 0) W7 rfl (by kernel_rfl) rfl (by rfl) rfl hB7 ?_
             simp only [Act.put, zA, zB, zC]
             refine wpAnyH_done (by kernel_rfl) ?_ _
             clear hB7 hH
             go_wp2
             go_roundw
             case rel => exact ⟨j + 1, p, av, by omega, by omega, by go_num, rfl, rfl, HM7.out⟩
             case measure => simp [intOf] <;> omega
           · refine ⟨_, rfl, hB7, ?_⟩
             simp only [Act.put, zA, zB, zC]
             refine step_to 18 19 (.int .i64 60) W7 rfl (by kernel_rfl) rfl (by rfl) rfl hB7 ?_
             simp only [Act.put, zA, zB, zC]
             refine wpAnyH_done (by kernel_rfl) ?_ _
             clear hB7 hH
             go_wp2
             go_roundw
             case rel => exact ⟨j + 1, p, av, by omega, by omega, by go_num, rfl, rfl, HM7.out⟩
             case measure => simp [intOf] <;> omega
         · have hgt : ¬ ((200 : Int) < (dn : Int)) := by omega
           go_upto_region 21 with fail
           clear cD6
           obtain ⟨q, hq3, hqe, hqw⟩ := rem_in5 P
           obtain ⟨f8, hf8, hfe⟩ : ∃ f8 : Nat, f8 ≤ 255 ∧ F % 256 = (f8 : Int) := ⟨(F % 256).toNat, by omega, by omega⟩
           obtain ⟨S6, T6, V6, rs6, Ms, ⟨tb6, ov6, ps6, uvs6, h6⟩, I6, L6, hD6, hpm6⟩ := HM6.out.is
           have HWR := hide (bc_write (h6.belowW (below_drewN _ _ 1)) I6 L6 HN.out (by omega) q f8 hq3 hf8 da dn dc bs OP.out.len (by omega) OP.out.cap OP.out.max (fun h0 => by
            obtain ⟨g', o', e1, e2, e3⟩ := OP.out.rd h0
            exact ⟨g', o', e1, e2, rng_keep e3 e2 (HB6.out.trans ((below_drewN _ _ 1).mono HB6.out.size))⟩))
           have HPM := hide (And.intro hD6 hpm6)
           clear h6 I6 L6 hD6 hpm6 HM6
           refine wp_region_held_drew (S := fun w' => Below w.heap.size w w') (by kernel_rfl) (HB6.out.trans ((below_drewN _ _ 1).mono HB6.out.size)) (fun hH => ?_)
           refine take_to 0 92 (.pointer (some ⟨s, 0, none⟩)) rfl (by kernel_rfl) (by kernel_rfl) (by kernel_rfl) (fun _ _ _ h => h) rfl (by rfl) (fun w' hw => by rfl) hH ?_
           simp only [Act.put, zA, zB, zC]
           refine take_to 1 93 (.int .i64 1) rfl (by kernel_rfl) (by kernel_rfl) (by kernel_rfl) (fun _ _ _ h => h) rfl (by rfl) (fun w' hw => by rfl) hH ?_
           simp only [Act.put, zA, zB, zC]
           refine take_to 2 94 (.slice (some ⟨b, o, none⟩) n1 c1) rfl (by kernel_rfl) (by kernel_rfl) (by kernel_rfl) (fun _ _ _ h => h) rfl (by rfl) (fun w' hw => by rfl) hH ?_
           simp only [Act.put, zA, zB, zC]
           refine take_to 3 95 (.int .i64 (j : Int)) rfl (by kernel_rfl) (by kernel_rfl) (by kernel_rfl) (fun _ _ _ h => h) rfl (by rfl) (fun w' hw => by rfl) hH ?_
           simp only [Act.put, zA, zB, zC]
           refine take_to 4 96 (.pointer (some ⟨b, o + j * 7, none⟩)) rfl (by kernel_rfl) (by kernel_rfl) (by kernel_rfl) (fun _ _ _ h => h) rfl (by rfl) (fun w' hw => op_index _ _ 22 (.tmp 94) (.tmp 95) rfl _ _ _ rfl rfl (run_index22 w' b o n1 c1 j hn)) hH ?_
           simp only [Act.put, zA, zB, zC]
           refine take_to 5 97 (.pointer (some ⟨b, o + j * 7 + 2, none⟩)) rfl (by kernel_rfl) (by kernel_rfl) (by kernel_rfl) (fun _ _ _ h => h) rfl (by rfl) (fun w' hw => by rfl) hH ?_
           simp only [Act.put, zA, zB, zC]
           refine take_to 6 98 (.int .i64 P) rfl (by kernel_rfl) (by kernel_rfl) (by kernel_rfl) (fun _ _ _ h => h) rfl (by rfl) (fun w' hw => op_load _ _ 3 (.tmp 97) rfl (.pointer (some ⟨_, _, none⟩)) _ rfl (run_loadAny w' _ _ 3 _ Tryz.isAgg3 ((hw.cell (p := ⟨b, _, none⟩) hb0).trans OP.out.cP))) hH ?_
           simp only [Act.put, zA, zB, zC]
           refine take_to 7 99 (.int .i64 (P.tmod 5)) rfl (by kernel_rfl) (by kernel_rfl) (by kernel_rfl) (fun _ _ _ h => h) rfl (by rfl) (fun w' hw => op_rem3 _ _ (.tmp 98) (.const (.int .i64 5)) _ rfl P 5 rfl rfl _ (by omega) rfl) hH ?_
           simp only [Act.put, zA, zB, zC]
           refine take_to 8 100 (.int .i64 (P.tmod 5 + 5)) rfl (by kernel_rfl) (by kernel_rfl) (by kernel_rfl) (fun _ _ _ h => h) rfl (by rfl) (fun w' hw => op_add3 _ _ (.tmp 99) (.const (.int .i64 5)) _ rfl _ 5 rfl rfl _ hqw) hH ?_
           simp only [Act.put, zA, zB, zC]
           refine take_to 9 101 (.int .i64 (q : Int)) rfl (by kernel_rfl) (by kernel_rfl) (by kernel_rfl) (fun _ _ _ h => h) rfl (by rfl) (fun w' hw => op_rem3 _ _ (.tmp 100) (.const (.int .i64 5)) _ rfl _ 5 rfl rfl _ (by omega) hqe) hH ?_
           simp only [Act.put, zA, zB, zC]
           refine take_to 10 102 (.slice (some ⟨b, o, none⟩) n1 c1) rfl (by kernel_rfl) (by kernel_rfl) (by kernel_rfl) (fun _ _ _ h => h) rfl (by rfl) (fun w' hw => by rfl) hH ?_
           simp only [Act.put, zA, zB, zC]
           refine take_to 11 103 (.int .i64 (j : Int)) rfl (by kernel_rfl) (by kernel_rfl) (by kernel_rfl) (fun _ _ _ h => h) rfl (by rfl) (fun w' hw => by rfl) hH ?_
           simp only [Act.put, zA, zB, zC]
           refine take_to 12 104 (.pointer (some ⟨b, o + j * 7, none⟩)) rfl (by kernel_rfl) (by kernel_rfl) (by kernel_rfl) (fun _ _ _ h => h) rfl (by rfl) (fun w' hw => op_index _ _ 22 (.tmp 102) (.tmp 103) rfl _ _ _ rfl rfl (run_index22 w' b o n1 c1 j hn)) hH ?_
           simp only [Act.put, zA, zB, zC]
           refine take_to 13 105 (.pointer (some ⟨b, o + j * 7 + 3, none⟩)) rfl (by kernel_rfl) (by kernel_rfl) (by kernel_rfl) (fun _ _ _ h => h) rfl (by rfl) (fun w' hw => by rfl) hH ?_
           simp only [Act.put, zA, zB, zC]
           refine take_to 14 106 (.int .i64 F) rfl (by kernel_rfl) (by kernel_rfl) (by kernel_rfl) (fun _ _ _ h => h) rfl (by rfl) (fun w' hw => op_load _ _ 3 (.tmp 105) rfl (.pointer (some ⟨_, _, none⟩)) _ rfl (run_loadAny w' _ _ 3 _ Tryz.isAgg3 ((hw.cell (p := ⟨b, _, none⟩) hb0).trans OP.out.cF))) hH ?_
           simp only [Act.put, zA, zB, zC]
           refine take_to 15 107 (.int .i64 (f8 : Int)) rfl (by kernel_rfl) (by kernel_rfl) (by kernel_rfl) (fun _ _ _ h => h) rfl (by rfl) (fun w' hw => hfe ▸ op_and3 _ _ (.tmp 106) (.const (.int .i64 255)) _ rfl F rfl rfl) hH ?_
           simp only [Act.put, zA, zB, zC]
           refine take_to 16 108 (.slice da dn dc) rfl (by kernel_rfl) (by kernel_rfl) (by kernel_rfl) (fun _ _ _ h => h) rfl (by rfl) (fun w' hw => by rfl) hH ?_
           simp only [Act.put, zA, zB, zC]
           refine step_call5_to 17 109 13 rfl (by kernel_rfl) rfl (by rfl) (.tmp 92) (.tmp 93) (.tmp 101) (.tmp 107) (.tmp 108) _ rfl _ _ _ _ _ rfl rfl rfl rfl rfl Tryz.enters13m HWR.out ?_
           rintro e W7 ⟨he, S7, T7, V7, rs7, h7, I7, L7, k7⟩
           have hB7 : Below w.heap.size w W7 := h7.below
           have HM7 : Hid (Bc1 w W7 s c p av (5 + 10 * (j + 1))) := ⟨S7, T7, V7, rs7, Ms, h7, I7.mono (Nat.le_refl _) (by omega), L7, HPM.out.1, HPM.out.2⟩
           clear h7 I7 L7 k7 HPM HWR
           rcases he with rfl | rfl
           · refine ⟨_, rfl, hB7, ?_⟩
             simp only [Act.put, zA, zB, zC]
             refine step_to 18 19 (.int .i64 0) W7 rfl (by kernel_rfl) rfl (by rfl) rfl hB7 ?_
             simp only [Act.put, zA, zB, zC]
             refine wpAnyH_done (by kernel_rfl) ?_ _
             clear hB7 hH
             go_wp2
             go_roundw
             case rel => exact ⟨j + 1, p, av, by omega, by omega, by go_num, rfl, rfl, HM7.out⟩
             case measure => simp [intOf] <;> omega
           · refine ⟨_, rfl, hB7, ?_⟩
             simp only [Act.put, zA, zB, zC]
             refine step_to 18 19 (.int .i64 60) W7 rfl (by kernel_rfl) rfl (by rfl) rfl hB7 ?_
             simp only [Act.put, zA, zB, zC]
             refine wpAnyH_done (by kernel_rfl) ?_ _
             clear hB7 hH
             go_wp2
             go_roundw
             case rel => exact ⟨j + 1, p, av, by omega, by omega, by go_num, rfl, rfl, HM7.out⟩
             case measure => simp [intOf] <;> omega
    · as_aux_lemma =>
       obtain ⟨S, T, V, rs, Ms, ⟨tb, ov, ps, uvs, h⟩, I, L, hD0, hpm⟩ := HM.out.is
       have hse : (bv.toList == bv.toList) = true := by simp
       rcases hpm with rfl | ⟨m, Dm, rfl, h1m, hm1, rfl, hm3⟩
       · have HRB := hide (bc_roll h I HN.out (by omega) (dat V0) hD0)
         clear h I L hD0 HM
         go_wp2_with (first
          | (go_at_call 26; refine HRB.out.mono ?_; rintro e W5 ⟨rfl, S5, V5, rs5, ⟨tb5, ov5, ps5, uvs5, h5⟩, E5, hD5, k5⟩; have HA5 := hide (bc_area2 h5 E5 HN.out); rw [hD5, HBV.out] at HA5; clear h5 E5 k5 hD5 HRB)
          | (go_at_call 12; refine HA5.out.mono ?_; rintro e W6 ⟨rfl, S6, h6, E6, hw6, k6⟩; have HEN := hide (bc_end h6 E6 hw6); clear h6 E6 hw6 k6 HA5)
          | (go_at_call 10; refine HEN.out.mono ?_; rintro e W7 ⟨rfl, hb7⟩; have HB7 := hide hb7; have HAW := hide (awake_true W7); clear hb7 HEN)
          | (go_at_call 16; refine HAW.out.mono ?_; rintro e W8 ⟨rfl, hb8⟩; have HB8 := hide (HB7.out.trans (hb8.mono HB7.out.size)); clear hb8 HAW))
         go_ret
         exact ⟨rfl, HB8.out⟩
       · have hp1 : (0 : Int) < (m : Int) := by omega
         have HBK := hide (bc_back h I HN.out (by omega) m Dm hm1 hm3)
         have HD0 := hide hD0
         clear h I L hD0 hm1 hm3 HM
         obtain ⟨sv, hsv⟩ : ∃ sv, strOf (areaN Dm 5) = sv := ⟨_, rfl⟩
         rw [hsv]
         have HSV := hide hsv
         clear hsv
         have hse2 : (sv.toList == sv.toList) = true := by simp
         go_upto_region 27 with (first
          | (go_at_call 14; refine HBK.out.mono ?_; rintro e W3 ⟨rfl, S3, T3, V3, rs3, ⟨tb3, ov3, ps3, uvs3, h3⟩, I3, hD3, k3⟩; have HAR := hide (bc_area h3 I3 HN.out (by omega)); rw [hD3, HSV.out] at HAR; clear h3 I3 k3 HBK hD3)
          | (go_at_call 12; refine HAR.out.mono ?_; rintro e W4 ⟨rfl, S4, h4, I4, k4⟩; have HRB := hide (bc_roll h4 I4 HN.out (by omega) (dat V0) HD0.out); clear h4 I4 k4 HAR))
         go_wp2_with (first
          | (go_at_call 26; refine HRB.out.mono ?_; rintro e W5 ⟨rfl, S5, V5, rs5, ⟨tb5, ov5, ps5, uvs5, h5⟩, E5, hD5, k5⟩; have HA5 := hide (bc_area2 h5 E5 HN.out); rw [hD5, HBV.out] at HA5; clear h5 E5 k5 hD5 HRB)
          | (go_at_call 12; refine HA5.out.mono ?_; rintro e W6 ⟨rfl, S6, h6, E6, hw6, k6⟩; have HEN := hide (bc_end h6 E6 hw6); clear h6 E6 hw6 k6 HA5)
          | (go_at_call 10; refine HEN.out.mono ?_; rintro e W7 ⟨rfl, hb7⟩; have HB7 := hide hb7; have HAW := hide (awake_true W7); clear hb7 HEN)
          | (go_at_call 16; refine HAW.out.mono ?_; rintro e W8 ⟨rfl, hb8⟩; have HB8 := hide (HB7.out.trans (hb8.mono HB7.out.size)); clear hb8 HAW))
         go_ret
         exact ⟨rfl, HB8.out⟩
  · as_aux_lemma =>
     obtain ⟨S, T, V, rs, Ms, ⟨tb, ov, ps, uvs, h⟩, I, L, hD0, hpm⟩ := HM.out.is
     have hse : (bv.toList == bv.toList) = true := by simp
     rcases hpm with rfl | ⟨m, Dm, rfl, h1m, hm1, rfl, hm3⟩
     · have HRB := hide (bc_roll h I HN.out (by omega) (dat V0) hD0)
       clear h I L hD0 HM
       go_wp2_with (first
        | (go_at_call 26; refine HRB.out.mono ?_; rintro e W5 ⟨rfl, S5, V5, rs5, ⟨tb5, ov5, ps5, uvs5, h5⟩, E5, hD5, k5⟩; have HA5 := hide (bc_area2 h5 E5 HN.out); rw [hD5, HBV.out] at HA5; clear h5 E5 k5 hD5 HRB)
        | (go_at_call 12; refine HA5.out.mono ?_; rintro e W6 ⟨rfl, S6, h6, E6, hw6, k6⟩; have HEN := hide (bc_end h6 E6 hw6); clear h6 E6 hw6 k6 HA5)
        | (go_at_call 10; refine HEN.out.mono ?_; rintro e W7 ⟨rfl, hb7⟩; have HB7 := hide hb7; have HAW := hide (awake_true W7); clear hb7 HEN)
        | (go_at_call 16; refine HAW.out.mono ?_; rintro e W8 ⟨rfl, hb8⟩; have HB8 := hide (HB7.out.trans (hb8.mono HB7.out.size)); clear hb8 HAW))
       go_ret
       exact ⟨rfl, HB8.out⟩
     · have hp1 : (0 : Int) < (m : Int) := by omega
       have HBK := hide (bc_back h I HN.out (by omega) m Dm hm1 hm3)
       have HD0 := hide hD0
       clear h I L hD0 hm1 hm3 HM
       obtain ⟨sv, hsv⟩ : ∃ sv, strOf (areaN Dm 5) = sv := ⟨_, rfl⟩
       rw [hsv]
       have HSV := hide hsv
       clear hsv
       have hse2 : (sv.toList == sv.toList) = true := by simp
       go_upto_region 27 with (first
        | (go_at_call 14; refine HBK.out.mono ?_; rintro e W3 ⟨rfl, S3, T3, V3, rs3, ⟨tb3, ov3, ps3, uvs3, h3⟩, I3, hD3, k3⟩; have HAR := hide (bc_area h3 I3 HN.out (by omega)); rw [hD3, HSV.out] at HAR; clear h3 I3 k3 HBK hD3)
        | (go_at_call 12; refine HAR.out.mono ?_; rintro e W4 ⟨rfl, S4, h4, I4, k4⟩; have HRB := hide (bc_roll h4 I4 HN.out (by omega) (dat V0) HD0.out); clear h4 I4 k4 HAR))
       go_wp2_with (first
        | (go_at_call 26; refine HRB.out.mono ?_; rintro e W5 ⟨rfl, S5, V5, rs5, ⟨tb5, ov5, ps5, uvs5, h5⟩, E5, hD5, k5⟩; have HA5 := hide (bc_area2 h5 E5 HN.out); rw [hD5, HBV.out] at HA5; clear h5 E5 k5 hD5 HRB)
        | (go_at_call 12; refine HA5.out.mono ?_; rintro e W6 ⟨rfl, S6, h6, E6, hw6, k6⟩; have HEN := hide (bc_end h6 E6 hw6); clear h6 E6 hw6 k6 HA5)
        | (go_at_call 10; refine HEN.out.mono ?_; rintro e W7 ⟨rfl, hb7⟩; have HB7 := hide hb7; have HAW := hide (awake_true W7); clear hb7 HEN)
        | (go_at_call 16; refine HAW.out.mono ?_; rintro e W8 ⟨rfl, hb8⟩; have HB8 := hide (HB7.out.trans (hb8.mono HB7.out.size)); clear hb8 HAW))
       go_ret
       exact ⟨rfl, HB8.out⟩
end Go.Proofs.YteeembildppgmaaGreat
