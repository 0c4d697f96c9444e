/- The walk of NodeMaps. -/
import Derived.Test.YtjcobejaldfibaaMpq
import Derived.Deep.CutBlock
import Derived.Deep.DeepCutAuto
namespace Go.Proofs.Ytjcobejaldfibaa
open Go.RowKit
set_option linter.unusedVariables false
set_option linter.unusedSimpArgs false

theorem Try.isAgg9 : ∀ w, (isAgg 9).run Try.prog w = .ok false w := fun w => by kernel_rfl
theorem run_index27 (w : World) (b o n cap i : Nat) (h : i < n) : (Instr.indexAt 27 (.slice (some ⟨b, o, none⟩) n cap) (.int .i64 (i : Int))).run Try.prog w = .ok (.pointer (some ⟨b, o + i, none⟩)) w := by
  have hu := Try.underlying27
  have hs : ∀ w, (sizeOf 9).run Try.prog w = .ok 1 w := fun w => by kernel_rfl
  simp [go_sem, hu, hs, h]
set_option maxHeartbeats 8000000 in
set_option maxRecDepth 100000 in
theorem maps_walk {w : World} {tv bv : Value} {L : List (List UInt8)} {B : List Bool} (h : TsAt w tv L) (hl : 24 * L.length ≤ 140737488355328 ∧ ∀ k ∈ L, k.length ≤ 140737488355328) (hb : BoAt w bv B) :
    Calls Try.prog 3 #[tv, bv] w fun e w' => e = .returned (.bool true) ∧ Below w.heap.size w w' := by
  obtain ⟨ta, tc, rfl, ht1, ht2⟩ := h.len
  obtain ⟨ba, bc, rfl, hb1, hb2⟩ := hb.len
  have HL := hide h
  have HBO := hide hb
  have HI0 := hide (MI.start w)
  have hL24 := hl.1
  have HLK : Hid (∀ k, k < L.length → (L.getD k []).length ≤ 140737488355328) := fun k hk => hl.2 _ (by simp [hk])
  simp only [maxLen] at hb2
  clear h hb hl ht1 ht2
  generalize hll : L.length = ll at *
  have HLL := hide hll
  clear hll
  generalize hbl : B.length = bl at *
  have HBL := hide hbl
  clear hbl
  go_enter Try.func3, Try.ntmps3
  go_upto_block 0 with fail
  go_cut [6, 7] (fun kv vv wx => ∃ N n1 n2 n3, Hid (MI w wx 40 N n1 n2 n3 kv vv))
  case first =>
    go_wp2_with fail
    go_loopw [8, 6, 7] (fun i kv vv wr => ∃ (k : Nat) (N : Nd) (n1 n2 n3 : Value), k ≤ 40 ∧ k ≤ ll ∧ i = .int .i64 (k : Int) ∧ Hid (MI w wr k N n1 n2 n3 kv vv)) (fun i _ _ _ => 40 - (intOf i).toNat)
    case atStart => exact ⟨0, _, _, _, _, by omega, by omega, rfl, HI0.out⟩
    case round =>
      obtain ⟨k, N, n1, n2, n3, hk40, hkl, rfl, HM⟩ := hrel
      obtain ⟨a1, c1, a2, c2, a3, c3, ka, kc, va, vc, e1, e2, e3, e4, e5, hkc, hvc, hkm, hvm⟩ := HM.out.forms
      subst e1 e2 e3 e4 e5
      simp only [maxLen] at hkm hvm
      obtain ⟨Wr, hWr⟩ : ∃ Wr, Wr = wr := ⟨_, rfl⟩
      subst hWr
      have hfew := HM.out.mp.few
      generalize hnk : N.keys.length = nk at *
      have HNK := hide hnk
      clear hnk
      by_cases hl1 : k < ll
      · by_cases hl2 : k < 40
        · have hq1 : decide ((k : Int) < (ll : Int)) = true := decide_eq_true (by omega)
          have hq2 : decide ((k : Int) < 40) = true := decide_eq_true (by omega)
          go_upto_block 1 with fail
          clear hq1 hq2
          go_cut [6, 7] (fun kv vv wx => ∃ N n1 n2 n3, Hid (MI w wx (k + 1) N n1 n2 n3 kv vv))
          case first =>
            obtain ⟨gt, ot, xa, xc, hta, hcellw, hslw, _, _⟩ := HL.out.get k (by rw [HLL.out]; exact hl1)
            subst hta
            have HGTW : Hid (gt < w.heap.size) := World.block_lt_of_cell? w _ hcellw
            have hcell := (HM.out.ms.below.cell (p := ⟨gt, ot + k, none⟩) HGTW.out).trans hcellw
            have hsl := hslw.belowW HM.out.ms.below
            have HCW := hide hcellw
            have HSLW := hide hslw
            clear hcellw hslw
            have HXL := hide (HLK.out k hl1)
            generalize L.getD k [] = X at *
            have hstr := run_str hsl
            have HSL := hide hsl
            have HCELL := hide hcell
            have HSK := hide HM.out.sk
            have HSV := hide HM.out.sv
            have HNV : Hid (N.vals.length = nk) := HM.out.mp.vals.trans HNK.out
            clear hsl
            go_upto_block 2 with fail
            clear hcell hstr
            go_cut [10] (fun at' wx => Wr = wx ∧ at' = .int .i64 (plc N.keys X : Int))
            case first =>
              as_aux_lemma =>
                have HCM : Hid (∀ Q, (blt Q X = true ∧ Op.bytesLess (strOf Q).toList (strOf X).toList = true) ∨ (blt Q X = false ∧ Op.bytesLess (strOf Q).toList (strOf X).toList = false)) := fun Q => by
                  rw [strOf_toList', strOf_toList']
                  cases e : blt Q X with
                  | true => exact .inl ⟨rfl, e⟩
                  | false => exact .inr ⟨rfl, e⟩
                generalize strOf X = sx at *
                go_wp2_with fail
                go_loopw [10] (fun i wx => ∃ j : Nat, j ≤ nk ∧ i = .int .i64 (j : Int) ∧ Wr = wx ∧ Hid (∀ q, q < j → blt (N.keys.getD q []) X = true)) (fun i _ => nk - (intOf i).toNat)
                case atStart => exact ⟨0, by omega, rfl, rfl, fun q hq => by omega⟩
                case round =>
                  obtain ⟨j, hj, rfl, rfl, HO⟩ := hrel
                  by_cases hjn : j < nk
                  · obtain ⟨g3, hq3, hc3, _⟩ := HSK.out.get j (by rw [HNK.out]; exact hjn)
                    subst hq3
                    have hcm := HCM.out (N.keys.getD j [])
                    have HAT : Hid (blt (N.keys.getD j []) X = false → plc N.keys X = j) := fun h => (plc_at (by rw [HNK.out]; exact hjn) HO.out h).1
                    have HOS : Hid (blt (N.keys.getD j []) X = true → ∀ q, q < j + 1 → blt (N.keys.getD q []) X = true) := fun hb q hq => by
                      by_cases e : q = j
                      · rw [e]; exact hb
                      · exact HO.out q (by omega)
                    generalize blt (N.keys.getD j []) X = bb at *
                    generalize strOf (N.keys.getD j []) = sq at *
                    have hq1 : decide ((j : Int) < (nk : Int)) = true := decide_eq_true (by omega)
                    rcases hcm with ⟨rfl, c1⟩ | ⟨rfl, c1⟩
                    · go_wp2
                      go_roundw
                      case rel => exact ⟨j + 1, by omega, by go_num, trivial, HOS.out rfl⟩
                      case measure => simp [intOf]; omega
                    · have HPJ := hide (HAT.out rfl)
                      go_wp2_with fail
                      go_meet
                      exact ⟨rfl, by rw [HPJ.out]⟩
                  · have hq1 : decide ((j : Int) < (nk : Int)) = false := decide_eq_false (by omega)
                    have HPJ : Hid (plc N.keys X = j) := by
                      have e : j = nk := by omega
                      have := (plc_end (L := N.keys) (K := X) (fun q hq => HO.out q (by rw [HNK.out] at hq; omega))).1
                      rw [Hid, this, HNK.out, e]
                    go_wp2_with fail
                    go_meet
                    exact ⟨rfl, by rw [HPJ.out]⟩
            case rest =>
              obtain ⟨rfl, rfl⟩ := hcut
              have HPL : Hid (hasK N.keys X = true → plc N.keys X < nk) := fun h => by rw [← HNK.out]; exact hasK_lt h
              have HPLE : Hid (plc N.keys X ≤ nk) := by rw [Hid, ← HNK.out]; exact plc_le _ _
              generalize hpp : plc N.keys X = pp at *
              have HPP := hide hpp
              clear hpp
              go_upto_region 10 with fail
              go_cut [11] (fun hv wx => Wr = wx ∧ hv = .bool (hasK N.keys X))
              case first =>
                as_aux_lemma =>
                  by_cases hpn : pp < nk
                  · obtain ⟨g3, hq3, hc3, _⟩ := HSK.out.get pp (by rw [HNK.out]; exact hpn)
                    subst hq3
                    have hq : ((strOf (N.keys.getD pp [])).toList == (strOf X).toList) = decide (N.keys.getD pp [] = X) := by
                      rw [strOf_toList', strOf_toList']
                      by_cases e : N.keys.getD pp [] = X
                      · rw [decide_eq_true e, e]; simp
                      · rw [decide_eq_false e]; simpa using e
                    have HHV : Hid (hasK N.keys X = decide (N.keys.getD pp [] = X)) := by
                      rw [Hid]
                      unfold hasK
                      rw [HPP.out, HNK.out, decide_eq_true hpn]
                      rfl
                    generalize decide (N.keys.getD pp [] = X) = ee at *
                    generalize strOf (N.keys.getD pp []) = sq at *
                    generalize strOf X = sx at *
                    have hq1 : decide ((pp : Int) < (nk : Int)) = true := decide_eq_true (by omega)
                    cases ee with
                    | true =>
                      go_wp2_with fail
                      go_meet
                      exact ⟨rfl, by rw [HHV.out]⟩
                    | false =>
                      go_wp2_with fail
                      go_meet
                      exact ⟨rfl, by rw [HHV.out]⟩
                  · have hq1 : decide ((pp : Int) < (nk : Int)) = false := decide_eq_false (by omega)
                    have HHV : Hid (hasK N.keys X = false) := by
                      rw [Hid]
                      unfold hasK
                      rw [HPP.out, HNK.out, decide_eq_false hpn]
                      rfl
                    go_wp2_with fail
                    go_meet
                    exact ⟨rfl, by rw [HHV.out]⟩
              case rest =>
                obtain ⟨rfl, rfl⟩ := hcut
                go_upto_region 11 with fail
                go_cut [67] (fun v wx => Wr = wx ∧ ∃ d : Bool, v = .bool d)
                case first =>
                  as_aux_lemma =>
                    by_cases hkb : k < bl
                    · obtain ⟨gb, ob, hba, hcb⟩ := (HBO.out.belowW HM.out.ms.below).get k (by rw [HBL.out]; exact hkb)
                      subst hba
                      generalize B.getD k false = d at *
                      have hq1 : decide ((k : Int) < (bl : Int)) = true := decide_eq_true (by omega)
                      go_wp2_with fail
                      go_meet
                      exact ⟨rfl, _, rfl⟩
                    · have hq1 : decide ((k : Int) < (bl : Int)) = false := decide_eq_false (by omega)
                      go_wp2_with fail
                      go_meet
                      exact ⟨rfl, _, rfl⟩
                case rest =>
                  obtain ⟨rfl, d, rfl⟩ := hcut
                  cases d with
                  | true =>
                    as_aux_lemma =>
                      go_upto_region 12 with fail
                      go_cut [12, 13] (fun bx okv wx => ∃ gm m1 m2 m3, bx = .pointer (some ⟨gm, 0, none⟩) ∧ okv = .bool (hasK N.keys X) ∧ Hid (DSt w Wr wx gm (delN N X) m1 m2 m3))
                      case first =>
                        as_aux_lemma =>
                          have hE : Below Wr.heap.size Wr Wr.drew := below_drewN _ _ 1
                          have hwW : w.heap.size < Wr.heap.size := HM.out.ms.box.lt
                          refine wp_region_held_drew (S := fun w' => Below Wr.heap.size Wr w') (by kernel_rfl) hE (fun _ => ?_)
                          refine take_to 0 69 (.agg #[.bool true, .slice a1 nk c1, .slice a2 nk c2, .slice a3 0 c3, .int .i64 0]) rfl (by kernel_rfl) (by kernel_rfl) (by kernel_rfl) (fun _ _ _ h => h) rfl (by rfl) (fun w hw => op_load _ _ 26 (.tmp 5) rfl (.pointer (some ⟨_, 0, none⟩)) _ rfl (load26 (HM.out.ms.box.belowW hw))) hE ?_
                          simp only [Act.put, List.setIfInBounds_toArray, List.set_cons_zero, List.set_cons_succ]
                          refine take_to 1 70 (.slice (some ⟨gt, ot, none⟩) ll tc) rfl (by kernel_rfl) (by kernel_rfl) (by kernel_rfl) (fun _ _ _ h => h) rfl (by rfl) (fun w hw => by rfl) hE ?_
                          simp only [Act.put, List.setIfInBounds_toArray, List.set_cons_zero, List.set_cons_succ]
                          refine take_to 2 71 (.int .i64 (k : Int)) rfl (by kernel_rfl) (by kernel_rfl) (by kernel_rfl) (fun _ _ _ h => h) rfl (by rfl) (fun w hw => by rfl) hE ?_
                          simp only [Act.put, List.setIfInBounds_toArray, List.set_cons_zero, List.set_cons_succ]
                          refine take_to 3 72 (.pointer (some ⟨gt, ot + k, none⟩)) rfl (by kernel_rfl) (by kernel_rfl) (by kernel_rfl) (fun _ _ _ h => h) rfl (by rfl) (fun w hw => op_index _ _ 22 (.tmp 70) (.tmp 71) rfl _ _ _ rfl rfl (run_index22 w gt ot ll tc k hl1)) hE ?_
                          simp only [Act.put, List.setIfInBounds_toArray, List.set_cons_zero, List.set_cons_succ]
                          refine take_to 4 73 (.slice xa X.length xc) rfl (by kernel_rfl) (by kernel_rfl) (by kernel_rfl) (fun _ _ _ h => h) rfl (by rfl) (fun w hw => op_load _ _ 28 (.tmp 72) rfl (.pointer (some ⟨_, _, none⟩)) _ rfl (run_loadAny w _ _ 28 _ Try.isAgg28 ((hw.cell (World.block_lt_of_cell? Wr _ HCELL.out)).trans HCELL.out))) hE ?_
                          simp only [Act.put, List.setIfInBounds_toArray, List.set_cons_zero, List.set_cons_succ]
                          refine wpAnyH_all (rs := [5, 9]) (by kernel_rfl) (by simp) ?_
                          intro n hn
                          rcases (by simpa using hn : n = 5 ∨ n = 9) with rfl | rfl
                          · refine op_call2_to 74 9 rfl rfl (by rfl) (.tmp 69) (.tmp 73) _ rfl _ _ rfl rfl Try.enters9 (delO HM.out.mp hk40 (HM.out.ms.own.belowW hE).at (HSL.out.belowW hE)) ?_
                            rintro e U1 ⟨m1, m2, m3, rfl, hb1, ho1⟩
                            have hE1 := hE.trans (hb1.mono hE.size)
                            refine ⟨_, rfl, hE1, ?_⟩
                            simp only [Act.put, List.setIfInBounds_toArray, List.set_cons_zero, List.set_cons_succ]
                            refine take_to 6 68 (.tuple #[.agg #[.bool true, m1, m2, m3, .int .i64 0], .bool (hasK N.keys X)]) rfl (by kernel_rfl) (by kernel_rfl) (by kernel_rfl) (fun _ _ _ h => h) rfl (by rfl) (fun w hw => by rfl) hE1 ?_
                            simp only [Act.put, List.setIfInBounds_toArray, List.set_cons_zero, List.set_cons_succ]
                            refine take_to 7 75 (.agg #[.bool true, m1, m2, m3, .int .i64 0]) rfl (by kernel_rfl) (by kernel_rfl) (by kernel_rfl) (fun _ _ _ h => h) rfl (by rfl) (fun w hw => by rfl) hE1 ?_
                            simp only [Act.put, List.setIfInBounds_toArray, List.set_cons_zero, List.set_cons_succ]
                            refine take_to 8 76 (.bool (hasK N.keys X)) rfl (by kernel_rfl) (by kernel_rfl) (by kernel_rfl) (fun _ _ _ h => h) rfl (by rfl) (fun w hw => by rfl) hE1 ?_
                            simp only [Act.put, List.setIfInBounds_toArray, List.set_cons_zero, List.set_cons_succ]
                            have hE2 := hE1.alloc hE1.size (.cells #[.bool false, .slice none 0 0, .slice none 0 0, .slice none 0 0, .int .i64 0] 26)
                            have hbx : Box 26 (U1.alloc (.cells #[.bool false, .slice none 0 0, .slice none 0 0, .slice none 0 0, .int .i64 0] 26)) U1.heap.size (.bool false) (.slice none 0 0) (.slice none 0 0) (.slice none 0 0) (.int .i64 0) := Box.new _ _ _ _ _ _
                            have ho2 : NdOwn w.heap.size (U1.alloc (.cells #[.bool false, .slice none 0 0, .slice none 0 0, .slice none 0 0, .int .i64 0] 26)) (delN N X) m1 m2 m3 := (ho1.belowW ((Below.refl _ _).alloc (Nat.le_refl _) _)).mono (Nat.le_trans (Nat.le_of_lt hwW) hE.size)
                            refine step_to 9 12 (.pointer (some ⟨U1.heap.size, 0, none⟩)) (U1.alloc (.cells #[.bool false, .slice none 0 0, .slice none 0 0, .slice none 0 0, .int .i64 0] 26)) rfl (by kernel_rfl) rfl (by rfl) (op_alloc26 _ _ rfl _) hE2 ?_
                            simp only [Act.put, List.setIfInBounds_toArray, List.set_cons_zero, List.set_cons_succ]
                            refine step_store_to 10 ((U1.alloc (.cells #[.bool false, .slice none 0 0, .slice none 0 0, .slice none 0 0, .int .i64 0] 26)).setRow U1.heap.size #[.bool true, m1, m2, m3, .int .i64 0]) rfl (by kernel_rfl) rfl (by rfl) 26 (.tmp 12) (.tmp 75) rfl (.pointer (some ⟨U1.heap.size, 0, none⟩)) (.agg #[.bool true, m1, m2, m3, .int .i64 0]) rfl rfl (store26 hbx _ _ _ _ _ (by rfl) (owns_one ho2.keys) (owns_one ho2.vals) (one_of_owns ho2.kids) (by rfl)) (below_setRow hE2 U1.heap.size _ hE1.size hE2.size) ?_
                            refine take_to 11 13 (.bool (hasK N.keys X)) rfl (by kernel_rfl) (by kernel_rfl) (by kernel_rfl) (fun _ _ _ h => h) rfl (by rfl) (fun w hw => by rfl) (below_setRow hE2 U1.heap.size _ hE1.size hE2.size) ?_
                            simp only [Act.put, List.setIfInBounds_toArray, List.set_cons_zero, List.set_cons_succ]
                            refine wpAnyH_done (by kernel_rfl) ?_ _
                            go_wp2_with fail
                            go_meet
                            exact ⟨_, _, _, _, rfl, rfl, DSt.new hE2 hbx hE1.size ho2 hwW⟩
                          · have hE1 := hE.alloc hE.size (.cells #[.bool false, .slice none 0 0, .slice none 0 0, .slice none 0 0, .int .i64 0] 26)
                            have hbx0 : Box 26 (Wr.drew.alloc (.cells #[.bool false, .slice none 0 0, .slice none 0 0, .slice none 0 0, .int .i64 0] 26)) Wr.drew.heap.size (.bool false) (.slice none 0 0) (.slice none 0 0) (.slice none 0 0) (.int .i64 0) := Box.new _ _ _ _ _ _
                            refine op_to 12 (.pointer (some ⟨Wr.drew.heap.size, 0, none⟩)) (Wr.drew.alloc (.cells #[.bool false, .slice none 0 0, .slice none 0 0, .slice none 0 0, .int .i64 0] 26)) rfl rfl (by rfl) (op_alloc26 _ _ rfl _) ⟨hE1, ?_⟩
                            simp only [Act.put, List.setIfInBounds_toArray, List.set_cons_zero, List.set_cons_succ]
                            refine step_call2_to 5 74 9 rfl (by kernel_rfl) rfl (by rfl) (.tmp 69) (.tmp 73) _ rfl _ _ rfl rfl Try.enters9 (delO HM.out.mp hk40 (HM.out.ms.own.belowW hE1).at (HSL.out.belowW hE1)) ?_
                            rintro e U1 ⟨m1, m2, m3, rfl, hb1, ho1⟩
                            have hE2 := hE1.trans (hb1.mono hE1.size)
                            have hbx := hbx0.belowW hb1
                            have ho2 : NdOwn w.heap.size U1 (delN N X) m1 m2 m3 := ho1.mono (Nat.le_trans (Nat.le_of_lt hwW) hE1.size)
                            refine ⟨_, rfl, hE2, ?_⟩
                            simp only [Act.put, List.setIfInBounds_toArray, List.set_cons_zero, List.set_cons_succ]
                            refine take_to 6 68 (.tuple #[.agg #[.bool true, m1, m2, m3, .int .i64 0], .bool (hasK N.keys X)]) rfl (by kernel_rfl) (by kernel_rfl) (by kernel_rfl) (fun _ _ _ h => h) rfl (by rfl) (fun w hw => by rfl) hE2 ?_
                            simp only [Act.put, List.setIfInBounds_toArray, List.set_cons_zero, List.set_cons_succ]
                            refine take_to 7 75 (.agg #[.bool true, m1, m2, m3, .int .i64 0]) rfl (by kernel_rfl) (by kernel_rfl) (by kernel_rfl) (fun _ _ _ h => h) rfl (by rfl) (fun w hw => by rfl) hE2 ?_
                            simp only [Act.put, List.setIfInBounds_toArray, List.set_cons_zero, List.set_cons_succ]
                            refine take_to 8 76 (.bool (hasK N.keys X)) rfl (by kernel_rfl) (by kernel_rfl) (by kernel_rfl) (fun _ _ _ h => h) rfl (by rfl) (fun w hw => by rfl) hE2 ?_
                            simp only [Act.put, List.setIfInBounds_toArray, List.set_cons_zero, List.set_cons_succ]
                            refine step_store_to 10 (U1.setRow Wr.drew.heap.size #[.bool true, m1, m2, m3, .int .i64 0]) rfl (by kernel_rfl) rfl (by rfl) 26 (.tmp 12) (.tmp 75) rfl (.pointer (some ⟨Wr.drew.heap.size, 0, none⟩)) (.agg #[.bool true, m1, m2, m3, .int .i64 0]) rfl rfl (store26 hbx _ _ _ _ _ (by rfl) (owns_one ho2.keys) (owns_one ho2.vals) (one_of_owns ho2.kids) (by rfl)) (below_setRow hE2 Wr.drew.heap.size _ hE.size hE2.size) ?_
                            refine take_to 11 13 (.bool (hasK N.keys X)) rfl (by kernel_rfl) (by kernel_rfl) (by kernel_rfl) (fun _ _ _ h => h) rfl (by rfl) (fun w hw => by rfl) (below_setRow hE2 Wr.drew.heap.size _ hE.size hE2.size) ?_
                            simp only [Act.put, List.setIfInBounds_toArray, List.set_cons_zero, List.set_cons_succ]
                            refine wpAnyH_done (by kernel_rfl) ?_ _
                            go_wp2_with fail
                            go_meet
                            exact ⟨_, _, _, _, rfl, rfl, DSt.new hE2 hbx hE.size ho2 hwW⟩
                      case rest =>
                        obtain ⟨gm, m1, m2, m3, rfl, rfl, HD⟩ := hcut
                        obtain ⟨p1, q1, e1, _, _⟩ := HD.out.own.at.keys.len
                        obtain ⟨p2, q2, e2, _, _⟩ := HD.out.own.at.vals.len
                        obtain ⟨p3, q3, e3⟩ := owns_len HD.out.own.kids
                        generalize (delN N X).keys.length = r1 at *
                        generalize (delN N X).vals.length = r2 at *
                        generalize (delN N X).kids.length = r3 at *
                        subst e1 e2 e3
                        have hmz := HM.out.ms.next HD.out.below
                        have hne : w.heap.size ≠ gm := Nat.ne_of_lt HD.out.gt
                        have HM5 := hide (hmz.store HD.out.own)
                        have HK5 := hide ((HSK.out.next HD.out.below).oth (hmz.box.othAll (.bool true) (.slice p1 r1 q1) (.slice p2 r2 q2) (.slice p3 r3 q3) (.int .i64 0)) (by decide))
                        have HV5 := hide ((HSV.out.next HD.out.below).oth (hmz.box.othAll (.bool true) (.slice p1 r1 q1) (.slice p2 r2 q2) (.slice p3 r3 q3) (.int .i64 0)) (by decide))
                        have HBD := hide HD.out.box
                        have HBN := hide hmz.box
                        clear hmz hne HD
                        have HDN : Hid (hasK N.keys X = true → delN N X = cutN N pp) := fun h => by rw [← HPP.out]; exact delN_yes HM.out.mp.leaf HM.out.mp.mat h
                        have HDE : Hid (hasK N.keys X = false → delN N X = N) := fun h => delN_not (by rw [delH_leaf HM.out.mp.leaf HM.out.mp.mat]; exact h)
                        generalize hasK N.keys X = hh at *
                        obtain ⟨k0, k1, k2, k3, k4, f0, f1, f2, f3, f4⟩ := HBN.out.cells
                        obtain ⟨j0, j1, j2, j3, j4, g0, g1, g2, g3, g4⟩ := HBD.out.cells
                        cases hh with
                        | false =>
                          go_wp2_with fail
                          go_meet
                          refine ⟨N, .slice p1 r1 q1, .slice p2 r2 q2, .slice p3 r3 q3, HM.out.more (Nat.le_succ k) |>.mp, ?_, HK5.out, HV5.out, HM.out.ap⟩
                          have := HM5.out
                          rw [HDE.out (by first | rfl | trivial)] at this
                          exact this
                        | true =>
                          go_upto_region 17 with fail
                          clear k0 k1 k2 k3 k4 f0 f1 f2 f3 f4 j0 j1 j2 j3 j4 g0 g1 g2 g3 g4 HBN HBD
                          generalize ((((wc.setCell ⟨w.heap.size, 0, none⟩ (.bool true)).setCell ⟨w.heap.size, 1, none⟩ (.slice p1 r1 q1)).setCell ⟨w.heap.size, 2, none⟩ (.slice p2 r2 q2)).setCell ⟨w.heap.size, 3, none⟩ (.slice p3 r3 q3)).setCell ⟨w.heap.size, 4, none⟩ (.int .i64 0) = W5 at *
                          go_cut [6] (fun kv2 wx => Hid (New w W5 wx kv2 ([] ++ N.keys.take pp ++ N.keys.drop (pp + 1))))
                          case first =>
                            as_aux_lemma =>
                              have hpn : pp < nk := HPL.out (by first | rfl | trivial)
                              have hr0 := HK5.out
                              have ht : Row W5 (.slice ka pp kc) pp (strCells (N.keys.take pp)) := hr0.to pp (by rw [HNK.out]; omega)
                              have hf : Row W5 (.slice (cutAt ka kc (pp + 1)) (nk - (pp + 1)) (kc - (pp + 1))) (nk - (pp + 1)) (strCells (N.keys.drop (pp + 1))) := by
                                have := hr0.from (pp + 1) (by rw [HNK.out]; omega)
                                rw [HNK.out] at this
                                exact this
                              have hl1 : (N.keys.take pp).length = pp := by rw [List.length_take, HNK.out]; omega
                              have hl2 : (N.keys.drop (pp + 1)).length = nk - (pp + 1) := by rw [List.length_drop, HNK.out]
                              have hq2 : W5.heap.size ≤ W5.drew.heap.size := Nat.le_refl _
                              refine wp_region_held_drew (S := fun _ => True) (by kernel_rfl) trivial (fun _ => ?_)
                              refine take_to 1 83 (.slice ka nk kc) rfl (by kernel_rfl) (by kernel_rfl) (by kernel_rfl) (fun _ _ _ h => h) rfl (by rfl) (fun w hw => by rfl) trivial ?_
                              simp only [Act.put, List.setIfInBounds_toArray, List.set_cons_zero, List.set_cons_succ]
                              refine take_to 2 84 (.int .i64 (pp : Int)) rfl (by kernel_rfl) (by kernel_rfl) (by kernel_rfl) (fun _ _ _ h => h) rfl (by rfl) (fun w hw => by rfl) trivial ?_
                              simp only [Act.put, List.setIfInBounds_toArray, List.set_cons_zero, List.set_cons_succ]
                              refine take_to 3 85 (.slice ka pp kc) rfl (by kernel_rfl) (by kernel_rfl) (by kernel_rfl) (fun _ _ _ h => h) rfl (by rfl) (fun w hw => op_cut _ _ 27 (.tmp 83) none (some (.tmp 84)) none rfl _ _ rfl (run_cut27_to w ka nk kc pp (by omega))) trivial ?_
                              simp only [Act.put, List.setIfInBounds_toArray, List.set_cons_zero, List.set_cons_succ]
                              refine take_to 5 87 (.slice ka nk kc) rfl (by kernel_rfl) (by kernel_rfl) (by kernel_rfl) (fun _ _ _ h => h) rfl (by rfl) (fun w hw => by rfl) trivial ?_
                              simp only [Act.put, List.setIfInBounds_toArray, List.set_cons_zero, List.set_cons_succ]
                              refine take_to 6 88 (.int .i64 (pp : Int)) rfl (by kernel_rfl) (by kernel_rfl) (by kernel_rfl) (fun _ _ _ h => h) rfl (by rfl) (fun w hw => by rfl) trivial ?_
                              simp only [Act.put, List.setIfInBounds_toArray, List.set_cons_zero, List.set_cons_succ]
                              refine take_to 7 89 (.int .i64 ((pp + 1 : Nat) : Int)) rfl (by kernel_rfl) (by kernel_rfl) (by kernel_rfl) (fun _ _ _ h => h) rfl (by rfl) (fun w hw => op_add3 _ _ (.tmp 88) (.const (.int .i64 1)) _ rfl _ _ rfl rfl _ (by rw [IntKind.wrap_i64]; omega)) trivial ?_
                              simp only [Act.put, List.setIfInBounds_toArray, List.set_cons_zero, List.set_cons_succ]
                              refine take_to 8 90 (.slice (cutAt ka kc (pp + 1)) (nk - (pp + 1)) (kc - (pp + 1))) rfl (by kernel_rfl) (by kernel_rfl) (by kernel_rfl) (fun _ _ _ h => h) rfl (by rfl) (fun w hw => op_cut _ _ 27 (.tmp 87) (some (.tmp 89)) none none rfl _ _ rfl (run_cut27_from w ka nk kc (pp + 1) (by omega))) trivial ?_
                              simp only [Act.put, List.setIfInBounds_toArray, List.set_cons_zero, List.set_cons_succ]
                              generalize hU0 : W5.drew = U0 at hq2 ⊢
                              have hb00 : Below W5.heap.size W5 U0 := by rw [← hU0]; exact below_drewN _ _ 1
                              clear hU0
                              have hn0 : New w W5 (U0.alloc (.cells #[] 9)) (.slice (some ⟨U0.heap.size, 0, none⟩) 0 0) [] := ⟨hb00.alloc hb00.size _, owns_new U0 W5.heap.size 9 hq2⟩
                              refine step_to 0 82 (.slice (some ⟨U0.heap.size, 0, none⟩) 0 0) (U0.alloc (.cells #[] 9)) rfl (by kernel_rfl) rfl (by rfl) (op_build27_0 _ _ rfl _) trivial ?_
                              simp only [Act.put, List.setIfInBounds_toArray, List.set_cons_zero, List.set_cons_succ]
                              refine step_append_row 4 86 rfl (by kernel_rfl) rfl rfl (.tmp 82) (.tmp 85) 27 rfl W5.heap.size 9 (.string { data := #[] }) 1 16 Try.underlying27 Try.info9 rfl (by omega) _ 0 (strCells []) _ pp (strCells (N.keys.take pp)) rfl rfl hn0.own (ht.belowW hn0.below) (by rw [length_strCells, hl1]; omega) (one_strCells _) (by omega) (by omega) hn0.below.size ?_
                              intro v1 U1 ho1 hg1
                              have hn1 := hn0.grow rfl hl1 ho1 hg1
                              refine ⟨trivial, ?_⟩
                              simp only [Act.put, List.setIfInBounds_toArray, List.set_cons_zero, List.set_cons_succ]
                              refine step_append_row 9 91 rfl (by kernel_rfl) rfl rfl (.tmp 86) (.tmp 90) 27 rfl W5.heap.size 9 (.string { data := #[] }) 1 16 Try.underlying27 Try.info9 rfl (by omega) _ (0 + pp) (strCells ([] ++ N.keys.take pp)) _ (nk - (pp + 1)) (strCells (N.keys.drop (pp + 1))) rfl rfl (by have := hn1.own; rw [List.nil_append, hl1] at this; rw [List.nil_append, Nat.zero_add]; exact this) (hf.belowW hn1.below) (by rw [length_strCells, hl2]; omega) (one_strCells _) (by omega) (by omega) hn1.below.size ?_
                              intro v2 U2 ho2 hg2
                              have hn2 := hn1.grow (by rw [List.nil_append, hl1]; omega) hl2 ho2 hg2
                              refine ⟨trivial, ?_⟩
                              simp only [Act.put, List.setIfInBounds_toArray, List.set_cons_zero, List.set_cons_succ]
                              refine take_to 10 6 (v2) rfl (by kernel_rfl) (by kernel_rfl) (by kernel_rfl) (fun _ _ _ h => h) rfl (by rfl) (fun w hw => by rfl) trivial ?_
                              simp only [Act.put, List.setIfInBounds_toArray, List.set_cons_zero, List.set_cons_succ]
                              refine wpAnyH_done (by kernel_rfl) ?_ _
                              go_wp2_with fail
                              go_meet
                              exact hn2
                          case rest =>
                            have HN6 := hcut
                            clear hcut
                            obtain ⟨kb, kd, ek⟩ := owns_len HN6.out.own
                            generalize ([] ++ N.keys.take pp ++ N.keys.drop (pp + 1)).length = rk at ek
                            subst ek
                            have HV6 := hide (HV5.out.next HN6.out.below)
                            have HM6 := hide (HM5.out.next HN6.out.below)
                            have HK6 := hide (HN6.out.row HM5.out.below.size)
                            generalize wc = W6 at *
                            go_upto_region 18 with fail
                            go_cut [7] (fun vv2 wx => Hid (New w W6 wx vv2 ([] ++ N.vals.take pp ++ N.vals.drop (pp + 1))))
                            case first =>
                              as_aux_lemma =>
                                have hpn : pp < nk := HPL.out (by first | rfl | trivial)
                                have hr0 := HV6.out
                                have ht : Row W6 (.slice va pp vc) pp (strCells (N.vals.take pp)) := hr0.to pp (by rw [HNV.out]; omega)
                                have hf : Row W6 (.slice (cutAt va vc (pp + 1)) (nk - (pp + 1)) (vc - (pp + 1))) (nk - (pp + 1)) (strCells (N.vals.drop (pp + 1))) := by
                                  have := hr0.from (pp + 1) (by rw [HNV.out]; omega)
                                  rw [HNV.out] at this
                                  exact this
                                have hl1 : (N.vals.take pp).length = pp := by rw [List.length_take, HNV.out]; omega
                                have hl2 : (N.vals.drop (pp + 1)).length = nk - (pp + 1) := by rw [List.length_drop, HNV.out]
                                have hq2 : W6.heap.size ≤ W6.drew.heap.size := Nat.le_refl _
                                refine wp_region_held_drew (S := fun _ => True) (by kernel_rfl) trivial (fun _ => ?_)
                                refine take_to 1 93 (.slice va nk vc) rfl (by kernel_rfl) (by kernel_rfl) (by kernel_rfl) (fun _ _ _ h => h) rfl (by rfl) (fun w hw => by rfl) trivial ?_
                                simp only [Act.put, List.setIfInBounds_toArray, List.set_cons_zero, List.set_cons_succ]
                                refine take_to 2 94 (.int .i64 (pp : Int)) rfl (by kernel_rfl) (by kernel_rfl) (by kernel_rfl) (fun _ _ _ h => h) rfl (by rfl) (fun w hw => by rfl) trivial ?_
                                simp only [Act.put, List.setIfInBounds_toArray, List.set_cons_zero, List.set_cons_succ]
                                refine take_to 3 95 (.slice va pp vc) rfl (by kernel_rfl) (by kernel_rfl) (by kernel_rfl) (fun _ _ _ h => h) rfl (by rfl) (fun w hw => op_cut _ _ 27 (.tmp 93) none (some (.tmp 94)) none rfl _ _ rfl (run_cut27_to w va nk vc pp (by omega))) trivial ?_
                                simp only [Act.put, List.setIfInBounds_toArray, List.set_cons_zero, List.set_cons_succ]
                                refine take_to 5 97 (.slice va nk vc) rfl (by kernel_rfl) (by kernel_rfl) (by kernel_rfl) (fun _ _ _ h => h) rfl (by rfl) (fun w hw => by rfl) trivial ?_
                                simp only [Act.put, List.setIfInBounds_toArray, List.set_cons_zero, List.set_cons_succ]
                                refine take_to 6 98 (.int .i64 (pp : Int)) rfl (by kernel_rfl) (by kernel_rfl) (by kernel_rfl) (fun _ _ _ h => h) rfl (by rfl) (fun w hw => by rfl) trivial ?_
                                simp only [Act.put, List.setIfInBounds_toArray, List.set_cons_zero, List.set_cons_succ]
                                refine take_to 7 99 (.int .i64 ((pp + 1 : Nat) : Int)) rfl (by kernel_rfl) (by kernel_rfl) (by kernel_rfl) (fun _ _ _ h => h) rfl (by rfl) (fun w hw => op_add3 _ _ (.tmp 98) (.const (.int .i64 1)) _ rfl _ _ rfl rfl _ (by rw [IntKind.wrap_i64]; omega)) trivial ?_
                                simp only [Act.put, List.setIfInBounds_toArray, List.set_cons_zero, List.set_cons_succ]
                                refine take_to 8 100 (.slice (cutAt va vc (pp + 1)) (nk - (pp + 1)) (vc - (pp + 1))) rfl (by kernel_rfl) (by kernel_rfl) (by kernel_rfl) (fun _ _ _ h => h) rfl (by rfl) (fun w hw => op_cut _ _ 27 (.tmp 97) (some (.tmp 99)) none none rfl _ _ rfl (run_cut27_from w va nk vc (pp + 1) (by omega))) trivial ?_
                                simp only [Act.put, List.setIfInBounds_toArray, List.set_cons_zero, List.set_cons_succ]
                                generalize hU0 : W6.drew = U0 at hq2 ⊢
                                have hb00 : Below W6.heap.size W6 U0 := by rw [← hU0]; exact below_drewN _ _ 1
                                clear hU0
                                have hn0 : New w W6 (U0.alloc (.cells #[] 9)) (.slice (some ⟨U0.heap.size, 0, none⟩) 0 0) [] := ⟨hb00.alloc hb00.size _, owns_new U0 W6.heap.size 9 hq2⟩
                                refine step_to 0 92 (.slice (some ⟨U0.heap.size, 0, none⟩) 0 0) (U0.alloc (.cells #[] 9)) rfl (by kernel_rfl) rfl (by rfl) (op_build27_0 _ _ rfl _) trivial ?_
                                simp only [Act.put, List.setIfInBounds_toArray, List.set_cons_zero, List.set_cons_succ]
                                refine step_append_row 4 96 rfl (by kernel_rfl) rfl rfl (.tmp 92) (.tmp 95) 27 rfl W6.heap.size 9 (.string { data := #[] }) 1 16 Try.underlying27 Try.info9 rfl (by omega) _ 0 (strCells []) _ pp (strCells (N.vals.take pp)) rfl rfl hn0.own (ht.belowW hn0.below) (by rw [length_strCells, hl1]; omega) (one_strCells _) (by omega) (by omega) hn0.below.size ?_
                                intro v1 U1 ho1 hg1
                                have hn1 := hn0.grow rfl hl1 ho1 hg1
                                refine ⟨trivial, ?_⟩
                                simp only [Act.put, List.setIfInBounds_toArray, List.set_cons_zero, List.set_cons_succ]
                                refine step_append_row 9 101 rfl (by kernel_rfl) rfl rfl (.tmp 96) (.tmp 100) 27 rfl W6.heap.size 9 (.string { data := #[] }) 1 16 Try.underlying27 Try.info9 rfl (by omega) _ (0 + pp) (strCells ([] ++ N.vals.take pp)) _ (nk - (pp + 1)) (strCells (N.vals.drop (pp + 1))) rfl rfl (by have := hn1.own; rw [List.nil_append, hl1] at this; rw [List.nil_append, Nat.zero_add]; exact this) (hf.belowW hn1.below) (by rw [length_strCells, hl2]; omega) (one_strCells _) (by omega) (by omega) hn1.below.size ?_
                                intro v2 U2 ho2 hg2
                                have hn2 := hn1.grow (by rw [List.nil_append, hl1]; omega) hl2 ho2 hg2
                                refine ⟨trivial, ?_⟩
                                simp only [Act.put, List.setIfInBounds_toArray, List.set_cons_zero, List.set_cons_succ]
                                refine take_to 10 7 (v2) rfl (by kernel_rfl) (by kernel_rfl) (by kernel_rfl) (fun _ _ _ h => h) rfl (by rfl) (fun w hw => by rfl) trivial ?_
                                simp only [Act.put, List.setIfInBounds_toArray, List.set_cons_zero, List.set_cons_succ]
                                refine wpAnyH_done (by kernel_rfl) ?_ _
                                go_wp2_with fail
                                go_meet
                                exact hn2
                            case rest =>
                              have HN7 := hcut
                              clear hcut
                              obtain ⟨vb, vd, ev⟩ := owns_len HN7.out.own
                              generalize ([] ++ N.vals.take pp ++ N.vals.drop (pp + 1)).length = rv at ev
                              subst ev
                              have HMP := hide (HM.out.mp.del hk40 (K := X))
                              go_wp2_with fail
                              go_meet
                              have hD := HDN.out (by first | rfl | trivial)
                              refine ⟨delN N X, .slice p1 r1 q1, .slice p2 r2 q2, .slice p3 r3 q3, HMP.out, HM6.out.next HN7.out.below, ?_, ?_, fun g h1 h2 => HN7.out.ap HK6.out g h2 h1⟩
                              · rw [hD]
                                exact HK6.out.next HN7.out.below
                              · rw [hD]
                                exact HN7.out.row HM6.out.below.size
                  | false =>
                    as_aux_lemma =>
                      obtain ⟨c, hc8⟩ : ∃ c : UInt8, (c.toNat : Int) = (k : Int) := ⟨UInt8.ofNat k, by simp; omega⟩
                      have HGT : Hid (gt < w.heap.size) := HGTW.out
                      go_upto_region 19 with fail
                      go_cut [14] (fun v wx => v = .string (strOf [c]) ∧ Hid (Below Wr.heap.size Wr wx))
                      case first =>
                        have hw8 : IntKind.u8.wrap (k : Int) = (k : Int) := by rw [IntKind.wrap_u8]; omega
                        have hm8 : (k : Int) % 256 = (k : Int) := by omega
                        have hbld := build1
                        have hcv := run_str (sl1 Wr c (0, 0))
                        have HBA : Hid (Below Wr.heap.size Wr (Wr.alloc (.cells #[.int .u8 (c.toNat : Int)] 5))) := (Below.refl _ _).alloc (Nat.le_refl _) _
                        rw [hc8] at hcv HBA
                        have hcv : (convert 28 9 (.slice (some ⟨Wr.heap.size, 0, none⟩) 1 1)).run Try.prog (Wr.alloc (.cells #[.int .u8 (k : Int)] 5)) = .ok (.string (strOf [c])) (Wr.alloc (.cells #[.int .u8 (k : Int)] 5)) := hcv
                        clear hc8
                        go_wp2_with fail
                        go_meet
                        exact ⟨rfl, HBA.out⟩
                      case rest =>
                        obtain ⟨rfl, HB3⟩ := hcut
                        have HM3 := hide (HM.out.next HB3.out)
                        have HVL : Hid (([c] : List UInt8).length ≤ 140737488355328) := by show 1 ≤ _; omega
                        have HMP := hide (HM.out.mp.put hk40 HXL.out HVL.out)
                        have HPI : Hid (hasK N.keys X = true → putN N X [c] = setN N pp [c]) := fun h => by rw [← HPP.out]; exact putN_yes HM.out.mp.leaf HM.out.mp.mat h
                        have HPN : Hid (hasK N.keys X = false → putN N X [c] = insN N pp X [c]) := fun h => by rw [← HPP.out]; exact putN_new HM.out.mp.leaf HM.out.mp.mat h
                        generalize wc = W3 at *
                        generalize hVV : [c] = V at *
                        clear hVV hc8
                        go_upto_region 20 with fail
                        go_cut [] (fun wx => ∃ m1 m2 m3, Hid (MS w wx (putN N X V) m1 m2 m3 ∧ SRow w wx (.slice ka nk kc) N.keys ∧ SRow w wx (.slice va nk vc) N.vals))
                        case first =>
                          as_aux_lemma =>
                            have hE : Below W3.heap.size W3 W3.drew := below_drewN _ _ 1
                            have hclt : gt < w.heap.size := HGT.out
                            have HCX : Hid (∀ W, Below w.heap.size w W → W.cell? ⟨gt, ot + k, none⟩ = some (.slice xa X.length xc)) := fun W hW => (hW.cell (p := ⟨gt, ot + k, none⟩) hclt).trans HCW.out
                            have mi0 := HM3.out.next hE
                            refine wp_region_held_drew (S := fun w' => w'.cell? ⟨gt, ot + k, none⟩ = some (.slice xa X.length xc)) (by kernel_rfl) (HCX.out _ mi0.ms.below) (fun st0 => ?_)
                            refine take_to 1 107 (.slice (some ⟨gt, ot, none⟩) ll tc) rfl (by kernel_rfl) (by kernel_rfl) (by kernel_rfl) (fun _ _ _ h => h) rfl (by rfl) (fun w hw => by rfl) st0 ?_
                            simp only [Act.put, List.setIfInBounds_toArray, List.set_cons_zero, List.set_cons_succ]
                            refine take_to 2 108 (.int .i64 (k : Int)) rfl (by kernel_rfl) (by kernel_rfl) (by kernel_rfl) (fun _ _ _ h => h) rfl (by rfl) (fun w hw => by rfl) st0 ?_
                            simp only [Act.put, List.setIfInBounds_toArray, List.set_cons_zero, List.set_cons_succ]
                            refine take_to 3 109 (.pointer (some ⟨gt, ot + k, none⟩)) rfl (by kernel_rfl) (by kernel_rfl) (by kernel_rfl) (fun _ _ _ h => h) rfl (by rfl) (fun w hw => op_index _ _ 22 (.tmp 107) (.tmp 108) rfl _ _ _ rfl rfl (run_index22 w gt ot ll tc k hl1)) st0 ?_
                            simp only [Act.put, List.setIfInBounds_toArray, List.set_cons_zero, List.set_cons_succ]
                            refine take_to 4 110 (.slice xa X.length xc) rfl (by kernel_rfl) (by kernel_rfl) (by kernel_rfl) (fun _ _ _ h => h) rfl (by rfl) (fun w hw => op_load _ _ 28 (.tmp 109) rfl (.pointer (some ⟨_, _, none⟩)) _ rfl (run_loadAny w _ _ 28 _ Try.isAgg28 hw)) st0 ?_
                            simp only [Act.put, List.setIfInBounds_toArray, List.set_cons_zero, List.set_cons_succ]
                            refine take_to 5 111 (.string (strOf V)) rfl (by kernel_rfl) (by kernel_rfl) (by kernel_rfl) (fun _ _ _ h => h) rfl (by rfl) (fun w hw => by rfl) st0 ?_
                            simp only [Act.put, List.setIfInBounds_toArray, List.set_cons_zero, List.set_cons_succ]
                            refine wpAnyH_all (rs := [0, 6]) (by kernel_rfl) (by simp) ?_
                            intro n hn
                            rcases (by simpa using hn : n = 0 ∨ n = 6) with rfl | rfl
                            · refine op_to 106 (.agg #[.bool true, .slice a1 nk c1, .slice a2 nk c2, .slice a3 0 c3, .int .i64 0]) W3.drew rfl rfl (by rfl) (op_load _ _ 26 (.tmp 5) rfl (.pointer (some ⟨_, 0, none⟩)) _ rfl (load26 mi0.ms.box)) ⟨HCX.out _ mi0.ms.below, ?_⟩
                              simp only [Act.put, List.setIfInBounds_toArray, List.set_cons_zero, List.set_cons_succ]
                              obtain ⟨cv, hrun, hbv, hsv0⟩ := strBytes W3.drew V
                              have hsv := hsv0 HVL.out
                              have mi1 := mi0.next hbv
                              refine step_to 6 112 _ _ rfl (by kernel_rfl) rfl (by rfl) (op_convW _ _ 9 28 (.tmp 111) rfl _ _ rfl hrun) (HCX.out _ mi1.ms.below) ?_
                              simp only [Act.put, List.setIfInBounds_toArray, List.set_cons_zero, List.set_cons_succ]
                              refine step_call3_to 7 113 10 rfl (by kernel_rfl) rfl (by rfl) (.tmp 106) (.tmp 110) (.tmp 112) _ rfl _ _ _ rfl rfl rfl Try.enters10 (putO HM.out.mp hk40 HXL.out HVL.out mi1.ms.own.at (HSLW.out.belowW mi1.ms.below) hsv) ?_
                              rintro e U2 ⟨m1, m2, m3, rfl, hb2, ho2⟩
                              have mi2 := mi1.next hb2
                              have hc2 := HCX.out _ mi2.ms.below
                              have ho3 : NdOwn w.heap.size U2 (putN N X V) m1 m2 m3 := ho2.mono mi1.ms.below.size
                              refine ⟨_, rfl, hc2, ?_⟩
                              simp only [Act.put, List.setIfInBounds_toArray, List.set_cons_zero, List.set_cons_succ]
                              have ms3 := mi2.ms.row ho3
                              refine step_store_to 8 (U2.setRow w.heap.size #[.bool true, m1, m2, m3, .int .i64 0]) rfl (by kernel_rfl) rfl (by rfl) 26 (.tmp 5) (.tmp 113) rfl (.pointer (some ⟨w.heap.size, 0, none⟩)) (.agg #[.bool true, m1, m2, m3, .int .i64 0]) rfl rfl (store26 mi2.ms.box _ _ _ _ _ (by rfl) (owns_one ho3.keys) (owns_one ho3.vals) (one_of_owns ho3.kids) (by rfl)) (HCX.out _ ms3.below) ?_
                              refine wpAnyH_done (by kernel_rfl) ?_ _
                              go_wp2_with fail
                              go_meet
                              exact ⟨m1, m2, m3, ms3, mi2.sk.oth (othRow mi2.ms.box _) (by decide), mi2.sv.oth (othRow mi2.ms.box _) (by decide)⟩
                            · obtain ⟨cv, hrun, hbv, hsv0⟩ := strBytes W3.drew V
                              have hsv := hsv0 HVL.out
                              have mi1 := mi0.next hbv
                              refine op_to 112 _ _ rfl rfl (by rfl) (op_convW _ _ 9 28 (.tmp 111) rfl _ _ rfl hrun) ⟨HCX.out _ mi1.ms.below, ?_⟩
                              simp only [Act.put, List.setIfInBounds_toArray, List.set_cons_zero, List.set_cons_succ]
                              refine step_to 0 106 (.agg #[.bool true, .slice a1 nk c1, .slice a2 nk c2, .slice a3 0 c3, .int .i64 0]) _ rfl (by kernel_rfl) rfl (by rfl) (op_load _ _ 26 (.tmp 5) rfl (.pointer (some ⟨_, 0, none⟩)) _ rfl (load26 mi1.ms.box)) (HCX.out _ mi1.ms.below) ?_
                              simp only [Act.put, List.setIfInBounds_toArray, List.set_cons_zero, List.set_cons_succ]
                              refine step_call3_to 7 113 10 rfl (by kernel_rfl) rfl (by rfl) (.tmp 106) (.tmp 110) (.tmp 112) _ rfl _ _ _ rfl rfl rfl Try.enters10 (putO HM.out.mp hk40 HXL.out HVL.out mi1.ms.own.at (HSLW.out.belowW mi1.ms.below) hsv) ?_
                              rintro e U2 ⟨m1, m2, m3, rfl, hb2, ho2⟩
                              have mi2 := mi1.next hb2
                              have hc2 := HCX.out _ mi2.ms.below
                              have ho3 : NdOwn w.heap.size U2 (putN N X V) m1 m2 m3 := ho2.mono mi1.ms.below.size
                              refine ⟨_, rfl, hc2, ?_⟩
                              simp only [Act.put, List.setIfInBounds_toArray, List.set_cons_zero, List.set_cons_succ]
                              have ms3 := mi2.ms.row ho3
                              refine step_store_to 8 (U2.setRow w.heap.size #[.bool true, m1, m2, m3, .int .i64 0]) rfl (by kernel_rfl) rfl (by rfl) 26 (.tmp 5) (.tmp 113) rfl (.pointer (some ⟨w.heap.size, 0, none⟩)) (.agg #[.bool true, m1, m2, m3, .int .i64 0]) rfl rfl (store26 mi2.ms.box _ _ _ _ _ (by rfl) (owns_one ho3.keys) (owns_one ho3.vals) (one_of_owns ho3.kids) (by rfl)) (HCX.out _ ms3.below) ?_
                              refine wpAnyH_done (by kernel_rfl) ?_ _
                              go_wp2_with fail
                              go_meet
                              exact ⟨m1, m2, m3, ms3, mi2.sk.oth (othRow mi2.ms.box _) (by decide), mi2.sv.oth (othRow mi2.ms.box _) (by decide)⟩
                        case rest =>
                          obtain ⟨m1, m2, m3, HS4⟩ := hcut
                          generalize wc = W4 at *
                          generalize hasK N.keys X = hh at *
                          cases hh with
                          | true =>
                            have hpn : pp < nk := HPL.out (by first | rfl | trivial)
                            obtain ⟨g4, hq4, hc4, hf4⟩ := HS4.out.2.2.get pp (by rw [HNV.out]; exact hpn)
                            subst hq4
                            obtain ⟨hr5, ho5, hg5⟩ := HS4.out.2.2.set pp (by rw [HNV.out]; exact hpn) V
                            have HM5 := hide (HS4.out.1.set ho5 hg5)
                            have HV5 := hide hr5
                            have HK5 : Hid (SRow w (W4.setCell ⟨g4, pp, none⟩ (.string (strOf V))) (.slice ka nk kc) N.keys) := ⟨owns_stay HS4.out.2.1.own (fun q hq => set_stay _ _ _ (fun e => HM.out.ap q hq (by rw [e]; rfl)))⟩
                            clear hr5 ho5 hg5
                            generalize strOf V = sv at *
                            generalize strOf (N.vals.getD pp []) = sq at *
                            go_wp2_with fail
                            go_meet
                            have hD := HPI.out (by first | rfl | trivial)
                            refine ⟨putN N X V, m1, m2, m3, HMP.out, HM5.out, ?_, ?_, HM.out.ap⟩
                            · rw [hD]
                              exact HK5.out
                            · rw [hD]
                              exact HV5.out
                          | false =>
                            go_upto_region 23 with fail
                            go_cut [6] (fun kv2 wx => Hid (New w W4 wx kv2 ([] ++ N.keys.take pp ++ [X] ++ N.keys.drop pp)))
                            case first =>
                              as_aux_lemma =>
                                have hple : pp ≤ nk := HPLE.out
                                have hr0 := HS4.out.2.1
                                have ht : Row W4 (.slice ka pp kc) pp (strCells (N.keys.take pp)) := hr0.to pp (by rw [HNK.out]; omega)
                                have hf : Row W4 (.slice (cutAt ka kc pp) (nk - pp) (kc - pp)) (nk - pp) (strCells (N.keys.drop pp)) := by
                                  have := hr0.from pp (by rw [HNK.out]; omega)
                                  rw [HNK.out] at this
                                  exact this
                                have hl1 : (N.keys.take pp).length = pp := by rw [List.length_take, HNK.out]; omega
                                have hl2 : (N.keys.drop pp).length = nk - pp := by rw [List.length_drop, HNK.out]
                                have hl3 : (([] : List (List UInt8)) ++ N.keys.take pp ++ [X]).length = 0 + pp + 1 := by simp [hl1]
                                have hq2 : W4.heap.size ≤ W4.drew.heap.size := Nat.le_refl _
                                refine wp_region_held_drew (S := fun _ => True) (by kernel_rfl) trivial (fun _ => ?_)
                                refine take_to 1 120 (.slice ka nk kc) rfl (by kernel_rfl) (by kernel_rfl) (by kernel_rfl) (fun _ _ _ h => h) rfl (by rfl) (fun w hw => by rfl) trivial ?_
                                simp only [Act.put, List.setIfInBounds_toArray, List.set_cons_zero, List.set_cons_succ]
                                refine take_to 2 121 (.int .i64 (pp : Int)) rfl (by kernel_rfl) (by kernel_rfl) (by kernel_rfl) (fun _ _ _ h => h) rfl (by rfl) (fun w hw => by rfl) trivial ?_
                                simp only [Act.put, List.setIfInBounds_toArray, List.set_cons_zero, List.set_cons_succ]
                                refine take_to 3 122 (.slice ka pp kc) rfl (by kernel_rfl) (by kernel_rfl) (by kernel_rfl) (fun _ _ _ h => h) rfl (by rfl) (fun w hw => op_cut _ _ 27 (.tmp 120) none (some (.tmp 121)) none rfl _ _ rfl (run_cut27_to w ka nk kc pp (by omega))) trivial ?_
                                simp only [Act.put, List.setIfInBounds_toArray, List.set_cons_zero, List.set_cons_succ]
                                refine take_to 5 124 (.string (strOf X)) rfl (by kernel_rfl) (by kernel_rfl) (by kernel_rfl) (fun _ _ _ h => h) rfl (by rfl) (fun w hw => by rfl) trivial ?_
                                simp only [Act.put, List.setIfInBounds_toArray, List.set_cons_zero, List.set_cons_succ]
                                refine take_to 8 127 (.slice ka nk kc) rfl (by kernel_rfl) (by kernel_rfl) (by kernel_rfl) (fun _ _ _ h => h) rfl (by rfl) (fun w hw => by rfl) trivial ?_
                                simp only [Act.put, List.setIfInBounds_toArray, List.set_cons_zero, List.set_cons_succ]
                                refine take_to 9 128 (.int .i64 (pp : Int)) rfl (by kernel_rfl) (by kernel_rfl) (by kernel_rfl) (fun _ _ _ h => h) rfl (by rfl) (fun w hw => by rfl) trivial ?_
                                simp only [Act.put, List.setIfInBounds_toArray, List.set_cons_zero, List.set_cons_succ]
                                refine take_to 10 129 (.slice (cutAt ka kc pp) (nk - pp) (kc - pp)) rfl (by kernel_rfl) (by kernel_rfl) (by kernel_rfl) (fun _ _ _ h => h) rfl (by rfl) (fun w hw => op_cut _ _ 27 (.tmp 127) (some (.tmp 128)) none none rfl _ _ rfl (run_cut27_from w ka nk kc pp (by omega))) trivial ?_
                                simp only [Act.put, List.setIfInBounds_toArray, List.set_cons_zero, List.set_cons_succ]
                                generalize hU0 : W4.drew = U0 at hq2 ⊢
                                have hb00 : Below W4.heap.size W4 U0 := by rw [← hU0]; exact below_drewN _ _ 1
                                clear hU0
                                refine wpAnyH_all (rs := [0, 6]) (by kernel_rfl) (by simp) ?_
                                intro n hn
                                rcases (by simpa using hn : n = 0 ∨ n = 6) with rfl | rfl
                                · refine op_to 119 (.slice (some ⟨U0.heap.size, 0, none⟩) 0 0) (U0.alloc (.cells #[] 9)) rfl rfl (by rfl) (op_build27_0 _ _ rfl _) ⟨trivial, ?_⟩
                                  simp only [Act.put, List.setIfInBounds_toArray, List.set_cons_zero, List.set_cons_succ]
                                  have hn0 : New w W4 (U0.alloc (.cells #[] 9)) (.slice (some ⟨U0.heap.size, 0, none⟩) 0 0) [] := ⟨hb00.alloc hb00.size _, owns_new U0 W4.heap.size 9 hq2⟩
                                  refine wpAnyH_all (rs := [4, 6]) (by kernel_rfl) (by simp) ?_
                                  intro n hn
                                  rcases (by simpa using hn : n = 4 ∨ n = 6) with rfl | rfl
                                  · refine op_append_row 123 rfl rfl rfl (.tmp 119) (.tmp 122) 27 rfl W4.heap.size 9 (.string { data := #[] }) 1 16 Try.underlying27 Try.info9 rfl (by omega) (.slice (some ⟨U0.heap.size, 0, none⟩) 0 0) 0 (strCells []) _ pp (strCells (N.keys.take pp)) rfl rfl hn0.own (ht.belowW hn0.below) (by rw [length_strCells, hl1]; omega) (one_strCells _) (by omega) (by omega) hn0.below.size ?_
                                    intro v1 U3 ho1 hg1
                                    have hn1 := hn0.grow rfl hl1 ho1 hg1
                                    refine ⟨trivial, ?_⟩
                                    simp only [Act.put, List.setIfInBounds_toArray, List.set_cons_zero, List.set_cons_succ]
                                    have hal := (Below.refl U3.heap.size U3).alloc (Nat.le_refl _) (.cells #[.string (strOf X)] 9)
                                    refine step_to 6 125 (.slice (some ⟨U3.heap.size, 0, none⟩) 1 1) (U3.alloc (.cells #[.string (strOf X)] 9)) rfl (by kernel_rfl) rfl (by rfl) (op_buildStr _ _ (.tmp 124) rfl _ rfl _) trivial ?_
                                    simp only [Act.put, List.setIfInBounds_toArray, List.set_cons_zero, List.set_cons_succ]
                                    have hx1 := row_one U3 X
                                    replace hn1 := hn1.next hal
                                    refine step_append_row 7 126 rfl (by kernel_rfl) rfl rfl (.tmp 123) (.tmp 125) 27 rfl W4.heap.size 9 (.string { data := #[] }) 1 16 Try.underlying27 Try.info9 rfl (by omega) _ (0 + pp) (strCells ([] ++ N.keys.take pp)) _ 1 (strCells [X]) rfl rfl (by have := hn1.own; rw [List.nil_append, hl1] at this; rw [List.nil_append, Nat.zero_add]; exact this) (hx1) rfl (one_strCells _) (by omega) (by omega) hn1.below.size ?_
                                    intro v2 U5 ho2 hg2
                                    have hn2 := hn1.grow (by rw [List.nil_append, hl1]; omega) rfl ho2 hg2
                                    refine ⟨trivial, ?_⟩
                                    simp only [Act.put, List.setIfInBounds_toArray, List.set_cons_zero, List.set_cons_succ]
                                    refine step_append_row 11 130 rfl (by kernel_rfl) rfl rfl (.tmp 126) (.tmp 129) 27 rfl W4.heap.size 9 (.string { data := #[] }) 1 16 Try.underlying27 Try.info9 rfl (by omega) _ (0 + pp + 1) (strCells ([] ++ N.keys.take pp ++ [X])) _ (nk - pp) (strCells (N.keys.drop pp)) rfl rfl (by have := hn2.own; rw [hl3] at this; exact this) (hf.belowW hn2.below) (by rw [length_strCells, hl2]; omega) (one_strCells _) (by omega) (by omega) hn2.below.size ?_
                                    intro v3 U6 ho3 hg3
                                    have hn3 := hn2.grow (by simp [hl1]) hl2 ho3 hg3
                                    refine ⟨trivial, ?_⟩
                                    simp only [Act.put, List.setIfInBounds_toArray, List.set_cons_zero, List.set_cons_succ]
                                    refine take_to 12 6 (v3) rfl (by kernel_rfl) (by kernel_rfl) (by kernel_rfl) (fun _ _ _ h => h) rfl (by rfl) (fun w hw => by rfl) trivial ?_
                                    simp only [Act.put, List.setIfInBounds_toArray, List.set_cons_zero, List.set_cons_succ]
                                    refine wpAnyH_done (by kernel_rfl) ?_ _
                                    go_wp2_with fail
                                    go_meet
                                    exact hn3
                                  · have hal := (Below.refl (U0.alloc (.cells #[] 9)).heap.size (U0.alloc (.cells #[] 9))).alloc (Nat.le_refl _) (.cells #[.string (strOf X)] 9)
                                    refine op_to 125 (.slice (some ⟨(U0.alloc (.cells #[] 9)).heap.size, 0, none⟩) 1 1) ((U0.alloc (.cells #[] 9)).alloc (.cells #[.string (strOf X)] 9)) rfl rfl (by rfl) (op_buildStr _ _ (.tmp 124) rfl _ rfl _) ⟨trivial, ?_⟩
                                    simp only [Act.put, List.setIfInBounds_toArray, List.set_cons_zero, List.set_cons_succ]
                                    have hx0 := row_one (U0.alloc (.cells #[] 9)) X
                                    replace hn0 := hn0.next hal
                                    refine step_append_row 4 123 rfl (by kernel_rfl) rfl rfl (.tmp 119) (.tmp 122) 27 rfl W4.heap.size 9 (.string { data := #[] }) 1 16 Try.underlying27 Try.info9 rfl (by omega) (.slice (some ⟨U0.heap.size, 0, none⟩) 0 0) 0 (strCells []) _ pp (strCells (N.keys.take pp)) rfl rfl hn0.own (ht.belowW hn0.below) (by rw [length_strCells, hl1]; omega) (one_strCells _) (by omega) (by omega) hn0.below.size ?_
                                    intro v1 U3 ho1 hg1
                                    have hn1 := hn0.grow rfl hl1 ho1 hg1
                                    refine ⟨trivial, ?_⟩
                                    simp only [Act.put, List.setIfInBounds_toArray, List.set_cons_zero, List.set_cons_succ]
                                    have hx1 := rowKeep hx0 hg1 (by simp [Value.ownBlock]) (by simp)
                                    refine step_append_row 7 126 rfl (by kernel_rfl) rfl rfl (.tmp 123) (.tmp 125) 27 rfl W4.heap.size 9 (.string { data := #[] }) 1 16 Try.underlying27 Try.info9 rfl (by omega) _ (0 + pp) (strCells ([] ++ N.keys.take pp)) _ 1 (strCells [X]) rfl rfl (by have := hn1.own; rw [List.nil_append, hl1] at this; rw [List.nil_append, Nat.zero_add]; exact this) (hx1) rfl (one_strCells _) (by omega) (by omega) hn1.below.size ?_
                                    intro v2 U5 ho2 hg2
                                    have hn2 := hn1.grow (by rw [List.nil_append, hl1]; omega) rfl ho2 hg2
                                    refine ⟨trivial, ?_⟩
                                    simp only [Act.put, List.setIfInBounds_toArray, List.set_cons_zero, List.set_cons_succ]
                                    refine step_append_row 11 130 rfl (by kernel_rfl) rfl rfl (.tmp 126) (.tmp 129) 27 rfl W4.heap.size 9 (.string { data := #[] }) 1 16 Try.underlying27 Try.info9 rfl (by omega) _ (0 + pp + 1) (strCells ([] ++ N.keys.take pp ++ [X])) _ (nk - pp) (strCells (N.keys.drop pp)) rfl rfl (by have := hn2.own; rw [hl3] at this; exact this) (hf.belowW hn2.below) (by rw [length_strCells, hl2]; omega) (one_strCells _) (by omega) (by omega) hn2.below.size ?_
                                    intro v3 U6 ho3 hg3
                                    have hn3 := hn2.grow (by simp [hl1]) hl2 ho3 hg3
                                    refine ⟨trivial, ?_⟩
                                    simp only [Act.put, List.setIfInBounds_toArray, List.set_cons_zero, List.set_cons_succ]
                                    refine take_to 12 6 (v3) rfl (by kernel_rfl) (by kernel_rfl) (by kernel_rfl) (fun _ _ _ h => h) rfl (by rfl) (fun w hw => by rfl) trivial ?_
                                    simp only [Act.put, List.setIfInBounds_toArray, List.set_cons_zero, List.set_cons_succ]
                                    refine wpAnyH_done (by kernel_rfl) ?_ _
                                    go_wp2_with fail
                                    go_meet
                                    exact hn3
                                · refine op_to 125 (.slice (some ⟨U0.heap.size, 0, none⟩) 1 1) (U0.alloc (.cells #[.string (strOf X)] 9)) rfl rfl (by rfl) (op_buildStr _ _ (.tmp 124) rfl _ rfl _) ⟨trivial, ?_⟩
                                  simp only [Act.put, List.setIfInBounds_toArray, List.set_cons_zero, List.set_cons_succ]
                                  have hx0 := row_one U0 X
                                  have hfz : Below U0.heap.size U0 (U0.alloc (.cells #[.string (strOf X)] 9)) := (Below.refl _ _).alloc (Nat.le_refl _) _
                                  have hn0 : New w W4 ((U0.alloc (.cells #[.string (strOf X)] 9)).alloc (.cells #[] 9)) (.slice (some ⟨(U0.alloc (.cells #[.string (strOf X)] 9)).heap.size, 0, none⟩) 0 0) [] := ⟨(hb00.alloc hb00.size _).alloc (hb00.alloc hb00.size _).size _, owns_new (U0.alloc (.cells #[.string (strOf X)] 9)) W4.heap.size 9 (Nat.le_trans hq2 hfz.size)⟩
                                  have hal := (Below.refl (U0.alloc (.cells #[.string (strOf X)] 9)).heap.size (U0.alloc (.cells #[.string (strOf X)] 9))).alloc (Nat.le_refl _) (.cells #[] 9)
                                  refine step_to 0 119 (.slice (some ⟨(U0.alloc (.cells #[.string (strOf X)] 9)).heap.size, 0, none⟩) 0 0) ((U0.alloc (.cells #[.string (strOf X)] 9)).alloc (.cells #[] 9)) rfl (by kernel_rfl) rfl (by rfl) (op_build27_0 _ _ rfl _) trivial ?_
                                  simp only [Act.put, List.setIfInBounds_toArray, List.set_cons_zero, List.set_cons_succ]
                                  refine step_append_row 4 123 rfl (by kernel_rfl) rfl rfl (.tmp 119) (.tmp 122) 27 rfl W4.heap.size 9 (.string { data := #[] }) 1 16 Try.underlying27 Try.info9 rfl (by omega) (.slice (some ⟨(U0.alloc (.cells #[.string (strOf X)] 9)).heap.size, 0, none⟩) 0 0) 0 (strCells []) _ pp (strCells (N.keys.take pp)) rfl rfl hn0.own (ht.belowW hn0.below) (by rw [length_strCells, hl1]; omega) (one_strCells _) (by omega) (by omega) hn0.below.size ?_
                                  intro v1 U3 ho1 hg1
                                  have hn1 := hn0.grow rfl hl1 ho1 hg1
                                  refine ⟨trivial, ?_⟩
                                  simp only [Act.put, List.setIfInBounds_toArray, List.set_cons_zero, List.set_cons_succ]
                                  have hx1 := rowKeep (hx0.belowW hal) hg1 (by simp [Value.ownBlock]) (by simp; omega)
                                  refine step_append_row 7 126 rfl (by kernel_rfl) rfl rfl (.tmp 123) (.tmp 125) 27 rfl W4.heap.size 9 (.string { data := #[] }) 1 16 Try.underlying27 Try.info9 rfl (by omega) _ (0 + pp) (strCells ([] ++ N.keys.take pp)) _ 1 (strCells [X]) rfl rfl (by have := hn1.own; rw [List.nil_append, hl1] at this; rw [List.nil_append, Nat.zero_add]; exact this) (hx1) rfl (one_strCells _) (by omega) (by omega) hn1.below.size ?_
                                  intro v2 U5 ho2 hg2
                                  have hn2 := hn1.grow (by rw [List.nil_append, hl1]; omega) rfl ho2 hg2
                                  refine ⟨trivial, ?_⟩
                                  simp only [Act.put, List.setIfInBounds_toArray, List.set_cons_zero, List.set_cons_succ]
                                  refine step_append_row 11 130 rfl (by kernel_rfl) rfl rfl (.tmp 126) (.tmp 129) 27 rfl W4.heap.size 9 (.string { data := #[] }) 1 16 Try.underlying27 Try.info9 rfl (by omega) _ (0 + pp + 1) (strCells ([] ++ N.keys.take pp ++ [X])) _ (nk - pp) (strCells (N.keys.drop pp)) rfl rfl (by have := hn2.own; rw [hl3] at this; exact this) (hf.belowW hn2.below) (by rw [length_strCells, hl2]; omega) (one_strCells _) (by omega) (by omega) hn2.below.size ?_
                                  intro v3 U6 ho3 hg3
                                  have hn3 := hn2.grow (by simp [hl1]) hl2 ho3 hg3
                                  refine ⟨trivial, ?_⟩
                                  simp only [Act.put, List.setIfInBounds_toArray, List.set_cons_zero, List.set_cons_succ]
                                  refine take_to 12 6 (v3) rfl (by kernel_rfl) (by kernel_rfl) (by kernel_rfl) (fun _ _ _ h => h) rfl (by rfl) (fun w hw => by rfl) trivial ?_
                                  simp only [Act.put, List.setIfInBounds_toArray, List.set_cons_zero, List.set_cons_succ]
                                  refine wpAnyH_done (by kernel_rfl) ?_ _
                                  go_wp2_with fail
                                  go_meet
                                  exact hn3
                            case rest =>
                              have HN6 := hcut
                              clear hcut
                              obtain ⟨kb, kd, ek⟩ := owns_len HN6.out.own
                              generalize ([] ++ N.keys.take pp ++ [X] ++ N.keys.drop pp).length = rk at ek
                              subst ek
                              have HV6 := hide (HS4.out.2.2.next HN6.out.below)
                              have HM6 := hide (HS4.out.1.next HN6.out.below)
                              have HK6 := hide (HN6.out.row HS4.out.1.below.size)
                              generalize wc = W6 at *
                              go_upto_region 24 with fail
                              as_aux_lemma =>
                                have hple : pp ≤ nk := HPLE.out
                                have hr0 := HV6.out
                                have ht : Row W6 (.slice va pp vc) pp (strCells (N.vals.take pp)) := hr0.to pp (by rw [HNV.out]; omega)
                                have hf : Row W6 (.slice (cutAt va vc pp) (nk - pp) (vc - pp)) (nk - pp) (strCells (N.vals.drop pp)) := by
                                  have := hr0.from pp (by rw [HNV.out]; omega)
                                  rw [HNV.out] at this
                                  exact this
                                have hl1 : (N.vals.take pp).length = pp := by rw [List.length_take, HNV.out]; omega
                                have hl2 : (N.vals.drop pp).length = nk - pp := by rw [List.length_drop, HNV.out]
                                have hl3 : (([] : List (List UInt8)) ++ N.vals.take pp ++ [V]).length = 0 + pp + 1 := by simp [hl1]
                                have hq2 : W6.heap.size ≤ W6.drew.heap.size := Nat.le_refl _
                                refine wp_region_held_drew (S := fun _ => True) (by kernel_rfl) trivial (fun _ => ?_)
                                refine take_to 1 132 (.slice va nk vc) rfl (by kernel_rfl) (by kernel_rfl) (by kernel_rfl) (fun _ _ _ h => h) rfl (by rfl) (fun w hw => by rfl) trivial ?_
                                simp only [Act.put, List.setIfInBounds_toArray, List.set_cons_zero, List.set_cons_succ]
                                refine take_to 2 133 (.int .i64 (pp : Int)) rfl (by kernel_rfl) (by kernel_rfl) (by kernel_rfl) (fun _ _ _ h => h) rfl (by rfl) (fun w hw => by rfl) trivial ?_
                                simp only [Act.put, List.setIfInBounds_toArray, List.set_cons_zero, List.set_cons_succ]
                                refine take_to 3 134 (.slice va pp vc) rfl (by kernel_rfl) (by kernel_rfl) (by kernel_rfl) (fun _ _ _ h => h) rfl (by rfl) (fun w hw => op_cut _ _ 27 (.tmp 132) none (some (.tmp 133)) none rfl _ _ rfl (run_cut27_to w va nk vc pp (by omega))) trivial ?_
                                simp only [Act.put, List.setIfInBounds_toArray, List.set_cons_zero, List.set_cons_succ]
                                refine take_to 5 136 (.string (strOf V)) rfl (by kernel_rfl) (by kernel_rfl) (by kernel_rfl) (fun _ _ _ h => h) rfl (by rfl) (fun w hw => by rfl) trivial ?_
                                simp only [Act.put, List.setIfInBounds_toArray, List.set_cons_zero, List.set_cons_succ]
                                refine take_to 8 139 (.slice va nk vc) rfl (by kernel_rfl) (by kernel_rfl) (by kernel_rfl) (fun _ _ _ h => h) rfl (by rfl) (fun w hw => by rfl) trivial ?_
                                simp only [Act.put, List.setIfInBounds_toArray, List.set_cons_zero, List.set_cons_succ]
                                refine take_to 9 140 (.int .i64 (pp : Int)) rfl (by kernel_rfl) (by kernel_rfl) (by kernel_rfl) (fun _ _ _ h => h) rfl (by rfl) (fun w hw => by rfl) trivial ?_
                                simp only [Act.put, List.setIfInBounds_toArray, List.set_cons_zero, List.set_cons_succ]
                                refine take_to 10 141 (.slice (cutAt va vc pp) (nk - pp) (vc - pp)) rfl (by kernel_rfl) (by kernel_rfl) (by kernel_rfl) (fun _ _ _ h => h) rfl (by rfl) (fun w hw => op_cut _ _ 27 (.tmp 139) (some (.tmp 140)) none none rfl _ _ rfl (run_cut27_from w va nk vc pp (by omega))) trivial ?_
                                simp only [Act.put, List.setIfInBounds_toArray, List.set_cons_zero, List.set_cons_succ]
                                generalize hU0 : W6.drew = U0 at hq2 ⊢
                                have hb00 : Below W6.heap.size W6 U0 := by rw [← hU0]; exact below_drewN _ _ 1
                                clear hU0
                                refine wpAnyH_all (rs := [0, 6]) (by kernel_rfl) (by simp) ?_
                                intro n hn
                                rcases (by simpa using hn : n = 0 ∨ n = 6) with rfl | rfl
                                · refine op_to 131 (.slice (some ⟨U0.heap.size, 0, none⟩) 0 0) (U0.alloc (.cells #[] 9)) rfl rfl (by rfl) (op_build27_0 _ _ rfl _) ⟨trivial, ?_⟩
                                  simp only [Act.put, List.setIfInBounds_toArray, List.set_cons_zero, List.set_cons_succ]
                                  have hn0 : New w W6 (U0.alloc (.cells #[] 9)) (.slice (some ⟨U0.heap.size, 0, none⟩) 0 0) [] := ⟨hb00.alloc hb00.size _, owns_new U0 W6.heap.size 9 hq2⟩
                                  refine wpAnyH_all (rs := [4, 6]) (by kernel_rfl) (by simp) ?_
                                  intro n hn
                                  rcases (by simpa using hn : n = 4 ∨ n = 6) with rfl | rfl
                                  · refine op_append_row 135 rfl rfl rfl (.tmp 131) (.tmp 134) 27 rfl W6.heap.size 9 (.string { data := #[] }) 1 16 Try.underlying27 Try.info9 rfl (by omega) (.slice (some ⟨U0.heap.size, 0, none⟩) 0 0) 0 (strCells []) _ pp (strCells (N.vals.take pp)) rfl rfl hn0.own (ht.belowW hn0.below) (by rw [length_strCells, hl1]; omega) (one_strCells _) (by omega) (by omega) hn0.below.size ?_
                                    intro v1 U3 ho1 hg1
                                    have hn1 := hn0.grow rfl hl1 ho1 hg1
                                    refine ⟨trivial, ?_⟩
                                    simp only [Act.put, List.setIfInBounds_toArray, List.set_cons_zero, List.set_cons_succ]
                                    have hal := (Below.refl U3.heap.size U3).alloc (Nat.le_refl _) (.cells #[.string (strOf V)] 9)
                                    refine step_to 6 137 (.slice (some ⟨U3.heap.size, 0, none⟩) 1 1) (U3.alloc (.cells #[.string (strOf V)] 9)) rfl (by kernel_rfl) rfl (by rfl) (op_buildStr _ _ (.tmp 136) rfl _ rfl _) trivial ?_
                                    simp only [Act.put, List.setIfInBounds_toArray, List.set_cons_zero, List.set_cons_succ]
                                    have hx1 := row_one U3 V
                                    replace hn1 := hn1.next hal
                                    refine step_append_row 7 138 rfl (by kernel_rfl) rfl rfl (.tmp 135) (.tmp 137) 27 rfl W6.heap.size 9 (.string { data := #[] }) 1 16 Try.underlying27 Try.info9 rfl (by omega) _ (0 + pp) (strCells ([] ++ N.vals.take pp)) _ 1 (strCells [V]) rfl rfl (by have := hn1.own; rw [List.nil_append, hl1] at this; rw [List.nil_append, Nat.zero_add]; exact this) (hx1) rfl (one_strCells _) (by omega) (by omega) hn1.below.size ?_
                                    intro v2 U5 ho2 hg2
                                    have hn2 := hn1.grow (by rw [List.nil_append, hl1]; omega) rfl ho2 hg2
                                    refine ⟨trivial, ?_⟩
                                    simp only [Act.put, List.setIfInBounds_toArray, List.set_cons_zero, List.set_cons_succ]
                                    refine step_append_row 11 142 rfl (by kernel_rfl) rfl rfl (.tmp 138) (.tmp 141) 27 rfl W6.heap.size 9 (.string { data := #[] }) 1 16 Try.underlying27 Try.info9 rfl (by omega) _ (0 + pp + 1) (strCells ([] ++ N.vals.take pp ++ [V])) _ (nk - pp) (strCells (N.vals.drop pp)) rfl rfl (by have := hn2.own; rw [hl3] at this; exact this) (hf.belowW hn2.below) (by rw [length_strCells, hl2]; omega) (one_strCells _) (by omega) (by omega) hn2.below.size ?_
                                    intro v3 U6 ho3 hg3
                                    have hn3 := hn2.grow (by simp [hl1]) hl2 ho3 hg3
                                    refine ⟨trivial, ?_⟩
                                    simp only [Act.put, List.setIfInBounds_toArray, List.set_cons_zero, List.set_cons_succ]
                                    refine take_to 12 7 (v3) rfl (by kernel_rfl) (by kernel_rfl) (by kernel_rfl) (fun _ _ _ h => h) rfl (by rfl) (fun w hw => by rfl) trivial ?_
                                    simp only [Act.put, List.setIfInBounds_toArray, List.set_cons_zero, List.set_cons_succ]
                                    refine wpAnyH_done (by kernel_rfl) ?_ _
                                    go_wp2_with fail
                                    go_meet
                                    have hD := HPN.out (by first | rfl | trivial)
                                    refine ⟨putN N X V, m1, m2, m3, HMP.out, HM6.out.next hn3.below, ?_, ?_, fun g h1 h2 => hn3.ap HK6.out g h2 h1⟩
                                    · rw [hD]
                                      exact HK6.out.next hn3.below
                                    · rw [hD]
                                      exact hn3.row HM6.out.below.size
                                  · have hal := (Below.refl (U0.alloc (.cells #[] 9)).heap.size (U0.alloc (.cells #[] 9))).alloc (Nat.le_refl _) (.cells #[.string (strOf V)] 9)
                                    refine op_to 137 (.slice (some ⟨(U0.alloc (.cells #[] 9)).heap.size, 0, none⟩) 1 1) ((U0.alloc (.cells #[] 9)).alloc (.cells #[.string (strOf V)] 9)) rfl rfl (by rfl) (op_buildStr _ _ (.tmp 136) rfl _ rfl _) ⟨trivial, ?_⟩
                                    simp only [Act.put, List.setIfInBounds_toArray, List.set_cons_zero, List.set_cons_succ]
                                    have hx0 := row_one (U0.alloc (.cells #[] 9)) V
                                    replace hn0 := hn0.next hal
                                    refine step_append_row 4 135 rfl (by kernel_rfl) rfl rfl (.tmp 131) (.tmp 134) 27 rfl W6.heap.size 9 (.string { data := #[] }) 1 16 Try.underlying27 Try.info9 rfl (by omega) (.slice (some ⟨U0.heap.size, 0, none⟩) 0 0) 0 (strCells []) _ pp (strCells (N.vals.take pp)) rfl rfl hn0.own (ht.belowW hn0.below) (by rw [length_strCells, hl1]; omega) (one_strCells _) (by omega) (by omega) hn0.below.size ?_
                                    intro v1 U3 ho1 hg1
                                    have hn1 := hn0.grow rfl hl1 ho1 hg1
                                    refine ⟨trivial, ?_⟩
                                    simp only [Act.put, List.setIfInBounds_toArray, List.set_cons_zero, List.set_cons_succ]
                                    have hx1 := rowKeep hx0 hg1 (by simp [Value.ownBlock]) (by simp)
                                    refine step_append_row 7 138 rfl (by kernel_rfl) rfl rfl (.tmp 135) (.tmp 137) 27 rfl W6.heap.size 9 (.string { data := #[] }) 1 16 Try.underlying27 Try.info9 rfl (by omega) _ (0 + pp) (strCells ([] ++ N.vals.take pp)) _ 1 (strCells [V]) rfl rfl (by have := hn1.own; rw [List.nil_append, hl1] at this; rw [List.nil_append, Nat.zero_add]; exact this) (hx1) rfl (one_strCells _) (by omega) (by omega) hn1.below.size ?_
                                    intro v2 U5 ho2 hg2
                                    have hn2 := hn1.grow (by rw [List.nil_append, hl1]; omega) rfl ho2 hg2
                                    refine ⟨trivial, ?_⟩
                                    simp only [Act.put, List.setIfInBounds_toArray, List.set_cons_zero, List.set_cons_succ]
                                    refine step_append_row 11 142 rfl (by kernel_rfl) rfl rfl (.tmp 138) (.tmp 141) 27 rfl W6.heap.size 9 (.string { data := #[] }) 1 16 Try.underlying27 Try.info9 rfl (by omega) _ (0 + pp + 1) (strCells ([] ++ N.vals.take pp ++ [V])) _ (nk - pp) (strCells (N.vals.drop pp)) rfl rfl (by have := hn2.own; rw [hl3] at this; exact this) (hf.belowW hn2.below) (by rw [length_strCells, hl2]; omega) (one_strCells _) (by omega) (by omega) hn2.below.size ?_
                                    intro v3 U6 ho3 hg3
                                    have hn3 := hn2.grow (by simp [hl1]) hl2 ho3 hg3
                                    refine ⟨trivial, ?_⟩
                                    simp only [Act.put, List.setIfInBounds_toArray, List.set_cons_zero, List.set_cons_succ]
                                    refine take_to 12 7 (v3) rfl (by kernel_rfl) (by kernel_rfl) (by kernel_rfl) (fun _ _ _ h => h) rfl (by rfl) (fun w hw => by rfl) trivial ?_
                                    simp only [Act.put, List.setIfInBounds_toArray, List.set_cons_zero, List.set_cons_succ]
                                    refine wpAnyH_done (by kernel_rfl) ?_ _
                                    go_wp2_with fail
                                    go_meet
                                    have hD := HPN.out (by first | rfl | trivial)
                                    refine ⟨putN N X V, m1, m2, m3, HMP.out, HM6.out.next hn3.below, ?_, ?_, fun g h1 h2 => hn3.ap HK6.out g h2 h1⟩
                                    · rw [hD]
                                      exact HK6.out.next hn3.below
                                    · rw [hD]
                                      exact hn3.row HM6.out.below.size
                                · refine op_to 137 (.slice (some ⟨U0.heap.size, 0, none⟩) 1 1) (U0.alloc (.cells #[.string (strOf V)] 9)) rfl rfl (by rfl) (op_buildStr _ _ (.tmp 136) rfl _ rfl _) ⟨trivial, ?_⟩
                                  simp only [Act.put, List.setIfInBounds_toArray, List.set_cons_zero, List.set_cons_succ]
                                  have hx0 := row_one U0 V
                                  have hfz : Below U0.heap.size U0 (U0.alloc (.cells #[.string (strOf V)] 9)) := (Below.refl _ _).alloc (Nat.le_refl _) _
                                  have hn0 : New w W6 ((U0.alloc (.cells #[.string (strOf V)] 9)).alloc (.cells #[] 9)) (.slice (some ⟨(U0.alloc (.cells #[.string (strOf V)] 9)).heap.size, 0, none⟩) 0 0) [] := ⟨(hb00.alloc hb00.size _).alloc (hb00.alloc hb00.size _).size _, owns_new (U0.alloc (.cells #[.string (strOf V)] 9)) W6.heap.size 9 (Nat.le_trans hq2 hfz.size)⟩
                                  have hal := (Below.refl (U0.alloc (.cells #[.string (strOf V)] 9)).heap.size (U0.alloc (.cells #[.string (strOf V)] 9))).alloc (Nat.le_refl _) (.cells #[] 9)
                                  refine step_to 0 131 (.slice (some ⟨(U0.alloc (.cells #[.string (strOf V)] 9)).heap.size, 0, none⟩) 0 0) ((U0.alloc (.cells #[.string (strOf V)] 9)).alloc (.cells #[] 9)) rfl (by kernel_rfl) rfl (by rfl) (op_build27_0 _ _ rfl _) trivial ?_
                                  simp only [Act.put, List.setIfInBounds_toArray, List.set_cons_zero, List.set_cons_succ]
                                  refine step_append_row 4 135 rfl (by kernel_rfl) rfl rfl (.tmp 131) (.tmp 134) 27 rfl W6.heap.size 9 (.string { data := #[] }) 1 16 Try.underlying27 Try.info9 rfl (by omega) (.slice (some ⟨(U0.alloc (.cells #[.string (strOf V)] 9)).heap.size, 0, none⟩) 0 0) 0 (strCells []) _ pp (strCells (N.vals.take pp)) rfl rfl hn0.own (ht.belowW hn0.below) (by rw [length_strCells, hl1]; omega) (one_strCells _) (by omega) (by omega) hn0.below.size ?_
                                  intro v1 U3 ho1 hg1
                                  have hn1 := hn0.grow rfl hl1 ho1 hg1
                                  refine ⟨trivial, ?_⟩
                                  simp only [Act.put, List.setIfInBounds_toArray, List.set_cons_zero, List.set_cons_succ]
                                  have hx1 := rowKeep (hx0.belowW hal) hg1 (by simp [Value.ownBlock]) (by simp; omega)
                                  refine step_append_row 7 138 rfl (by kernel_rfl) rfl rfl (.tmp 135) (.tmp 137) 27 rfl W6.heap.size 9 (.string { data := #[] }) 1 16 Try.underlying27 Try.info9 rfl (by omega) _ (0 + pp) (strCells ([] ++ N.vals.take pp)) _ 1 (strCells [V]) rfl rfl (by have := hn1.own; rw [List.nil_append, hl1] at this; rw [List.nil_append, Nat.zero_add]; exact this) (hx1) rfl (one_strCells _) (by omega) (by omega) hn1.below.size ?_
                                  intro v2 U5 ho2 hg2
                                  have hn2 := hn1.grow (by rw [List.nil_append, hl1]; omega) rfl ho2 hg2
                                  refine ⟨trivial, ?_⟩
                                  simp only [Act.put, List.setIfInBounds_toArray, List.set_cons_zero, List.set_cons_succ]
                                  refine step_append_row 11 142 rfl (by kernel_rfl) rfl rfl (.tmp 138) (.tmp 141) 27 rfl W6.heap.size 9 (.string { data := #[] }) 1 16 Try.underlying27 Try.info9 rfl (by omega) _ (0 + pp + 1) (strCells ([] ++ N.vals.take pp ++ [V])) _ (nk - pp) (strCells (N.vals.drop pp)) rfl rfl (by have := hn2.own; rw [hl3] at this; exact this) (hf.belowW hn2.below) (by rw [length_strCells, hl2]; omega) (one_strCells _) (by omega) (by omega) hn2.below.size ?_
                                  intro v3 U6 ho3 hg3
                                  have hn3 := hn2.grow (by simp [hl1]) hl2 ho3 hg3
                                  refine ⟨trivial, ?_⟩
                                  simp only [Act.put, List.setIfInBounds_toArray, List.set_cons_zero, List.set_cons_succ]
                                  refine take_to 12 7 (v3) rfl (by kernel_rfl) (by kernel_rfl) (by kernel_rfl) (fun _ _ _ h => h) rfl (by rfl) (fun w hw => by rfl) trivial ?_
                                  simp only [Act.put, List.setIfInBounds_toArray, List.set_cons_zero, List.set_cons_succ]
                                  refine wpAnyH_done (by kernel_rfl) ?_ _
                                  go_wp2_with fail
                                  go_meet
                                  have hD := HPN.out (by first | rfl | trivial)
                                  refine ⟨putN N X V, m1, m2, m3, HMP.out, HM6.out.next hn3.below, ?_, ?_, fun g h1 h2 => hn3.ap HK6.out g h2 h1⟩
                                  · rw [hD]
                                    exact HK6.out.next hn3.below
                                  · rw [hD]
                                    exact hn3.row HM6.out.below.size
          case rest =>
            obtain ⟨N2, b1, b2, b3, HM2⟩ := hcut
            go_wp2
            go_roundw
            case rel => exact ⟨k + 1, N2, b1, b2, b3, by omega, by omega, by go_num, HM2.out⟩
            case measure => simp [intOf]; omega
        · have hq1 : decide ((k : Int) < (ll : Int)) = true := decide_eq_true (by omega)
          have hq2 : decide ((k : Int) < 40) = false := decide_eq_false (by omega)
          go_wp2_with fail
          go_meet
          exact ⟨N, _, _, _, HM.out.more hk40⟩
      · have hq1 : decide ((k : Int) < (ll : Int)) = false := decide_eq_false (by omega)
        go_wp2_with fail
        go_meet
        exact ⟨N, _, _, _, HM.out.more hk40⟩
  case rest =>
    obtain ⟨N, n1, n2, n3, HM⟩ := hcut
    obtain ⟨a1, c1, a2, c2, a3, c3, ka, kc, va, vc, e1, e2, e3, e4, e5, hkc, hvc, hkm, hvm⟩ := HM.out.forms
    subst e1 e2 e3 e4 e5
    simp only [maxLen] at hkm hvm
    have hfew := HM.out.mp.few
    generalize hnk : N.keys.length = nk at *
    have HNK := hide hnk
    clear hnk
    have HSK := hide HM.out.sk
    have HSV := hide HM.out.sv
    have HTK := hide HM.out.ms.own.at.keys
    have HTV := hide HM.out.ms.own.at.vals
    have HNV : Hid (N.vals.length = nk) := HM.out.mp.vals.trans HNK.out
    have HBE := hide HM.out.ms.below
    have HAW := hide awake_any
    obtain ⟨k0, k1, k2, k3, k4, f0, f1, f2, f3, f4⟩ := HM.out.ms.box.cells
    have HBX := hide HM.out.ms.box
    clear HM
    go_upto_region 27 with fail
    clear k0 k1 k2 k3 k4 f0 f1 f2 f3 f4
    go_upto_block 4 with fail
    go_cut [] (fun wx => Below wc.heap.size wc wx)
    case first =>
      go_wp2_with fail
      go_loopw [15] (fun i wr => ∃ j : Nat, j ≤ nk ∧ i = .int .i64 (j : Int) ∧ Hid (Below wc.heap.size wc wr)) (fun i _ => nk - (intOf i).toNat)
      case atStart => exact ⟨0, by omega, rfl, Below.refl _ _⟩
      case round =>
        obtain ⟨j, hj, rfl, HW⟩ := hrel
        by_cases hlt : j < nk
        · obtain ⟨gk, ok, ua, uc, hqa, hcell, hsl, _, _⟩ := (HTK.out.belowW HW.out).get j (by rw [HNK.out]; exact hlt)
          subst hqa
          obtain ⟨gv, ov, ya, yc, hqb, hcell2, hsl2, _, _⟩ := (HTV.out.belowW HW.out).get j (by rw [HNV.out]; exact hlt)
          subst hqb
          obtain ⟨g3, hq3, hc3, _⟩ := (HSK.out.next HW.out).get j (by rw [HNK.out]; exact hlt)
          subst hq3
          obtain ⟨g4, hq4, hc4, _⟩ := (HSV.out.next HW.out).get j (by rw [HNV.out]; exact hlt)
          subst hq4
          have hb5 := HBX.out.belowW HW.out
          generalize hX : N.keys.getD j [] = X at *
          clear hX
          generalize hY : N.vals.getD j [] = Y at *
          clear hY
          have hq1 : decide ((j : Int) < (nk : Int)) = true := decide_eq_true (by omega)
          go_upto_region 30 with fail
          clear hq1
          have hE : Below wr.heap.size wr wr.drew := below_drewN _ _ 1
          refine wp_region_held_drew (S := fun w' => Box 26 w' w.heap.size (.bool true) (.slice (some ⟨gk, ok, none⟩) nk c1) (.slice (some ⟨gv, ov, none⟩) nk c2) (.slice a3 0 c3) (.int .i64 0) ∧ (w'.cell? ⟨gk, ok + j, none⟩ = some (.slice ua X.length uc) ∧ Sl w' (.slice ua X.length uc) X) ∧ (w'.cell? ⟨gv, ov + j, none⟩ = some (.slice ya Y.length yc) ∧ Sl w' (.slice ya Y.length yc) Y) ∧ w'.cell? ⟨g3, 0 + j, none⟩ = some (.string (strOf X)) ∧ w'.cell? ⟨g4, 0 + j, none⟩ = some (.string (strOf Y))) (by kernel_rfl) ⟨hb5.belowW hE, ⟨hcell, hsl.belowW hE⟩, ⟨hcell2, hsl2.belowW hE⟩, by rw [Nat.zero_add]; exact hc3, by rw [Nat.zero_add]; exact hc4⟩ (fun st0 => ?_)
          refine take_to 0 168 (.pointer (some ⟨w.heap.size, 1, none⟩)) rfl (by kernel_rfl) (by kernel_rfl) (by kernel_rfl) (fun _ _ _ h => h) rfl (by rfl) (fun w hw => by rfl) st0 ?_
          simp only [Act.put, List.setIfInBounds_toArray, List.set_cons_zero, List.set_cons_succ]
          refine take_to 1 169 (.slice (some ⟨gk, ok, none⟩) nk c1) rfl (by kernel_rfl) (by kernel_rfl) (by kernel_rfl) (fun _ _ _ h => h) rfl (by rfl) (fun w hw => op_load _ _ 22 (.tmp 168) rfl (.pointer (some ⟨_, 1, none⟩)) _ rfl (run_loadAny w _ 1 22 _ Try.isAgg22 hw.1.cells.k1)) st0 ?_
          simp only [Act.put, List.setIfInBounds_toArray, List.set_cons_zero, List.set_cons_succ]
          refine take_to 2 170 (.int .i64 (j : Int)) rfl (by kernel_rfl) (by kernel_rfl) (by kernel_rfl) (fun _ _ _ h => h) rfl (by rfl) (fun w hw => by rfl) st0 ?_
          simp only [Act.put, List.setIfInBounds_toArray, List.set_cons_zero, List.set_cons_succ]
          refine take_to 3 171 (.pointer (some ⟨gk, ok + j, none⟩)) rfl (by kernel_rfl) (by kernel_rfl) (by kernel_rfl) (fun _ _ _ h => h) rfl (by rfl) (fun w hw => op_index _ _ 22 (.tmp 169) (.tmp 170) rfl _ _ _ rfl rfl (run_index22 w gk ok nk c1 j hlt)) st0 ?_
          simp only [Act.put, List.setIfInBounds_toArray, List.set_cons_zero, List.set_cons_succ]
          refine take_to 4 172 (.slice ua X.length uc) rfl (by kernel_rfl) (by kernel_rfl) (by kernel_rfl) (fun _ _ _ h => h) rfl (by rfl) (fun w hw => op_load _ _ 28 (.tmp 171) rfl (.pointer (some ⟨_, _, none⟩)) _ rfl (run_loadAny w _ _ 28 _ Try.isAgg28 hw.2.1.1)) st0 ?_
          simp only [Act.put, List.setIfInBounds_toArray, List.set_cons_zero, List.set_cons_succ]
          refine take_to 5 173 (.string (strOf X)) rfl (by kernel_rfl) (by kernel_rfl) (by kernel_rfl) (fun _ _ _ h => h) rfl (by rfl) (fun w hw => op_conv _ _ 28 9 (.tmp 172) rfl _ _ rfl (run_str hw.2.1.2)) st0 ?_
          simp only [Act.put, List.setIfInBounds_toArray, List.set_cons_zero, List.set_cons_succ]
          refine take_to 6 174 (.slice (some ⟨g3, 0, none⟩) nk kc) rfl (by kernel_rfl) (by kernel_rfl) (by kernel_rfl) (fun _ _ _ h => h) rfl (by rfl) (fun w hw => by rfl) st0 ?_
          simp only [Act.put, List.setIfInBounds_toArray, List.set_cons_zero, List.set_cons_succ]
          refine take_to 7 175 (.int .i64 (j : Int)) rfl (by kernel_rfl) (by kernel_rfl) (by kernel_rfl) (fun _ _ _ h => h) rfl (by rfl) (fun w hw => by rfl) st0 ?_
          simp only [Act.put, List.setIfInBounds_toArray, List.set_cons_zero, List.set_cons_succ]
          refine take_to 8 176 (.pointer (some ⟨g3, 0 + j, none⟩)) rfl (by kernel_rfl) (by kernel_rfl) (by kernel_rfl) (fun _ _ _ h => h) rfl (by rfl) (fun w hw => op_index _ _ 27 (.tmp 174) (.tmp 175) rfl _ _ _ rfl rfl (run_index27 w g3 0 nk kc j hlt)) st0 ?_
          simp only [Act.put, List.setIfInBounds_toArray, List.set_cons_zero, List.set_cons_succ]
          refine take_to 9 177 (.string (strOf X)) rfl (by kernel_rfl) (by kernel_rfl) (by kernel_rfl) (fun _ _ _ h => h) rfl (by rfl) (fun w hw => op_load _ _ 9 (.tmp 176) rfl (.pointer (some ⟨_, _, none⟩)) _ rfl (run_loadAny w _ _ 9 _ Try.isAgg9 hw.2.2.2.1)) st0 ?_
          simp only [Act.put, List.setIfInBounds_toArray, List.set_cons_zero, List.set_cons_succ]
          refine take_to 10 178 (.bool false) rfl (by kernel_rfl) (by kernel_rfl) (by kernel_rfl) (fun _ _ _ h => h) rfl (by rfl) (fun w hw => op_neq9 _ _ (.tmp 173) (.tmp 177) _ rfl (strOf X) rfl rfl) st0 ?_
          simp only [Act.put, List.setIfInBounds_toArray, List.set_cons_zero, List.set_cons_succ]
          refine take_to 11 179 (.bool false) rfl (by kernel_rfl) (by kernel_rfl) (by kernel_rfl) (fun _ _ _ h => h) rfl (by rfl) (fun w hw => by rfl) st0 ?_
          simp only [Act.put, List.setIfInBounds_toArray, List.set_cons_zero, List.set_cons_succ]
          refine take_to 12 180 (.pointer (some ⟨w.heap.size, 2, none⟩)) rfl (by kernel_rfl) (by kernel_rfl) (by kernel_rfl) (fun _ _ _ h => h) rfl (by rfl) (fun w hw => by rfl) st0 ?_
          simp only [Act.put, List.setIfInBounds_toArray, List.set_cons_zero, List.set_cons_succ]
          refine take_to 13 181 (.slice (some ⟨gv, ov, none⟩) nk c2) rfl (by kernel_rfl) (by kernel_rfl) (by kernel_rfl) (fun _ _ _ h => h) rfl (by rfl) (fun w hw => op_load _ _ 22 (.tmp 180) rfl (.pointer (some ⟨_, 2, none⟩)) _ rfl (run_loadAny w _ 2 22 _ Try.isAgg22 hw.1.cells.k2)) st0 ?_
          simp only [Act.put, List.setIfInBounds_toArray, List.set_cons_zero, List.set_cons_succ]
          refine take_to 14 182 (.int .i64 (j : Int)) rfl (by kernel_rfl) (by kernel_rfl) (by kernel_rfl) (fun _ _ _ h => h) rfl (by rfl) (fun w hw => by rfl) st0 ?_
          simp only [Act.put, List.setIfInBounds_toArray, List.set_cons_zero, List.set_cons_succ]
          refine take_to 15 183 (.pointer (some ⟨gv, ov + j, none⟩)) rfl (by kernel_rfl) (by kernel_rfl) (by kernel_rfl) (fun _ _ _ h => h) rfl (by rfl) (fun w hw => op_index _ _ 22 (.tmp 181) (.tmp 182) rfl _ _ _ rfl rfl (run_index22 w gv ov nk c2 j hlt)) st0 ?_
          simp only [Act.put, List.setIfInBounds_toArray, List.set_cons_zero, List.set_cons_succ]
          refine take_to 16 184 (.slice ya Y.length yc) rfl (by kernel_rfl) (by kernel_rfl) (by kernel_rfl) (fun _ _ _ h => h) rfl (by rfl) (fun w hw => op_load _ _ 28 (.tmp 183) rfl (.pointer (some ⟨_, _, none⟩)) _ rfl (run_loadAny w _ _ 28 _ Try.isAgg28 hw.2.2.1.1)) st0 ?_
          simp only [Act.put, List.setIfInBounds_toArray, List.set_cons_zero, List.set_cons_succ]
          refine take_to 17 185 (.string (strOf Y)) rfl (by kernel_rfl) (by kernel_rfl) (by kernel_rfl) (fun _ _ _ h => h) rfl (by rfl) (fun w hw => op_conv _ _ 28 9 (.tmp 184) rfl _ _ rfl (run_str hw.2.2.1.2)) st0 ?_
          simp only [Act.put, List.setIfInBounds_toArray, List.set_cons_zero, List.set_cons_succ]
          refine take_to 18 186 (.slice (some ⟨g4, 0, none⟩) nk vc) rfl (by kernel_rfl) (by kernel_rfl) (by kernel_rfl) (fun _ _ _ h => h) rfl (by rfl) (fun w hw => by rfl) st0 ?_
          simp only [Act.put, List.setIfInBounds_toArray, List.set_cons_zero, List.set_cons_succ]
          refine take_to 19 187 (.int .i64 (j : Int)) rfl (by kernel_rfl) (by kernel_rfl) (by kernel_rfl) (fun _ _ _ h => h) rfl (by rfl) (fun w hw => by rfl) st0 ?_
          simp only [Act.put, List.setIfInBounds_toArray, List.set_cons_zero, List.set_cons_succ]
          refine take_to 20 188 (.pointer (some ⟨g4, 0 + j, none⟩)) rfl (by kernel_rfl) (by kernel_rfl) (by kernel_rfl) (fun _ _ _ h => h) rfl (by rfl) (fun w hw => op_index _ _ 27 (.tmp 186) (.tmp 187) rfl _ _ _ rfl rfl (run_index27 w g4 0 nk vc j hlt)) st0 ?_
          simp only [Act.put, List.setIfInBounds_toArray, List.set_cons_zero, List.set_cons_succ]
          refine take_to 21 189 (.string (strOf Y)) rfl (by kernel_rfl) (by kernel_rfl) (by kernel_rfl) (fun _ _ _ h => h) rfl (by rfl) (fun w hw => op_load _ _ 9 (.tmp 188) rfl (.pointer (some ⟨_, _, none⟩)) _ rfl (run_loadAny w _ _ 9 _ Try.isAgg9 hw.2.2.2.2)) st0 ?_
          simp only [Act.put, List.setIfInBounds_toArray, List.set_cons_zero, List.set_cons_succ]
          refine take_to 22 190 (.bool false) rfl (by kernel_rfl) (by kernel_rfl) (by kernel_rfl) (fun _ _ _ h => h) rfl (by rfl) (fun w hw => op_neq9 _ _ (.tmp 185) (.tmp 189) _ rfl (strOf Y) rfl rfl) st0 ?_
          simp only [Act.put, List.setIfInBounds_toArray, List.set_cons_zero, List.set_cons_succ]
          refine take_to 23 191 (.bool false) rfl (by kernel_rfl) (by kernel_rfl) (by kernel_rfl) (fun _ _ _ h => h) rfl (by rfl) (fun w hw => by rfl) st0 ?_
          simp only [Act.put, List.setIfInBounds_toArray, List.set_cons_zero, List.set_cons_succ]
          refine wpAnyH_done (by kernel_rfl) ?_ _
          have HW2 := hide (HW.out.trans (hE.mono HW.out.size))
          clear st0 hE hcell hcell2 hsl hsl2 hc3 hc4 hb5
          go_wp2
          go_roundw
          case rel => exact ⟨j + 1, by omega, by go_num, HW2.out⟩
          case measure => simp [intOf]; omega
        · have hq1 : decide ((j : Int) < (nk : Int)) = false := decide_eq_false (by omega)
          go_wp2_with fail
          go_meet
          exact HW.out
    case rest =>
      have HW := hide hcut
      clear hcut
      have HBF := hide (HBE.out.trans (HW.out.mono HBE.out.size))
      have HA1 := hide (HAW.out wc)
      go_wp2_with (go_at_call 11; refine HA1.out.mono ?_; rintro e W2 ⟨rfl, hb2⟩)
      go_ret
      exact ⟨rfl, HBF.out.trans (hb2.mono HBF.out.size)⟩
end Go.Proofs.Ytjcobejaldfibaa
