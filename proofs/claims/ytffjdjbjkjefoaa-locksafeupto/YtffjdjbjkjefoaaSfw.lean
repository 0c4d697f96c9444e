/- The walk of LockSafe. -/
import Derived.Test.YtffjdjbjkjefoaaSfs
namespace Go.Proofs.Ytffjdjbjkjefoaa
open Go.RowKit Go.WideAt
set_option linter.unusedVariables false
set_option linter.unusedSimpArgs false

set_option maxRecDepth 100000 in
set_option maxHeartbeats 8000000 in
theorem safe_walk {w : World} {a : Option Addr} {n c : Nat} (h : OpsAt w a n) : Calls Try.prog 6 #[.slice a n c] w fun e w' => e = .returned (.bool true) ∧ Below w.heap.size w w' := by
  have HNEW := hide (new_any w)
  have HO := hide h.2
  have hn := h.1
  clear h
  go_enter Try.func6, Try.ntmps6
  go_upto_region 2 with (go_at_call 8; refine HNEW.out.mono ?_; rintro e x1 ⟨B0, rfl, hT, hB⟩; have H1 : Hid (At w B0.t x1 B0 (fun _ _ => none) 0) := ⟨hT, hB, rfl⟩; clear hT hB)
  generalize B0.t = t at *
  have HS1 : Hid (St w t x1 B0 (fun _ _ => none) 0 (.slice none 0 0) []) := ⟨H1.out, ⟨rfl, .inl ⟨rfl, rfl⟩⟩, fun k hk => by (cases hk), fun x hx => by (cases hx), Safe.zero⟩
  go_upto_region 6 with fail
  go_loopw [4, 5] (fun v i wr => ∃ (k : Nat) (B : Tb) (m : Held) (ids : List Int), k ≤ n ∧ k ≤ 50 ∧ i = .int .i64 (k : Int) ∧ St w t wr B m (k * 1048576) v ids ∧ ids.length ≤ k) (fun _ i _ => n - (intOf i).toNat)
  case atStart => exact ⟨0, B0, _, [], by omega, by omega, rfl, by simpa using HS1.out, by simp⟩
  case round =>
    clear HS1 H1
    obtain ⟨k, B, m, ids, hk, hk5, rfl, hS, hil⟩ := hrel
    have HS := hide hS
    clear hS
    by_cases hkn : k < n
    · by_cases hk50 : k < 50
      · have i1 : (k : Int) < (n : Int) := by omega
        have i2 : (k : Int) < 50 := by omega
        obtain ⟨b, oo, kd, id, aa, cc, l, hab, hid, o0, o1, o2, hw, hwl⟩ := HO.out k hkn
        subst hab
        have HID := hide hid
        have HWL := hide hwl
        have hbw := HS.out.tab.below
        have c0 := (hbw.cell (p := ⟨b, oo + k * 3, none⟩) (World.block_lt_of_cell? _ _ o0)).trans o0
        have c1 := (hbw.cell (p := ⟨b, oo + k * 3 + 1, none⟩) (World.block_lt_of_cell? _ _ o1)).trans o1
        have c2 := (hbw.cell (p := ⟨b, oo + k * 3 + 2, none⟩) (World.block_lt_of_cell? _ _ o2)).trans o2
        have HWA := hide hw
        clear hw hid hwl o0 o1 o2 hbw
        go_upto_region 9 with fail
        have HP6 : Hid ((wr.alloc (.cells #[.int .i64 kd, .int .i64 id, .slice aa l.length cc] 43)).heap[wr.heap.size]? = some (.cells #[.int .i64 kd, .int .i64 id, .slice aa l.length cc] 43 (0, 0))) := heap_alloc_new _ _
        have HNB : Hid (¬ B.own wr.heap.size) := fun h => Nat.lt_irrefl _ (HS.out.tab.tab.lt (.inr h))
        have HS2 := hide (HS.out.by (alloc_below wr (.cells #[.int .i64 kd, .int .i64 id, .slice aa l.length cc] 43)))
        generalize wr.alloc (.cells #[.int .i64 kd, .int .i64 id, .slice aa l.length cc] 43) = W2 at *
        generalize wr.heap.size = p6 at *
        clear c0 c1 c2 HS
        have d0 : W2.cell? ⟨p6, 0, none⟩ = some (.int .i64 kd) := by rw [cell_row HP6.out]; rfl
        have d1 : W2.cell? ⟨p6, 1, none⟩ = some (.int .i64 id) := by rw [cell_row HP6.out]; rfl
        have d2 : W2.cell? ⟨p6, 2, none⟩ = some (.slice aa l.length cc) := by rw [cell_row HP6.out]; rfl
        have hNk : k * 1048576 ≤ 52428800 := by omega
        by_cases hkd : kd = 2
        · subst hkd
          have C1 := hide (HS2.out.release HID.out (by omega))
          go_upto_region 11 with (go_at_call 12; refine C1.out.mono ?_; rintro e W3 ⟨B2, rfl, hS3, hM3⟩; have HS3 := hide hS3; have HM3 := hide hM3; clear hS3 hM3)
          have HQ6 := hide ((HM3.out.block p6 (lt_of_heap HP6.out) HNB.out).trans HP6.out)
          clear d0 d1 d2 C1 HS2 HM3 HP6
          have d1 : W3.cell? ⟨p6, 1, none⟩ = some (.int .i64 id) := by rw [cell_row HQ6.out]; rfl
          have V3 : Hid (∀ s, freeH m id id s = none) := fun s => by
            cases hx : freeH m id id s with
            | none => rfl
            | some v => exact absurd rfl (freeH_dom.1 (show freeH m id id s ≠ none by rw [hx]; simp)).1
          have C2 := hide (HS3.out.held HID.out (by omega))
          go_wp2_with (go_at_call 10; refine C2.out.mono ?_; rintro e W4 ⟨ao, c4, L, rfl, hL, hn4, hw4, hb4⟩; have hL0 := hL.nil V3.out; subst hL0; have HS4 := hide (HS3.out.by hb4); clear hL hn4 hw4 hb4)
          refine ⟨⟨k + 1, B2, _, ids, by omega, by omega, by go_num, HS4.out.mono (by omega), by omega⟩, ?_⟩
          simp [intOf]
          omega
        · have hkd' : (kd == 2) = false := beq_eq_false_iff_ne.2 hkd
          have C1 := hide (HS2.out.ask (c := cc) HID.out (HWA.out.belowW HS2.out.tab.below) (by omega))
          go_upto_region 14 with (go_at_call 11; refine C1.out.mono ?_; rintro e W3 ⟨ao, c3, A, rfl, hA, hb3⟩; have HA := hide hA; have HB3 := hide hb3; clear hA hb3)
          have HS3 := hide (HS2.out.by HB3.out)
          have HQ6 := hide ((HB3.out.block p6 (lt_of_heap HP6.out)).trans HP6.out)
          clear d0 d1 d2 C1 HS2 HB3 HP6
          have d1 : W3.cell? ⟨p6, 1, none⟩ = some (.int .i64 id) := by rw [cell_row HQ6.out]; rfl
          have d2 : W3.cell? ⟨p6, 2, none⟩ = some (.slice aa l.length cc) := by rw [cell_row HQ6.out]; rfl
          have C2 := hide (HS3.out.take (c := cc) HID.out (HWA.out.belowW HS3.out.tab.below) (Nat.le_trans (Nat.add_le_add hNk HWL.out) (by decide)))
          go_upto_if 55 with (go_at_call 9; refine C2.out.mono ?_; rintro e W4 ⟨A', B2, m2, hA', rfl, hS4, hM4⟩; have hAA := HA.out.one hA'; subst hAA; have HS4 := hide hS4; have HM4 := hide hM4; clear hA' hS4 hM4)
          have hq : (A'.isEmpty == decide (0 < A'.length)) = false := by cases A' <;> simp
          have HQ7 := hide ((HM4.out.block p6 (lt_of_heap HQ6.out) HNB.out).trans HQ6.out)
          clear d1 d2 C2 HS3 HM4 HQ6 HA
          have d1 : W4.cell? ⟨p6, 1, none⟩ = some (.int .i64 id) := by rw [cell_row HQ7.out]; rfl
          have hbi := buildInt id W4
          have HS5 := hide (HS4.out.by (alloc_below W4 (.cells #[.int .i64 id] 3)))
          have HROW6 : Hid (Row (W4.alloc (.cells #[.int .i64 id] 3)) (.slice (some ⟨W4.heap.size, 0, none⟩) 1 1) 1 [.int .i64 id]) := ⟨_, 1, rfl, Nat.le_refl _, by simp only [maxLen]; omega, fun _ => ⟨W4.heap.size, 0, rfl, fun j u hu => by rw [Nat.zero_add, cell_row (heap_alloc_new W4 _)]; simpa using hu⟩⟩
          go_upto_region 17 with (refine wpList_append_row rfl (.tmp 56) (.tmp 59) 27 rfl w.heap.size 3 (.int .i64 0) 1 8 Try.underlying27 Try.info3 rfl (by omega) _ _ _ _ 1 _ rfl rfl HS5.out.row HROW6.out rfl (by simp [Value.oneCell']) (by omega) (by omega) HS5.out.tab.below.size ?_; intro v7 w7 ho7 hg7; have HS7 := hide (HS5.out.push HID.out ho7 hg7); clear ho7 hg7)
          · rename_i hcond
            exfalso
            cases A' <;> simp at hcond
          clear hbi HS5 HROW6 HS4 HQ7 d1 hq
          have hnl : k * 1048576 + l.length ≤ (k + 1) * 1048576 := by rw [Nat.add_mul, Nat.one_mul]; exact Nat.add_le_add_left HWL.out _
          have HS7 := hide (HS7.out.mono hnl)
          have hnj : (ids ++ [id]).length ≤ k + 1 ∧ 0 < (ids ++ [id]).length := by simp; omega
          generalize ids ++ [id] = J at *
          obtain ⟨g, c7, hv7, _⟩ := HS7.out.get hnj.2
          subst hv7
          obtain ⟨nj, hnjj⟩ : ∃ nj, J.length = nj := ⟨_, rfl⟩
          have HNJ := hide hnjj
          rw [hnjj] at hnj HS7 ⊢
          clear hnjj hnl
          have HCE : Hid (∀ W, Below w7.heap.size w7 W → ∀ i, i < nj → W.cell? ⟨g, i, none⟩ = some (.int .i64 (J.getD i 0))) := fun W hW i hi => by
            obtain ⟨g', c', e, hc⟩ := HS7.out.get (i := i) (by rw [HNJ.out]; exact hi)
            cases e
            exact (hW.cell (p := ⟨g, i, none⟩) (World.block_lt_of_cell? _ _ hc)).trans hc
          have HIN : Hid (∀ i, i < nj → In64 (J.getD i 0)) := fun i hi => HS7.out.all _ (by
            have hi' : i < J.length := by rw [HNJ.out]; exact hi
            have e : J.getD i 0 = J[i] := by simp [hi']
            rw [e]
            exact List.getElem_mem _)
          have hkN : (k + 1) * 1048576 ≤ 1000000000000 := Nat.le_trans (Nat.mul_le_mul_right _ (Nat.succ_le_of_lt hk50)) (by decide)
          have CH : Hid (∀ (id : Int), In64 id → ∀ W, Below w7.heap.size w7 W → Calls Try.prog 10 #[.pointer (some ⟨t, 0, none⟩), .int .i64 id] W fun e W' => ∃ ao c L, e = .returned (.slice ao L.length c) ∧ HeldIs m2 id L ∧ L.length ≤ (k + 1) * 1048576 ∧ Wl W' ao L ∧ Below W.heap.size W W') := fun id hid W hW => (HS7.out.by hW).held hid hkN
          have HSF := hide HS7.out.safe
          go_upto_region 18 with fail
          go_loopw [8] (fun i wr => ∃ j : Nat, j ≤ nj ∧ i = .int .i64 (j : Int) ∧ Below w7.heap.size w7 wr) (fun i _ => nj - (intOf i).toNat)
          case atStart => exact ⟨0, by omega, rfl, Below.refl _ _⟩
          case round =>
            obtain ⟨j, hj, rfl, hB⟩ := hrel
            have HBj := hide hB
            clear hB
            by_cases hjn : j < nj
            · have i3 : (j : Int) < (nj : Int) := by omega
              go_upto_region 21 with fail
              obtain ⟨wo, hwo⟩ : ∃ wo : World, wo = wr := ⟨_, rfl⟩
              rw [← hwo] at HBj ⊢
              clear hwo
              go_loopw [9] (fun i wr => ∃ q : Nat, q ≤ j ∧ i = .int .i64 (q : Int) ∧ Below w7.heap.size w7 wr) (fun i _ => j - (intOf i).toNat)
              case atStart => exact ⟨0, by omega, rfl, HBj.out⟩
              case round =>
                obtain ⟨q, hq, rfl, hB⟩ := hrel
                have HBq := hide hB
                clear hB
                by_cases hqj : q < j
                · have i4 : (q : Int) < (j : Int) := by omega
                  have HX := hide (HCE.out · · j hjn)
                  have HY := hide (HCE.out · · q (by omega))
                  have IX := hide (HIN.out j hjn)
                  have IY := hide (HIN.out q (by omega))
                  have HJN := hide hjn
                  have HQN : Hid (q < nj) := by show q < nj; omega
                  generalize J.getD j 0 = x at *
                  generalize J.getD q 0 = y at *
                  go_upto_region 23 with fail
                  have hd : Below w7.heap.size w7 wr.drew := HBq.out.trans (below_drewN _ _ 1)
                  refine wp_region_held_drew (S := fun W => Below w7.heap.size w7 W) (by kernel_rfl) hd (fun hH => ?_)
                  refine take_to 0 72 (.slice (some ⟨g, 0, none⟩) nj c7) rfl (by kernel_rfl) (by kernel_rfl) (by kernel_rfl) (fun _ _ _ h => h) rfl (by rfl) (fun w hw => by rfl) hH ?_
                  simp only [Act.put, List.setIfInBounds_toArray, List.set_cons_zero, List.set_cons_succ]
                  refine take_to 1 73 (.int .i64 (j : Int)) rfl (by kernel_rfl) (by kernel_rfl) (by kernel_rfl) (fun _ _ _ h => h) rfl (by rfl) (fun w hw => by rfl) hH ?_
                  simp only [Act.put, List.setIfInBounds_toArray, List.set_cons_zero, List.set_cons_succ]
                  refine take_to 2 74 (.pointer (some ⟨g, j, none⟩)) rfl (by kernel_rfl) (by kernel_rfl) (by kernel_rfl) (fun _ _ _ h => h) rfl (by rfl) (fun w hw => op_index _ _ 27 (.tmp 72) (.tmp 73) rfl (.slice (some ⟨g, 0, none⟩) nj c7) (.int .i64 (j : Int)) _ rfl rfl (run_index27 w _ _ _ _ HJN.out)) hH ?_
                  simp only [Act.put, List.setIfInBounds_toArray, List.set_cons_zero, List.set_cons_succ]
                  refine take_to 3 75 (.int .i64 x) rfl (by kernel_rfl) (by kernel_rfl) (by kernel_rfl) (fun _ _ _ h => h) rfl (by rfl) (fun w hw => op_load _ _ 3 (.tmp 74) rfl (.pointer (some ⟨g, j, none⟩)) _ rfl (run_loadAny w _ _ 3 _ Try.isAgg3 (HX.out w hw))) hH ?_
                  simp only [Act.put, List.setIfInBounds_toArray, List.set_cons_zero, List.set_cons_succ]
                  refine take_to 4 76 (.slice (some ⟨g, 0, none⟩) nj c7) rfl (by kernel_rfl) (by kernel_rfl) (by kernel_rfl) (fun _ _ _ h => h) rfl (by rfl) (fun w hw => by rfl) hH ?_
                  simp only [Act.put, List.setIfInBounds_toArray, List.set_cons_zero, List.set_cons_succ]
                  refine take_to 5 77 (.int .i64 (q : Int)) rfl (by kernel_rfl) (by kernel_rfl) (by kernel_rfl) (fun _ _ _ h => h) rfl (by rfl) (fun w hw => by rfl) hH ?_
                  simp only [Act.put, List.setIfInBounds_toArray, List.set_cons_zero, List.set_cons_succ]
                  refine take_to 6 78 (.pointer (some ⟨g, q, none⟩)) rfl (by kernel_rfl) (by kernel_rfl) (by kernel_rfl) (fun _ _ _ h => h) rfl (by rfl) (fun w hw => op_index _ _ 27 (.tmp 76) (.tmp 77) rfl (.slice (some ⟨g, 0, none⟩) nj c7) (.int .i64 (q : Int)) _ rfl rfl (run_index27 w _ _ _ _ HQN.out)) hH ?_
                  simp only [Act.put, List.setIfInBounds_toArray, List.set_cons_zero, List.set_cons_succ]
                  refine take_to 7 79 (.int .i64 y) rfl (by kernel_rfl) (by kernel_rfl) (by kernel_rfl) (fun _ _ _ h => h) rfl (by rfl) (fun w hw => op_load _ _ 3 (.tmp 78) rfl (.pointer (some ⟨g, q, none⟩)) _ rfl (run_loadAny w _ _ 3 _ Try.isAgg3 (HY.out w hw))) hH ?_
                  simp only [Act.put, List.setIfInBounds_toArray, List.set_cons_zero, List.set_cons_succ]
                  by_cases hxy : x = y
                  · skip
                    refine take_to 8 80 (.bool false) rfl (by kernel_rfl) (by kernel_rfl) (by kernel_rfl) (fun _ _ _ h => h) rfl (by rfl) (fun w hw => op_neq3 _ _ (.tmp 75) (.tmp 79) _ rfl x y rfl rfl false (by simp [hxy])) hH ?_
                    simp only [Act.put, List.setIfInBounds_toArray, List.set_cons_zero, List.set_cons_succ]
                    refine take_to 9 81 (.bool false) rfl (by kernel_rfl) (by kernel_rfl) (by kernel_rfl) (fun _ _ _ h => h) rfl (by rfl) (fun w hw => by rfl) hH ?_
                    simp only [Act.put, List.setIfInBounds_toArray, List.set_cons_zero, List.set_cons_succ]
                    refine skip_to 10 82 rfl (by kernel_rfl) (by kernel_rfl) (by kernel_rfl) (fun _ _ _ h => h) rfl (by rfl) hH ?_
                    simp only [Act.put, List.setIfInBounds_toArray, List.set_cons_zero, List.set_cons_succ]
                    refine skip_to 11 83 rfl (by kernel_rfl) (by kernel_rfl) (by kernel_rfl) (fun _ _ _ h => h) rfl (by rfl) hH ?_
                    simp only [Act.put, List.setIfInBounds_toArray, List.set_cons_zero, List.set_cons_succ]
                    refine skip_to 12 84 rfl (by kernel_rfl) (by kernel_rfl) (by kernel_rfl) (fun _ _ _ h => h) rfl (by rfl) hH ?_
                    simp only [Act.put, List.setIfInBounds_toArray, List.set_cons_zero, List.set_cons_succ]
                    refine skip_to 13 85 rfl (by kernel_rfl) (by kernel_rfl) (by kernel_rfl) (fun _ _ _ h => h) rfl (by rfl) hH ?_
                    simp only [Act.put, List.setIfInBounds_toArray, List.set_cons_zero, List.set_cons_succ]
                    refine skip_to 14 86 rfl (by kernel_rfl) (by kernel_rfl) (by kernel_rfl) (fun _ _ _ h => h) rfl (by rfl) hH ?_
                    simp only [Act.put, List.setIfInBounds_toArray, List.set_cons_zero, List.set_cons_succ]
                    refine skip_to 15 87 rfl (by kernel_rfl) (by kernel_rfl) (by kernel_rfl) (fun _ _ _ h => h) rfl (by rfl) hH ?_
                    simp only [Act.put, List.setIfInBounds_toArray, List.set_cons_zero, List.set_cons_succ]
                    refine skip_to 16 88 rfl (by kernel_rfl) (by kernel_rfl) (by kernel_rfl) (fun _ _ _ h => h) rfl (by rfl) hH ?_
                    simp only [Act.put, List.setIfInBounds_toArray, List.set_cons_zero, List.set_cons_succ]
                    refine skip_to 17 89 rfl (by kernel_rfl) (by kernel_rfl) (by kernel_rfl) (fun _ _ _ h => h) rfl (by rfl) hH ?_
                    simp only [Act.put, List.setIfInBounds_toArray, List.set_cons_zero, List.set_cons_succ]
                    refine skip_to 18 90 rfl (by kernel_rfl) (by kernel_rfl) (by kernel_rfl) (fun _ _ _ h => h) rfl (by rfl) hH ?_
                    simp only [Act.put, List.setIfInBounds_toArray, List.set_cons_zero, List.set_cons_succ]
                    refine skip_to 19 91 rfl (by kernel_rfl) (by kernel_rfl) (by kernel_rfl) (fun _ _ _ h => h) rfl (by rfl) hH ?_
                    simp only [Act.put, List.setIfInBounds_toArray, List.set_cons_zero, List.set_cons_succ]
                    refine skip_to 20 92 rfl (by kernel_rfl) (by kernel_rfl) (by kernel_rfl) (fun _ _ _ h => h) rfl (by rfl) hH ?_
                    simp only [Act.put, List.setIfInBounds_toArray, List.set_cons_zero, List.set_cons_succ]
                    refine skip_to 21 93 rfl (by kernel_rfl) (by kernel_rfl) (by kernel_rfl) (fun _ _ _ h => h) rfl (by rfl) hH ?_
                    simp only [Act.put, List.setIfInBounds_toArray, List.set_cons_zero, List.set_cons_succ]
                    refine skip_to 22 94 rfl (by kernel_rfl) (by kernel_rfl) (by kernel_rfl) (fun _ _ _ h => h) rfl (by rfl) hH ?_
                    simp only [Act.put, List.setIfInBounds_toArray, List.set_cons_zero, List.set_cons_succ]
                    refine skip_to 23 95 rfl (by kernel_rfl) (by kernel_rfl) (by kernel_rfl) (fun _ _ _ h => h) rfl (by rfl) hH ?_
                    simp only [Act.put, List.setIfInBounds_toArray, List.set_cons_zero, List.set_cons_succ]
                    refine take_to 24 96 (.bool false) rfl (by kernel_rfl) (by kernel_rfl) (by kernel_rfl) (fun _ _ _ h => h) rfl (by rfl) (fun w hw => by rfl) hH ?_
                    simp only [Act.put, List.setIfInBounds_toArray, List.set_cons_zero, List.set_cons_succ]
                    refine wpAnyH_done (by kernel_rfl) ?_ _
                    have HE := hide hH
                    clear hH hd
                    go_wp2
                    refine ⟨⟨q + 1, by omega, by go_num, HE.out⟩, ?_⟩
                    simp [intOf]
                    omega
                  · skip
                    refine take_to 8 80 (.bool true) rfl (by kernel_rfl) (by kernel_rfl) (by kernel_rfl) (fun _ _ _ h => h) rfl (by rfl) (fun w hw => op_neq3 _ _ (.tmp 75) (.tmp 79) _ rfl x y rfl rfl true (by simp [hxy])) hH ?_
                    simp only [Act.put, List.setIfInBounds_toArray, List.set_cons_zero, List.set_cons_succ]
                    refine take_to 9 81 (.bool true) rfl (by kernel_rfl) (by kernel_rfl) (by kernel_rfl) (fun _ _ _ h => h) rfl (by rfl) (fun w hw => by rfl) hH ?_
                    simp only [Act.put, List.setIfInBounds_toArray, List.set_cons_zero, List.set_cons_succ]
                    refine take_to 10 82 (.pointer (some ⟨t, 0, none⟩)) rfl (by kernel_rfl) (by kernel_rfl) (by kernel_rfl) (fun _ _ _ h => h) rfl (by rfl) (fun w hw => by rfl) hH ?_
                    simp only [Act.put, List.setIfInBounds_toArray, List.set_cons_zero, List.set_cons_succ]
                    refine take_to 11 83 (.slice (some ⟨g, 0, none⟩) nj c7) rfl (by kernel_rfl) (by kernel_rfl) (by kernel_rfl) (fun _ _ _ h => h) rfl (by rfl) (fun w hw => by rfl) hH ?_
                    simp only [Act.put, List.setIfInBounds_toArray, List.set_cons_zero, List.set_cons_succ]
                    refine take_to 12 84 (.int .i64 (j : Int)) rfl (by kernel_rfl) (by kernel_rfl) (by kernel_rfl) (fun _ _ _ h => h) rfl (by rfl) (fun w hw => by rfl) hH ?_
                    simp only [Act.put, List.setIfInBounds_toArray, List.set_cons_zero, List.set_cons_succ]
                    refine take_to 13 85 (.pointer (some ⟨g, j, none⟩)) rfl (by kernel_rfl) (by kernel_rfl) (by kernel_rfl) (fun _ _ _ h => h) rfl (by rfl) (fun w hw => op_index _ _ 27 (.tmp 83) (.tmp 84) rfl (.slice (some ⟨g, 0, none⟩) nj c7) (.int .i64 (j : Int)) _ rfl rfl (run_index27 w _ _ _ _ HJN.out)) hH ?_
                    simp only [Act.put, List.setIfInBounds_toArray, List.set_cons_zero, List.set_cons_succ]
                    refine take_to 14 86 (.int .i64 x) rfl (by kernel_rfl) (by kernel_rfl) (by kernel_rfl) (fun _ _ _ h => h) rfl (by rfl) (fun w hw => op_load _ _ 3 (.tmp 85) rfl (.pointer (some ⟨g, j, none⟩)) _ rfl (run_loadAny w _ _ 3 _ Try.isAgg3 (HX.out w hw))) hH ?_
                    simp only [Act.put, List.setIfInBounds_toArray, List.set_cons_zero, List.set_cons_succ]
                    refine take_to 16 88 (.pointer (some ⟨t, 0, none⟩)) rfl (by kernel_rfl) (by kernel_rfl) (by kernel_rfl) (fun _ _ _ h => h) rfl (by rfl) (fun w hw => by rfl) hH ?_
                    simp only [Act.put, List.setIfInBounds_toArray, List.set_cons_zero, List.set_cons_succ]
                    refine take_to 17 89 (.slice (some ⟨g, 0, none⟩) nj c7) rfl (by kernel_rfl) (by kernel_rfl) (by kernel_rfl) (fun _ _ _ h => h) rfl (by rfl) (fun w hw => by rfl) hH ?_
                    simp only [Act.put, List.setIfInBounds_toArray, List.set_cons_zero, List.set_cons_succ]
                    refine take_to 18 90 (.int .i64 (q : Int)) rfl (by kernel_rfl) (by kernel_rfl) (by kernel_rfl) (fun _ _ _ h => h) rfl (by rfl) (fun w hw => by rfl) hH ?_
                    simp only [Act.put, List.setIfInBounds_toArray, List.set_cons_zero, List.set_cons_succ]
                    refine take_to 19 91 (.pointer (some ⟨g, q, none⟩)) rfl (by kernel_rfl) (by kernel_rfl) (by kernel_rfl) (fun _ _ _ h => h) rfl (by rfl) (fun w hw => op_index _ _ 27 (.tmp 89) (.tmp 90) rfl (.slice (some ⟨g, 0, none⟩) nj c7) (.int .i64 (q : Int)) _ rfl rfl (run_index27 w _ _ _ _ HQN.out)) hH ?_
                    simp only [Act.put, List.setIfInBounds_toArray, List.set_cons_zero, List.set_cons_succ]
                    refine take_to 20 92 (.int .i64 y) rfl (by kernel_rfl) (by kernel_rfl) (by kernel_rfl) (fun _ _ _ h => h) rfl (by rfl) (fun w hw => op_load _ _ 3 (.tmp 91) rfl (.pointer (some ⟨g, q, none⟩)) _ rfl (run_loadAny w _ _ 3 _ Try.isAgg3 (HY.out w hw))) hH ?_
                    simp only [Act.put, List.setIfInBounds_toArray, List.set_cons_zero, List.set_cons_succ]
                    refine step_call2_to 15 87 10 rfl (by kernel_rfl) rfl (by rfl) (.tmp 82) (.tmp 86) _ rfl _ _ rfl rfl Try.enters10 (CH.out x IX.out _ hH) ?_
                    rintro e U1 ⟨ao1, e1, L1, rfl, hL1, hn1, hw1, hb1⟩
                    have hH := hH.trans (hb1.mono hH.size)
                    refine ⟨_, rfl, hH, ?_⟩
                    simp only [Act.put, List.setIfInBounds_toArray, List.set_cons_zero, List.set_cons_succ]
                    refine step_call2_to 21 93 10 rfl (by kernel_rfl) rfl (by rfl) (.tmp 88) (.tmp 92) _ rfl _ _ rfl rfl Try.enters10 (CH.out y IY.out _ hH) ?_
                    rintro e U2 ⟨ao2, e2, L2, rfl, hL2, hn2, hw2, hb2⟩
                    have hH := hH.trans (hb2.mono hH.size)
                    refine ⟨_, rfl, hH, ?_⟩
                    simp only [Act.put, List.setIfInBounds_toArray, List.set_cons_zero, List.set_cons_succ]
                    have hft : ∀ a ∈ L1, ∀ b ∈ L2, a.1 = b.1 → fits a.2 b.2 = true := fun a ha b hb e => by
                      have h1 := (hL1.iff a.1 a.2).1 ha
                      have h2 := (hL2.iff b.1 b.2).1 hb
                      rw [← e] at h2
                      exact HSF.out x y a.1 a.2 b.2 hxy h1 h2
                    refine step_call2_to 22 94 26 rfl (by kernel_rfl) rfl (by rfl) (.tmp 87) (.tmp 93) _ rfl _ _ rfl rfl Try.enters26 (apart_any (c := e1) (d := e2) (hw1.belowW hb2) hw2 (by omega) (by omega) hft) ?_
                    rintro e U3 ⟨rfl, hb3⟩
                    have hH := hH.trans (hb3.mono hH.size)
                    refine ⟨_, rfl, hH, ?_⟩
                    simp only [Act.put, List.setIfInBounds_toArray, List.set_cons_zero, List.set_cons_succ]
                    refine take_to 23 95 (.bool false) rfl (by kernel_rfl) (by kernel_rfl) (by kernel_rfl) (fun _ _ _ h => h) rfl (by rfl) (fun w hw => by rfl) hH ?_
                    simp only [Act.put, List.setIfInBounds_toArray, List.set_cons_zero, List.set_cons_succ]
                    refine take_to 24 96 (.bool false) rfl (by kernel_rfl) (by kernel_rfl) (by kernel_rfl) (fun _ _ _ h => h) rfl (by rfl) (fun w hw => by rfl) hH ?_
                    simp only [Act.put, List.setIfInBounds_toArray, List.set_cons_zero, List.set_cons_succ]
                    clear hL1 hn1 hw1 hb1 hL2 hn2 hw2 hb2 hb3 hft
                    refine wpAnyH_done (by kernel_rfl) ?_ _
                    have HE := hide hH
                    clear hH hd
                    go_wp2
                    refine ⟨⟨q + 1, by omega, by go_num, HE.out⟩, ?_⟩
                    simp [intOf]
                    omega
                · obtain rfl : q = j := by omega
                  go_wp2
                  refine ⟨⟨q + 1, by omega, by go_num, HBq.out⟩, ?_⟩
                  simp [intOf]
                  omega
            · obtain rfl : j = nj := by omega
              go_wp2
              refine ⟨⟨k + 1, B2, m2, J, by omega, by omega, by go_num, HS7.out.by HBj.out, by rw [HNJ.out]; exact hnj.1⟩, ?_⟩
              simp [intOf]
              omega
      · obtain rfl : k = 50 := by omega
        have HB := hide HS.out.tab.below
        go_wp2_with (go_at_call 14; refine (awake_any _).mono ?_; rintro e W9 ⟨rfl, hb⟩)
        go_ret
        exact ⟨rfl, HB.out.trans (hb.mono HB.out.size)⟩
    · obtain rfl : k = n := by omega
      have HB := hide HS.out.tab.below
      go_wp2_with (go_at_call 14; refine (awake_any _).mono ?_; rintro e W9 ⟨rfl, hb⟩)
      go_ret
      exact ⟨rfl, HB.out.trans (hb.mono HB.out.size)⟩
end Go.Proofs.Ytffjdjbjkjefoaa
