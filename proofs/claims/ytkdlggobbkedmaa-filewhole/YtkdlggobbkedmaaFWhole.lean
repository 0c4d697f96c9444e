/- The law FileWhole, walked. -/
import Derived.Test.YtkdlggobbkedmaaFWAt
namespace Go.Proofs.Ytkdlggobbkedmaa
open Go.RowKit
set_option linter.unusedVariables false
set_option linter.unusedSimpArgs false

theorem op_neqstrB (ρ : Operand → Value) (o : Oper) (x y : Operand) (tt : TypeId) (ho : o.op = .binOp .neq 9 x y tt) (a b : List UInt8) (hx : ρ x = .string (strOf a)) (hy : ρ y = .string (strOf b)) (c : Bool) (hc : (!decide (a = b)) = c) {w : World} : (execOp ρ o).run Try.prog w = .ok (.value (.bool c)) w := by
  rw [← hc]
  exact op_neqstr ρ o x y tt ho a b hx hy

set_option maxHeartbeats 8000000 in
set_option maxRecDepth 100000 in
theorem whole_walk (a0 : Option Addr) (len0 cap0 : Nat) (z0 : List Int) (f : Int) (a2 : Option Addr) (len2 cap2 : Nat) (z2 : List Bool) (a3 : Option Addr) (len3 cap3 : Nat) (z3 : List Int) (w : World) (w0 : IsInts w a0 len0 cap0 z0) (hf1 : -9223372036854775808 ≤ f) (hf2 : f ≤ 9223372036854775807) (w2 : IsBools w a2 len2 cap2 z2) (w3 : IsInts w a3 len3 cap3 z3) :
    Calls Try.prog 5 #[.slice a0 len0 cap0, .int .i64 f, .slice a2 len2 cap2, .slice a3 len3 cap3] w fun e w' => e = .returned (.bool true) ∧ Below w.heap.size w w' := by
  have W0 := hide w0
  have W2 := hide w2
  have W3 := hide w3
  have hl0 := w0.1
  have hl3 := w3.1
  clear w0 w2 w3
  have hm0 := mend_idle (D := Dv.fresh 40) rfl rfl 1 6 (fresh_head 40 1 (by omega))
  go_enter Try.func5, Try.ntmps5
  go_wp2_with fail
  refine (b_new 40 w (by omega) (by omega)).mono ?_
  rintro e w1 ⟨p, rfl, hD1⟩
  have HOP := hide (b_openOk 1 6 hD1 (by omega) (by simp [Dv.fresh]) (by simp [Dv.fresh]) hm0)
  clear hD1 hm0
  go_wp2_with fail
  refine HOP.out.mono ?_
  rintro e w2 ⟨q, rfl, hF2, _⟩
  clear HOP
  have hgi : w.heap.size ≤ w2.heap.size := hF2.below.size
  have HF3 : Hid (∀ W, W = w2.alloc (.cells #[.int .i64 0, .int .i64 0, .int .i64 0, .int .i64 0, .int .i64 0, .int .i64 0] 60) → Fs w W q p 1 6 false [w2.heap.size] ((Dv.fresh 40).more 1) ∧ Own W w2.heap.size 60 [0, 0, 0, 0, 0, 0]) := fun W hW => by
    subst hW
    exact ⟨hF2.mindNew ((Below.refl _ _).alloc (Nat.le_refl _) _) (fun k hk => by simp at hk; exact .inr (by simp; omega)), heap_alloc_new _ _⟩
  have HFU := hide (fun W hW => bb_fuse f (HF3.out W hW).1 hf1 hf2)
  clear hF2
  have z60 := Try.zero60
  go_wp2_with fail
  refine (HFU.out _ rfl).mono ?_
  rintro e w3 ⟨rfl, hF4, hK4⟩
  have HA4 : Hid (WAt w w3 q p w2.heap.size [0, 0, 0, 0, 0, 0] (-1) 0) := ⟨.inl ⟨rfl, _, hF4, live_fresh.dead, live_fresh.W, live_fresh.L, live_fresh.good⟩, (HF3.out _ rfl).2.kept hK4 (by simp), hgi, rfl⟩
  clear HF3 HFU hF4 hK4 z60 hgi
  generalize w2.heap.size = gi at *
  go_wp2_with fail
  go_loopw [16, 14, 15] (fun i wyv lav wr => ∃ (k : Nat) (Z : List Int) (wy la : Int), k ≤ 20 ∧ i = .int .i64 k ∧ wyv = .int .i64 wy ∧ lav = .int .i64 la ∧ WAt w wr q p gi Z wy la) (fun i _ _ _ => 21 - (intOf i).toNat)
  case atStart => exact ⟨0, [0, 0, 0, 0, 0, 0], -1, 0, by omega, rfl, rfl, rfl, HA4.out⟩
  case round =>
    clear HA4
    obtain ⟨k, Z, wy, la, hk, rfl, rfl, rfl, hA⟩ := hrel
    have HA := hide hA
    clear hA
    by_cases hgo : (k < len0 ∧ k < 20) ∧ wy < 0
    · obtain ⟨⟨hlt, hk20⟩, hwy⟩ := hgo
      have hwy1 : wy = -1 := by have := HA.out.range; omega
      subst hwy1
      obtain ⟨b, o, hab, hcell, _, _⟩ := ints_at W0.out HA.out.below k hlt
      subst hab
      obtain ⟨P, hP, hmod, hwr⟩ := mod_in (z0.getD k 0) 6 (by omega) (by omega)
      have hmod : ((z0.getD k 0).tmod 6 + 6).tmod 6 = (P : Int) := hmod
      have hwr : IntKind.i64.wrap ((z0.getD k 0).tmod 6 + 6) = (z0.getD k 0).tmod 6 + 6 := hwr
      generalize z0.getD k 0 = z at *
      have HSX := hide HA.out.six
      have HGI := hide HA.out.gi0
      rcases w_write HA.out hwy P ((k : Int) + 1) hP (by omega) with hW | hW
      · have HWR := hide hW
        clear hW
        go_wp2_with fail
        refine (page_any 3 ((k : Int) + 1) wr).mono ?_
        rintro e w4 ⟨rfl, hg4, hb4⟩
        have HW4 := hide (HWR.out w4 wr.heap.size hb4 (Nat.le_refl _) hg4)
        clear HWR hg4 hb4 hcell HA
        go_wp2_with fail
        refine HW4.out.mono ?_
        rintro e w5 ⟨rfl, ⟨D5, hF5, hI5⟩, hO5⟩
        have c5 := hO5.cell P (by rw [HSX.out]; exact hP)
        have f5 := hO5.fz P
        have HA6 := hide (WAt.set (q := q) (p := p) la P ((k : Int) + 1) hF5 hI5 hO5 HGI.out HSX.out)
        clear HW4 hF5 hI5 hO5
        generalize Z.getD P 0 = zp at *
        go_wp2_with fail
        go_roundw
        case rel => exact ⟨k + 1, _, -1, la, by omega, by go_num, rfl, rfl, HA6.out⟩
        case measure => simp [intOf]; omega
      · have HWR := hide hW
        clear hW
        go_wp2_with fail
        refine (page_any 3 ((k : Int) + 1) wr).mono ?_
        rintro e w4 ⟨rfl, hg4, hb4⟩
        have HW4 := hide (HWR.out w4 wr.heap.size hb4 (Nat.le_refl _) hg4)
        clear HWR hg4 hb4 hcell HA
        go_wp2_with fail
        refine HW4.out.mono ?_
        rintro e w5 ⟨rfl, hA5⟩
        have HA5 := hide hA5
        clear HW4 hA5
        go_wp2_with fail
        go_roundw
        case rel => exact ⟨k + 1, _, (P : Int), (k : Int) + 1, by omega, by go_num, rfl, rfl, HA5.out⟩
        case measure => simp [intOf]; omega
    · by_cases h1 : k < len0
      · by_cases h2 : k < 20
        · have h3 : ¬ wy < 0 := fun h => hgo ⟨⟨h1, h2⟩, h⟩
          have HSX := hide HA.out.six
          have HCR := hide (w_crash a2 len2 cap2 z2 HA.out W2.out)
          clear HA W0
          go_wp2_with fail
          refine HCR.out.mono ?_
          rintro e w5 ⟨rfl, hC5⟩
          have HC5 := hide hC5
          clear hC5 HCR
          go_wp2_with fail
          go_loopw [18] (fun i wx => ∃ k : Nat, k ≤ 6 ∧ i = .int .i64 k ∧ CAt w wx p gi Z wy la true) (fun i _ => 7 - (intOf i).toNat)
          case atStart => exact ⟨0, by omega, rfl, HC5.out⟩
          case round =>
            clear HC5
            obtain ⟨k, hk, rfl, hC⟩ := hrel
            have HC := hide hC
            clear hC
            by_cases hgo : k < len3 ∧ k < 6
            · obtain ⟨hlt, hk6⟩ := hgo
              obtain ⟨b, o, hab, hcell, hz1, hz2⟩ := ints_at W3.out HC.out.below k hlt
              subst hab
              have HFU := hide (c_fuse (z3.getD k 0) HC.out hz1 hz2)
              generalize z3.getD k 0 = z at *
              clear HC
              go_wp2_with fail
              refine HFU.out.mono ?_
              rintro e w6 ⟨rfl, hC6⟩
              have HOP := hide (c_open hC6)
              clear HFU hC6 hcell
              go_wp2_with fail
              refine HOP.out.mono ?_
              rintro e w7 ⟨⟨v7, rfl⟩, hO7⟩
              have HCR := hide (c_crash a2 len2 cap2 z2 hO7 W2.out)
              clear HOP hO7
              go_wp2_with fail
              refine HCR.out.mono ?_
              rintro e w8 ⟨rfl, hC8⟩
              have HC8 := hide hC8
              clear HCR hC8
              go_wp2_with fail
              go_roundw
              case rel => exact ⟨k + 1, by omega, by go_num, HC8.out⟩
              case measure => simp [intOf]; omega
            · by_cases h1 : k < len3
              · have h2 : ¬ k < 6 := fun h => hgo ⟨h1, h⟩
                obtain ⟨Y, hT, hOL⟩ := c_openLast HC.out
                have HOL := hide hOL
                clear hOL HC W2 W3
                go_wp2_with fail
                refine HOL.out.mono ?_
                rintro e w6 ⟨q2, rfl, hR⟩
                have HR := hide hR
                clear hR HOL
                go_wp2_with fail
                go_loopw [21] (fun j wx => ∃ m : Nat, m ≤ 6 ∧ j = .int .i64 m ∧ RAt w wx q2 p gi Z Y) (fun j _ => 7 - (intOf j).toNat)
                case atStart => exact ⟨0, by omega, rfl, HR.out⟩
                case round =>
                  clear HR
                  obtain ⟨m, hm, rfl, hB⟩ := hrel
                  have HB := hide hB
                  clear hB
                  by_cases hm6 : m < 6
                  · have HRD := hide (r_read HB.out m hm6)
                    clear HB
                    go_wp2_with fail
                    refine HRD.out.mono ?_
                    rintro e w7 ⟨gx, rfl, hgx, hyl, hB7⟩
                    clear HRD
                    have hb8 : Below w7.heap.size w7 (w7.alloc (.cells (secCells (zerosN 512)).toArray 5)) := (Below.refl _ _).alloc (Nat.le_refl _) _
                    have hz8 : (w7.alloc (.cells (secCells (zerosN 512)).toArray 5)).heap[w7.heap.size]? = some (.cells (secCells (zerosN 512)).toArray 5 (0, 0)) := heap_alloc_new _ _
                    have hgx8 := (hb8.block gx (Array.getElem?_eq_some_iff.1 hgx).1).trans hgx
                    have hB8 := hB7.belowW hb8
                    obtain ⟨w8, hw8⟩ : ∃ w8, w7.alloc (.cells (secCells (zerosN 512)).toArray 5) = w8 := ⟨_, rfl⟩
                    have hmk : (Instr.makeSlice 31 (.int .i64 512) (.int .i64 512)).run Try.prog w7 = .ok (.slice (some ⟨w7.heap.size, 0, none⟩) 512 512) w8 := by rw [← hw8]; exact makeN 512 (by omega) w7
                    rw [hw8] at hb8 hz8 hgx8 hB8
                    clear hw8 hgx hB7
                    have c8 := hB8.own.cell m (by rw [HSX.out]; exact hm6)
                    by_cases hpos : 0 < Z.getD m 0
                    · have hwant : want3 Z m = pg 3 (Z.getD m 0) := by unfold want3; rw [if_pos hpos]
                      have HW := hide hwant
                      have HB8 := hide hB8
                      have HG8 := hide hgx8
                      clear hwant hB8 hgx8 hb8 hz8
                      generalize Z.getD m 0 = zz at *
                      go_wp2_with fail
                      refine (page_any 3 zz w8).mono ?_
                      rintro e w9 ⟨rfl, hv, hb9⟩
                      rw [← HW.out] at hv
                      have hx := (hb9.block gx (Array.getElem?_eq_some_iff.1 HG8.out).1).trans HG8.out
                      have HB := hide (HB8.out.belowW hb9)
                      clear hb9 HG8 HW c8 HB8 hmk
                      have HTO := hide (hT m hm6)
                      have HVL := hide (length_want3 Z m)
                      have HYL := hide hyl
                      obtain ⟨y, hy⟩ : ∃ y, Y m = y := ⟨_, rfl⟩
                      obtain ⟨v, hvv⟩ : ∃ v, want3 Z m = v := ⟨_, rfl⟩
                      rw [hy] at hx HTO HYL
                      rw [hvv] at hv HTO HVL
                      clear hy hvv hyl
                      go_wp2
                      by_cases hev : y = v
                      · have HE : Hid ((!decide (y = v)) = false) := by show _ = _; simp [hev]
                        clear HTO
                        refine wp_region_held_drew (S := fun w' => w'.heap[gx]? = some (.cells (secCells y).toArray 5 (0, 0)) ∧ w'.heap[w8.heap.size]? = some (.cells (secCells v).toArray 5 (0, 0))) (by kernel_rfl) ⟨hx, hv⟩ (fun hH => ?_)
                        refine take_to 0 132 (.int .i64 0) rfl (by kernel_rfl) (by kernel_rfl) (by kernel_rfl) (fun _ _ _ h => h) rfl (by rfl) (fun w hw => by rfl) hH ?_
                        simp only [Act.put, List.setIfInBounds_toArray, List.set_cons_zero, List.set_cons_succ]
                        refine take_to 1 133 (.bool false) rfl (by kernel_rfl) (by kernel_rfl) (by kernel_rfl) (fun _ _ _ h => h) rfl (by rfl) (fun w hw => op_neq24 _ _ (.tmp 132) _ 24 rfl _ _ rfl rfl _ (by rfl)) hH ?_
                        simp only [Act.put, List.setIfInBounds_toArray, List.set_cons_zero, List.set_cons_succ]
                        refine take_to 2 134 (.bool false) rfl (by kernel_rfl) (by kernel_rfl) (by kernel_rfl) (fun _ _ _ h => h) rfl (by rfl) (fun w hw => by rfl) hH ?_
                        simp only [Act.put, List.setIfInBounds_toArray, List.set_cons_zero, List.set_cons_succ]
                        refine take_to 3 135 (.slice (some ⟨gx, 0, none⟩) 512 512) rfl (by kernel_rfl) (by kernel_rfl) (by kernel_rfl) (fun _ _ _ h => h) rfl (by rfl) (fun w hw => by rfl) hH ?_
                        simp only [Act.put, List.setIfInBounds_toArray, List.set_cons_zero, List.set_cons_succ]
                        refine take_to 4 136 (.string (strOf y)) rfl (by kernel_rfl) (by kernel_rfl) (by kernel_rfl) (fun _ _ _ h => h) rfl (by rfl) (fun w hw => op_conv _ _ 31 9 (.tmp 135) rfl _ _ rfl (run_str w _ 512 512 _ HYL.out hw.1)) hH ?_
                        simp only [Act.put, List.setIfInBounds_toArray, List.set_cons_zero, List.set_cons_succ]
                        refine take_to 5 137 (.slice (some ⟨w8.heap.size, 0, none⟩) 512 512) rfl (by kernel_rfl) (by kernel_rfl) (by kernel_rfl) (fun _ _ _ h => h) rfl (by rfl) (fun w hw => by rfl) hH ?_
                        simp only [Act.put, List.setIfInBounds_toArray, List.set_cons_zero, List.set_cons_succ]
                        refine take_to 6 138 (.string (strOf v)) rfl (by kernel_rfl) (by kernel_rfl) (by kernel_rfl) (fun _ _ _ h => h) rfl (by rfl) (fun w hw => op_conv _ _ 31 9 (.tmp 137) rfl _ _ rfl (run_str w _ 512 512 _ HVL.out hw.2)) hH ?_
                        simp only [Act.put, List.setIfInBounds_toArray, List.set_cons_zero, List.set_cons_succ]
                        refine take_to 7 139 (.bool false) rfl (by kernel_rfl) (by kernel_rfl) (by kernel_rfl) (fun _ _ _ h => h) rfl (by rfl) (fun w hw => op_neqstrB _ _ (.tmp 136) (.tmp 138) 9 rfl y v rfl rfl _ HE.out) hH ?_
                        simp only [Act.put, List.setIfInBounds_toArray, List.set_cons_zero, List.set_cons_succ]
                        refine take_to 8 140 (.bool false) rfl (by kernel_rfl) (by kernel_rfl) (by kernel_rfl) (fun _ _ _ h => h) rfl (by rfl) (fun w hw => by rfl) hH ?_
                        simp only [Act.put, List.setIfInBounds_toArray, List.set_cons_zero, List.set_cons_succ]
                        refine skip_to 9 141 rfl (by kernel_rfl) (by kernel_rfl) (by kernel_rfl) (fun _ _ _ h => h) rfl (by rfl) hH ?_
                        simp only [Act.put, List.setIfInBounds_toArray, List.set_cons_zero, List.set_cons_succ]
                        refine skip_to 10 142 rfl (by kernel_rfl) (by kernel_rfl) (by kernel_rfl) (fun _ _ _ h => h) rfl (by rfl) hH ?_
                        simp only [Act.put, List.setIfInBounds_toArray, List.set_cons_zero, List.set_cons_succ]
                        refine skip_to 11 143 rfl (by kernel_rfl) (by kernel_rfl) (by kernel_rfl) (fun _ _ _ h => h) rfl (by rfl) hH ?_
                        simp only [Act.put, List.setIfInBounds_toArray, List.set_cons_zero, List.set_cons_succ]
                        refine skip_to 12 144 rfl (by kernel_rfl) (by kernel_rfl) (by kernel_rfl) (fun _ _ _ h => h) rfl (by rfl) hH ?_
                        simp only [Act.put, List.setIfInBounds_toArray, List.set_cons_zero, List.set_cons_succ]
                        refine skip_to 13 145 rfl (by kernel_rfl) (by kernel_rfl) (by kernel_rfl) (fun _ _ _ h => h) rfl (by rfl) hH ?_
                        simp only [Act.put, List.setIfInBounds_toArray, List.set_cons_zero, List.set_cons_succ]
                        refine skip_to 14 146 rfl (by kernel_rfl) (by kernel_rfl) (by kernel_rfl) (fun _ _ _ h => h) rfl (by rfl) hH ?_
                        simp only [Act.put, List.setIfInBounds_toArray, List.set_cons_zero, List.set_cons_succ]
                        refine skip_to 15 147 rfl (by kernel_rfl) (by kernel_rfl) (by kernel_rfl) (fun _ _ _ h => h) rfl (by rfl) hH ?_
                        simp only [Act.put, List.setIfInBounds_toArray, List.set_cons_zero, List.set_cons_succ]
                        refine skip_to 16 148 rfl (by kernel_rfl) (by kernel_rfl) (by kernel_rfl) (fun _ _ _ h => h) rfl (by rfl) hH ?_
                        simp only [Act.put, List.setIfInBounds_toArray, List.set_cons_zero, List.set_cons_succ]
                        refine skip_to 17 149 rfl (by kernel_rfl) (by kernel_rfl) (by kernel_rfl) (fun _ _ _ h => h) rfl (by rfl) hH ?_
                        simp only [Act.put, List.setIfInBounds_toArray, List.set_cons_zero, List.set_cons_succ]
                        refine skip_to 18 150 rfl (by kernel_rfl) (by kernel_rfl) (by kernel_rfl) (fun _ _ _ h => h) rfl (by rfl) hH ?_
                        simp only [Act.put, List.setIfInBounds_toArray, List.set_cons_zero, List.set_cons_succ]
                        refine skip_to 19 151 rfl (by kernel_rfl) (by kernel_rfl) (by kernel_rfl) (fun _ _ _ h => h) rfl (by rfl) hH ?_
                        simp only [Act.put, List.setIfInBounds_toArray, List.set_cons_zero, List.set_cons_succ]
                        refine take_to 20 152 (.bool false) rfl (by kernel_rfl) (by kernel_rfl) (by kernel_rfl) (fun _ _ _ h => h) rfl (by rfl) (fun w hw => by rfl) hH ?_
                        simp only [Act.put, List.setIfInBounds_toArray, List.set_cons_zero, List.set_cons_succ]
                        refine take_to 21 153 (.bool false) rfl (by kernel_rfl) (by kernel_rfl) (by kernel_rfl) (fun _ _ _ h => h) rfl (by rfl) (fun w hw => by rfl) hH ?_
                        simp only [Act.put, List.setIfInBounds_toArray, List.set_cons_zero, List.set_cons_succ]
                        refine wpAnyH_done (by kernel_rfl) ?_ _
                        clear hH

                        clear HE hx hv
                        go_wp2_with fail
                        go_roundw
                        case rel => exact ⟨m + 1, by omega, by go_num, HB.out.belowW (below_drewN _ _ 1)⟩
                        case measure => simp [intOf]; omega
                      · obtain ⟨hmw, hyp⟩ := HTO.out.resolve_left hev
                        have HE : Hid ((!decide (y = v)) = true) := by show _ = _; simp [hev]
                        have HWY : Hid (((m : Int) != wy) = false) := by show _ = _; rw [hmw]; simp
                        have HPL := hide (fun W => page_any 3 la W)
                        rw [← hyp] at HPL
                        clear HTO hmw hyp
                        refine wp_region_held_drew (S := fun w' => w'.heap[gx]? = some (.cells (secCells y).toArray 5 (0, 0)) ∧ w'.heap[w8.heap.size]? = some (.cells (secCells v).toArray 5 (0, 0))) (by kernel_rfl) ⟨hx, hv⟩ (fun hH => ?_)
                        refine take_to 0 132 (.int .i64 0) rfl (by kernel_rfl) (by kernel_rfl) (by kernel_rfl) (fun _ _ _ h => h) rfl (by rfl) (fun w hw => by rfl) hH ?_
                        simp only [Act.put, List.setIfInBounds_toArray, List.set_cons_zero, List.set_cons_succ]
                        refine take_to 1 133 (.bool false) rfl (by kernel_rfl) (by kernel_rfl) (by kernel_rfl) (fun _ _ _ h => h) rfl (by rfl) (fun w hw => op_neq24 _ _ (.tmp 132) _ 24 rfl _ _ rfl rfl _ (by rfl)) hH ?_
                        simp only [Act.put, List.setIfInBounds_toArray, List.set_cons_zero, List.set_cons_succ]
                        refine take_to 2 134 (.bool false) rfl (by kernel_rfl) (by kernel_rfl) (by kernel_rfl) (fun _ _ _ h => h) rfl (by rfl) (fun w hw => by rfl) hH ?_
                        simp only [Act.put, List.setIfInBounds_toArray, List.set_cons_zero, List.set_cons_succ]
                        refine take_to 3 135 (.slice (some ⟨gx, 0, none⟩) 512 512) rfl (by kernel_rfl) (by kernel_rfl) (by kernel_rfl) (fun _ _ _ h => h) rfl (by rfl) (fun w hw => by rfl) hH ?_
                        simp only [Act.put, List.setIfInBounds_toArray, List.set_cons_zero, List.set_cons_succ]
                        refine take_to 4 136 (.string (strOf y)) rfl (by kernel_rfl) (by kernel_rfl) (by kernel_rfl) (fun _ _ _ h => h) rfl (by rfl) (fun w hw => op_conv _ _ 31 9 (.tmp 135) rfl _ _ rfl (run_str w _ 512 512 _ HYL.out hw.1)) hH ?_
                        simp only [Act.put, List.setIfInBounds_toArray, List.set_cons_zero, List.set_cons_succ]
                        refine take_to 5 137 (.slice (some ⟨w8.heap.size, 0, none⟩) 512 512) rfl (by kernel_rfl) (by kernel_rfl) (by kernel_rfl) (fun _ _ _ h => h) rfl (by rfl) (fun w hw => by rfl) hH ?_
                        simp only [Act.put, List.setIfInBounds_toArray, List.set_cons_zero, List.set_cons_succ]
                        refine take_to 6 138 (.string (strOf v)) rfl (by kernel_rfl) (by kernel_rfl) (by kernel_rfl) (fun _ _ _ h => h) rfl (by rfl) (fun w hw => op_conv _ _ 31 9 (.tmp 137) rfl _ _ rfl (run_str w _ 512 512 _ HVL.out hw.2)) hH ?_
                        simp only [Act.put, List.setIfInBounds_toArray, List.set_cons_zero, List.set_cons_succ]
                        refine take_to 7 139 (.bool true) rfl (by kernel_rfl) (by kernel_rfl) (by kernel_rfl) (fun _ _ _ h => h) rfl (by rfl) (fun w hw => op_neqstrB _ _ (.tmp 136) (.tmp 138) 9 rfl y v rfl rfl _ HE.out) hH ?_
                        simp only [Act.put, List.setIfInBounds_toArray, List.set_cons_zero, List.set_cons_succ]
                        refine take_to 8 140 (.bool true) rfl (by kernel_rfl) (by kernel_rfl) (by kernel_rfl) (fun _ _ _ h => h) rfl (by rfl) (fun w hw => by rfl) hH ?_
                        simp only [Act.put, List.setIfInBounds_toArray, List.set_cons_zero, List.set_cons_succ]
                        refine take_to 9 141 (.int .i64 (m : Int)) rfl (by kernel_rfl) (by kernel_rfl) (by kernel_rfl) (fun _ _ _ h => h) rfl (by rfl) (fun w hw => by rfl) hH ?_
                        simp only [Act.put, List.setIfInBounds_toArray, List.set_cons_zero, List.set_cons_succ]
                        refine take_to 10 142 (.int .i64 wy) rfl (by kernel_rfl) (by kernel_rfl) (by kernel_rfl) (fun _ _ _ h => h) rfl (by rfl) (fun w hw => by rfl) hH ?_
                        simp only [Act.put, List.setIfInBounds_toArray, List.set_cons_zero, List.set_cons_succ]
                        refine take_to 11 143 (.bool false) rfl (by kernel_rfl) (by kernel_rfl) (by kernel_rfl) (fun _ _ _ h => h) rfl (by rfl) (fun w hw => op_neq3 _ _ (.tmp 141) (.tmp 142) 3 rfl _ _ rfl rfl _ HWY.out) hH ?_
                        simp only [Act.put, List.setIfInBounds_toArray, List.set_cons_zero, List.set_cons_succ]
                        refine take_to 12 144 (.bool false) rfl (by kernel_rfl) (by kernel_rfl) (by kernel_rfl) (fun _ _ _ h => h) rfl (by rfl) (fun w hw => by rfl) hH ?_
                        simp only [Act.put, List.setIfInBounds_toArray, List.set_cons_zero, List.set_cons_succ]
                        refine take_to 13 145 (.slice (some ⟨gx, 0, none⟩) 512 512) rfl (by kernel_rfl) (by kernel_rfl) (by kernel_rfl) (fun _ _ _ h => h) rfl (by rfl) (fun w hw => by rfl) hH ?_
                        simp only [Act.put, List.setIfInBounds_toArray, List.set_cons_zero, List.set_cons_succ]
                        refine take_to 14 146 (.string (strOf y)) rfl (by kernel_rfl) (by kernel_rfl) (by kernel_rfl) (fun _ _ _ h => h) rfl (by rfl) (fun w hw => op_conv _ _ 31 9 (.tmp 145) rfl _ _ rfl (run_str w _ 512 512 _ HYL.out hw.1)) hH ?_
                        simp only [Act.put, List.setIfInBounds_toArray, List.set_cons_zero, List.set_cons_succ]
                        refine take_to 15 147 (.int .i64 la) rfl (by kernel_rfl) (by kernel_rfl) (by kernel_rfl) (fun _ _ _ h => h) rfl (by rfl) (fun w hw => by rfl) hH ?_
                        simp only [Act.put, List.setIfInBounds_toArray, List.set_cons_zero, List.set_cons_succ]
                        refine step_call2_to 16 148 8 rfl (by kernel_rfl) rfl (by rfl) (.const (.int .i64 3)) (.tmp 147) _ rfl _ _ rfl rfl Try.enters8 (HPL.out _) ?_
                        rintro e wz ⟨rfl, hgz, hbz⟩
                        have hSz : wz.heap[gx]? = some (.cells (secCells y).toArray 5 (0, 0)) ∧ wz.heap[w8.heap.size]? = some (.cells (secCells v).toArray 5 (0, 0)) := ⟨(hbz.block _ (Array.getElem?_eq_some_iff.1 hx).1).trans hx, (hbz.block _ (Array.getElem?_eq_some_iff.1 hv).1).trans hv⟩
                        refine ⟨_, rfl, hSz, ?_⟩
                        simp only [Act.put, List.setIfInBounds_toArray, List.set_cons_zero, List.set_cons_succ]
                        refine step_to 17 149 (.string (strOf y)) wz rfl (by kernel_rfl) rfl (by rfl) (op_conv _ _ 31 9 (.tmp 148) rfl _ _ rfl (run_str wz _ 512 512 _ HYL.out hgz)) hSz ?_
                        simp only [Act.put, List.setIfInBounds_toArray, List.set_cons_zero, List.set_cons_succ]
                        refine step_to 18 150 (.bool false) wz rfl (by kernel_rfl) rfl (by rfl) (op_neqstrY _ _ (.tmp 146) (.tmp 149) 9 rfl _ rfl rfl) hSz ?_
                        simp only [Act.put, List.setIfInBounds_toArray, List.set_cons_zero, List.set_cons_succ]
                        refine step_to 19 151 (.bool false) wz rfl (by kernel_rfl) rfl (by rfl) (rfl) hSz ?_
                        simp only [Act.put, List.setIfInBounds_toArray, List.set_cons_zero, List.set_cons_succ]
                        refine step_to 20 152 (.bool false) wz rfl (by kernel_rfl) rfl (by rfl) (rfl) hSz ?_
                        simp only [Act.put, List.setIfInBounds_toArray, List.set_cons_zero, List.set_cons_succ]
                        refine step_to 21 153 (.bool false) wz rfl (by kernel_rfl) rfl (by rfl) (rfl) hSz ?_
                        simp only [Act.put, List.setIfInBounds_toArray, List.set_cons_zero, List.set_cons_succ]
                        refine wpAnyH_done (by kernel_rfl) ?_ _
                        have HBz := hide (HB.out.belowW ((below_drewN w9.heap.size w9 1).trans hbz))
                        clear hH hSz hgz hbz

                        clear HE hx hv HWY HPL
                        go_wp2_with fail
                        go_roundw
                        case rel => exact ⟨m + 1, by omega, by go_num, HBz.out⟩
                        case measure => simp [intOf]; omega

                    · have hwant : want3 Z m = zerosN 512 := by unfold want3; rw [if_neg hpos]
                      rw [← hwant] at hz8
                      have hx := hgx8
                      have hv := hz8
                      have HB := hide hB8
                      clear hwant hB8 hgx8 hb8 hz8
                      generalize Z.getD m 0 = zz at *
                      have HTO := hide (hT m hm6)
                      have HVL := hide (length_want3 Z m)
                      have HYL := hide hyl
                      obtain ⟨y, hy⟩ : ∃ y, Y m = y := ⟨_, rfl⟩
                      obtain ⟨v, hvv⟩ : ∃ v, want3 Z m = v := ⟨_, rfl⟩
                      rw [hy] at hx HTO HYL
                      rw [hvv] at hv HTO HVL
                      clear hy hvv hyl
                      go_wp2
                      by_cases hev : y = v
                      · have HE : Hid ((!decide (y = v)) = false) := by show _ = _; simp [hev]
                        clear HTO
                        refine wp_region_held_drew (S := fun w' => w'.heap[gx]? = some (.cells (secCells y).toArray 5 (0, 0)) ∧ w'.heap[w7.heap.size]? = some (.cells (secCells v).toArray 5 (0, 0))) (by kernel_rfl) ⟨hx, hv⟩ (fun hH => ?_)
                        refine take_to 0 132 (.int .i64 0) rfl (by kernel_rfl) (by kernel_rfl) (by kernel_rfl) (fun _ _ _ h => h) rfl (by rfl) (fun w hw => by rfl) hH ?_
                        simp only [Act.put, List.setIfInBounds_toArray, List.set_cons_zero, List.set_cons_succ]
                        refine take_to 1 133 (.bool false) rfl (by kernel_rfl) (by kernel_rfl) (by kernel_rfl) (fun _ _ _ h => h) rfl (by rfl) (fun w hw => op_neq24 _ _ (.tmp 132) _ 24 rfl _ _ rfl rfl _ (by rfl)) hH ?_
                        simp only [Act.put, List.setIfInBounds_toArray, List.set_cons_zero, List.set_cons_succ]
                        refine take_to 2 134 (.bool false) rfl (by kernel_rfl) (by kernel_rfl) (by kernel_rfl) (fun _ _ _ h => h) rfl (by rfl) (fun w hw => by rfl) hH ?_
                        simp only [Act.put, List.setIfInBounds_toArray, List.set_cons_zero, List.set_cons_succ]
                        refine take_to 3 135 (.slice (some ⟨gx, 0, none⟩) 512 512) rfl (by kernel_rfl) (by kernel_rfl) (by kernel_rfl) (fun _ _ _ h => h) rfl (by rfl) (fun w hw => by rfl) hH ?_
                        simp only [Act.put, List.setIfInBounds_toArray, List.set_cons_zero, List.set_cons_succ]
                        refine take_to 4 136 (.string (strOf y)) rfl (by kernel_rfl) (by kernel_rfl) (by kernel_rfl) (fun _ _ _ h => h) rfl (by rfl) (fun w hw => op_conv _ _ 31 9 (.tmp 135) rfl _ _ rfl (run_str w _ 512 512 _ HYL.out hw.1)) hH ?_
                        simp only [Act.put, List.setIfInBounds_toArray, List.set_cons_zero, List.set_cons_succ]
                        refine take_to 5 137 (.slice (some ⟨w7.heap.size, 0, none⟩) 512 512) rfl (by kernel_rfl) (by kernel_rfl) (by kernel_rfl) (fun _ _ _ h => h) rfl (by rfl) (fun w hw => by rfl) hH ?_
                        simp only [Act.put, List.setIfInBounds_toArray, List.set_cons_zero, List.set_cons_succ]
                        refine take_to 6 138 (.string (strOf v)) rfl (by kernel_rfl) (by kernel_rfl) (by kernel_rfl) (fun _ _ _ h => h) rfl (by rfl) (fun w hw => op_conv _ _ 31 9 (.tmp 137) rfl _ _ rfl (run_str w _ 512 512 _ HVL.out hw.2)) hH ?_
                        simp only [Act.put, List.setIfInBounds_toArray, List.set_cons_zero, List.set_cons_succ]
                        refine take_to 7 139 (.bool false) rfl (by kernel_rfl) (by kernel_rfl) (by kernel_rfl) (fun _ _ _ h => h) rfl (by rfl) (fun w hw => op_neqstrB _ _ (.tmp 136) (.tmp 138) 9 rfl y v rfl rfl _ HE.out) hH ?_
                        simp only [Act.put, List.setIfInBounds_toArray, List.set_cons_zero, List.set_cons_succ]
                        refine take_to 8 140 (.bool false) rfl (by kernel_rfl) (by kernel_rfl) (by kernel_rfl) (fun _ _ _ h => h) rfl (by rfl) (fun w hw => by rfl) hH ?_
                        simp only [Act.put, List.setIfInBounds_toArray, List.set_cons_zero, List.set_cons_succ]
                        refine skip_to 9 141 rfl (by kernel_rfl) (by kernel_rfl) (by kernel_rfl) (fun _ _ _ h => h) rfl (by rfl) hH ?_
                        simp only [Act.put, List.setIfInBounds_toArray, List.set_cons_zero, List.set_cons_succ]
                        refine skip_to 10 142 rfl (by kernel_rfl) (by kernel_rfl) (by kernel_rfl) (fun _ _ _ h => h) rfl (by rfl) hH ?_
                        simp only [Act.put, List.setIfInBounds_toArray, List.set_cons_zero, List.set_cons_succ]
                        refine skip_to 11 143 rfl (by kernel_rfl) (by kernel_rfl) (by kernel_rfl) (fun _ _ _ h => h) rfl (by rfl) hH ?_
                        simp only [Act.put, List.setIfInBounds_toArray, List.set_cons_zero, List.set_cons_succ]
                        refine skip_to 12 144 rfl (by kernel_rfl) (by kernel_rfl) (by kernel_rfl) (fun _ _ _ h => h) rfl (by rfl) hH ?_
                        simp only [Act.put, List.setIfInBounds_toArray, List.set_cons_zero, List.set_cons_succ]
                        refine skip_to 13 145 rfl (by kernel_rfl) (by kernel_rfl) (by kernel_rfl) (fun _ _ _ h => h) rfl (by rfl) hH ?_
                        simp only [Act.put, List.setIfInBounds_toArray, List.set_cons_zero, List.set_cons_succ]
                        refine skip_to 14 146 rfl (by kernel_rfl) (by kernel_rfl) (by kernel_rfl) (fun _ _ _ h => h) rfl (by rfl) hH ?_
                        simp only [Act.put, List.setIfInBounds_toArray, List.set_cons_zero, List.set_cons_succ]
                        refine skip_to 15 147 rfl (by kernel_rfl) (by kernel_rfl) (by kernel_rfl) (fun _ _ _ h => h) rfl (by rfl) hH ?_
                        simp only [Act.put, List.setIfInBounds_toArray, List.set_cons_zero, List.set_cons_succ]
                        refine skip_to 16 148 rfl (by kernel_rfl) (by kernel_rfl) (by kernel_rfl) (fun _ _ _ h => h) rfl (by rfl) hH ?_
                        simp only [Act.put, List.setIfInBounds_toArray, List.set_cons_zero, List.set_cons_succ]
                        refine skip_to 17 149 rfl (by kernel_rfl) (by kernel_rfl) (by kernel_rfl) (fun _ _ _ h => h) rfl (by rfl) hH ?_
                        simp only [Act.put, List.setIfInBounds_toArray, List.set_cons_zero, List.set_cons_succ]
                        refine skip_to 18 150 rfl (by kernel_rfl) (by kernel_rfl) (by kernel_rfl) (fun _ _ _ h => h) rfl (by rfl) hH ?_
                        simp only [Act.put, List.setIfInBounds_toArray, List.set_cons_zero, List.set_cons_succ]
                        refine skip_to 19 151 rfl (by kernel_rfl) (by kernel_rfl) (by kernel_rfl) (fun _ _ _ h => h) rfl (by rfl) hH ?_
                        simp only [Act.put, List.setIfInBounds_toArray, List.set_cons_zero, List.set_cons_succ]
                        refine take_to 20 152 (.bool false) rfl (by kernel_rfl) (by kernel_rfl) (by kernel_rfl) (fun _ _ _ h => h) rfl (by rfl) (fun w hw => by rfl) hH ?_
                        simp only [Act.put, List.setIfInBounds_toArray, List.set_cons_zero, List.set_cons_succ]
                        refine take_to 21 153 (.bool false) rfl (by kernel_rfl) (by kernel_rfl) (by kernel_rfl) (fun _ _ _ h => h) rfl (by rfl) (fun w hw => by rfl) hH ?_
                        simp only [Act.put, List.setIfInBounds_toArray, List.set_cons_zero, List.set_cons_succ]
                        refine wpAnyH_done (by kernel_rfl) ?_ _
                        clear hH

                        clear HE hx hv
                        go_wp2_with fail
                        go_roundw
                        case rel => exact ⟨m + 1, by omega, by go_num, HB.out.belowW (below_drewN _ _ 1)⟩
                        case measure => simp [intOf]; omega
                      · obtain ⟨hmw, hyp⟩ := HTO.out.resolve_left hev
                        have HE : Hid ((!decide (y = v)) = true) := by show _ = _; simp [hev]
                        have HWY : Hid (((m : Int) != wy) = false) := by show _ = _; rw [hmw]; simp
                        have HPL := hide (fun W => page_any 3 la W)
                        rw [← hyp] at HPL
                        clear HTO hmw hyp
                        refine wp_region_held_drew (S := fun w' => w'.heap[gx]? = some (.cells (secCells y).toArray 5 (0, 0)) ∧ w'.heap[w7.heap.size]? = some (.cells (secCells v).toArray 5 (0, 0))) (by kernel_rfl) ⟨hx, hv⟩ (fun hH => ?_)
                        refine take_to 0 132 (.int .i64 0) rfl (by kernel_rfl) (by kernel_rfl) (by kernel_rfl) (fun _ _ _ h => h) rfl (by rfl) (fun w hw => by rfl) hH ?_
                        simp only [Act.put, List.setIfInBounds_toArray, List.set_cons_zero, List.set_cons_succ]
                        refine take_to 1 133 (.bool false) rfl (by kernel_rfl) (by kernel_rfl) (by kernel_rfl) (fun _ _ _ h => h) rfl (by rfl) (fun w hw => op_neq24 _ _ (.tmp 132) _ 24 rfl _ _ rfl rfl _ (by rfl)) hH ?_
                        simp only [Act.put, List.setIfInBounds_toArray, List.set_cons_zero, List.set_cons_succ]
                        refine take_to 2 134 (.bool false) rfl (by kernel_rfl) (by kernel_rfl) (by kernel_rfl) (fun _ _ _ h => h) rfl (by rfl) (fun w hw => by rfl) hH ?_
                        simp only [Act.put, List.setIfInBounds_toArray, List.set_cons_zero, List.set_cons_succ]
                        refine take_to 3 135 (.slice (some ⟨gx, 0, none⟩) 512 512) rfl (by kernel_rfl) (by kernel_rfl) (by kernel_rfl) (fun _ _ _ h => h) rfl (by rfl) (fun w hw => by rfl) hH ?_
                        simp only [Act.put, List.setIfInBounds_toArray, List.set_cons_zero, List.set_cons_succ]
                        refine take_to 4 136 (.string (strOf y)) rfl (by kernel_rfl) (by kernel_rfl) (by kernel_rfl) (fun _ _ _ h => h) rfl (by rfl) (fun w hw => op_conv _ _ 31 9 (.tmp 135) rfl _ _ rfl (run_str w _ 512 512 _ HYL.out hw.1)) hH ?_
                        simp only [Act.put, List.setIfInBounds_toArray, List.set_cons_zero, List.set_cons_succ]
                        refine take_to 5 137 (.slice (some ⟨w7.heap.size, 0, none⟩) 512 512) rfl (by kernel_rfl) (by kernel_rfl) (by kernel_rfl) (fun _ _ _ h => h) rfl (by rfl) (fun w hw => by rfl) hH ?_
                        simp only [Act.put, List.setIfInBounds_toArray, List.set_cons_zero, List.set_cons_succ]
                        refine take_to 6 138 (.string (strOf v)) rfl (by kernel_rfl) (by kernel_rfl) (by kernel_rfl) (fun _ _ _ h => h) rfl (by rfl) (fun w hw => op_conv _ _ 31 9 (.tmp 137) rfl _ _ rfl (run_str w _ 512 512 _ HVL.out hw.2)) hH ?_
                        simp only [Act.put, List.setIfInBounds_toArray, List.set_cons_zero, List.set_cons_succ]
                        refine take_to 7 139 (.bool true) rfl (by kernel_rfl) (by kernel_rfl) (by kernel_rfl) (fun _ _ _ h => h) rfl (by rfl) (fun w hw => op_neqstrB _ _ (.tmp 136) (.tmp 138) 9 rfl y v rfl rfl _ HE.out) hH ?_
                        simp only [Act.put, List.setIfInBounds_toArray, List.set_cons_zero, List.set_cons_succ]
                        refine take_to 8 140 (.bool true) rfl (by kernel_rfl) (by kernel_rfl) (by kernel_rfl) (fun _ _ _ h => h) rfl (by rfl) (fun w hw => by rfl) hH ?_
                        simp only [Act.put, List.setIfInBounds_toArray, List.set_cons_zero, List.set_cons_succ]
                        refine take_to 9 141 (.int .i64 (m : Int)) rfl (by kernel_rfl) (by kernel_rfl) (by kernel_rfl) (fun _ _ _ h => h) rfl (by rfl) (fun w hw => by rfl) hH ?_
                        simp only [Act.put, List.setIfInBounds_toArray, List.set_cons_zero, List.set_cons_succ]
                        refine take_to 10 142 (.int .i64 wy) rfl (by kernel_rfl) (by kernel_rfl) (by kernel_rfl) (fun _ _ _ h => h) rfl (by rfl) (fun w hw => by rfl) hH ?_
                        simp only [Act.put, List.setIfInBounds_toArray, List.set_cons_zero, List.set_cons_succ]
                        refine take_to 11 143 (.bool false) rfl (by kernel_rfl) (by kernel_rfl) (by kernel_rfl) (fun _ _ _ h => h) rfl (by rfl) (fun w hw => op_neq3 _ _ (.tmp 141) (.tmp 142) 3 rfl _ _ rfl rfl _ HWY.out) hH ?_
                        simp only [Act.put, List.setIfInBounds_toArray, List.set_cons_zero, List.set_cons_succ]
                        refine take_to 12 144 (.bool false) rfl (by kernel_rfl) (by kernel_rfl) (by kernel_rfl) (fun _ _ _ h => h) rfl (by rfl) (fun w hw => by rfl) hH ?_
                        simp only [Act.put, List.setIfInBounds_toArray, List.set_cons_zero, List.set_cons_succ]
                        refine take_to 13 145 (.slice (some ⟨gx, 0, none⟩) 512 512) rfl (by kernel_rfl) (by kernel_rfl) (by kernel_rfl) (fun _ _ _ h => h) rfl (by rfl) (fun w hw => by rfl) hH ?_
                        simp only [Act.put, List.setIfInBounds_toArray, List.set_cons_zero, List.set_cons_succ]
                        refine take_to 14 146 (.string (strOf y)) rfl (by kernel_rfl) (by kernel_rfl) (by kernel_rfl) (fun _ _ _ h => h) rfl (by rfl) (fun w hw => op_conv _ _ 31 9 (.tmp 145) rfl _ _ rfl (run_str w _ 512 512 _ HYL.out hw.1)) hH ?_
                        simp only [Act.put, List.setIfInBounds_toArray, List.set_cons_zero, List.set_cons_succ]
                        refine take_to 15 147 (.int .i64 la) rfl (by kernel_rfl) (by kernel_rfl) (by kernel_rfl) (fun _ _ _ h => h) rfl (by rfl) (fun w hw => by rfl) hH ?_
                        simp only [Act.put, List.setIfInBounds_toArray, List.set_cons_zero, List.set_cons_succ]
                        refine step_call2_to 16 148 8 rfl (by kernel_rfl) rfl (by rfl) (.const (.int .i64 3)) (.tmp 147) _ rfl _ _ rfl rfl Try.enters8 (HPL.out _) ?_
                        rintro e wz ⟨rfl, hgz, hbz⟩
                        have hSz : wz.heap[gx]? = some (.cells (secCells y).toArray 5 (0, 0)) ∧ wz.heap[w7.heap.size]? = some (.cells (secCells v).toArray 5 (0, 0)) := ⟨(hbz.block _ (Array.getElem?_eq_some_iff.1 hx).1).trans hx, (hbz.block _ (Array.getElem?_eq_some_iff.1 hv).1).trans hv⟩
                        refine ⟨_, rfl, hSz, ?_⟩
                        simp only [Act.put, List.setIfInBounds_toArray, List.set_cons_zero, List.set_cons_succ]
                        refine step_to 17 149 (.string (strOf y)) wz rfl (by kernel_rfl) rfl (by rfl) (op_conv _ _ 31 9 (.tmp 148) rfl _ _ rfl (run_str wz _ 512 512 _ HYL.out hgz)) hSz ?_
                        simp only [Act.put, List.setIfInBounds_toArray, List.set_cons_zero, List.set_cons_succ]
                        refine step_to 18 150 (.bool false) wz rfl (by kernel_rfl) rfl (by rfl) (op_neqstrY _ _ (.tmp 146) (.tmp 149) 9 rfl _ rfl rfl) hSz ?_
                        simp only [Act.put, List.setIfInBounds_toArray, List.set_cons_zero, List.set_cons_succ]
                        refine step_to 19 151 (.bool false) wz rfl (by kernel_rfl) rfl (by rfl) (rfl) hSz ?_
                        simp only [Act.put, List.setIfInBounds_toArray, List.set_cons_zero, List.set_cons_succ]
                        refine step_to 20 152 (.bool false) wz rfl (by kernel_rfl) rfl (by rfl) (rfl) hSz ?_
                        simp only [Act.put, List.setIfInBounds_toArray, List.set_cons_zero, List.set_cons_succ]
                        refine step_to 21 153 (.bool false) wz rfl (by kernel_rfl) rfl (by rfl) (rfl) hSz ?_
                        simp only [Act.put, List.setIfInBounds_toArray, List.set_cons_zero, List.set_cons_succ]
                        refine wpAnyH_done (by kernel_rfl) ?_ _
                        have HBz := hide (HB.out.belowW ((below_drewN w8.heap.size w8 1).trans hbz))
                        clear hH hSz hgz hbz

                        clear HE hx hv HWY HPL
                        go_wp2_with fail
                        go_roundw
                        case rel => exact ⟨m + 1, by omega, by go_num, HBz.out⟩
                        case measure => simp [intOf]; omega

                  · have HAW := hide (awake_true wr)
                    go_wp2_with (first | (go_at_call 12; refine HAW.out.mono ?_; rintro e w' ⟨rfl, hbw⟩))
                    go_ret
                    exact ⟨rfl, HB.out.below.trans (hbw.mono HB.out.below.size)⟩

              · obtain ⟨Y, hT, hOL⟩ := c_openLast HC.out
                have HOL := hide hOL
                clear hOL HC W2 W3
                go_wp2_with fail
                refine HOL.out.mono ?_
                rintro e w6 ⟨q2, rfl, hR⟩
                have HR := hide hR
                clear hR HOL
                go_wp2_with fail
                go_loopw [21] (fun j wx => ∃ m : Nat, m ≤ 6 ∧ j = .int .i64 m ∧ RAt w wx q2 p gi Z Y) (fun j _ => 7 - (intOf j).toNat)
                case atStart => exact ⟨0, by omega, rfl, HR.out⟩
                case round =>
                  clear HR
                  obtain ⟨m, hm, rfl, hB⟩ := hrel
                  have HB := hide hB
                  clear hB
                  by_cases hm6 : m < 6
                  · have HRD := hide (r_read HB.out m hm6)
                    clear HB
                    go_wp2_with fail
                    refine HRD.out.mono ?_
                    rintro e w7 ⟨gx, rfl, hgx, hyl, hB7⟩
                    clear HRD
                    have hb8 : Below w7.heap.size w7 (w7.alloc (.cells (secCells (zerosN 512)).toArray 5)) := (Below.refl _ _).alloc (Nat.le_refl _) _
                    have hz8 : (w7.alloc (.cells (secCells (zerosN 512)).toArray 5)).heap[w7.heap.size]? = some (.cells (secCells (zerosN 512)).toArray 5 (0, 0)) := heap_alloc_new _ _
                    have hgx8 := (hb8.block gx (Array.getElem?_eq_some_iff.1 hgx).1).trans hgx
                    have hB8 := hB7.belowW hb8
                    obtain ⟨w8, hw8⟩ : ∃ w8, w7.alloc (.cells (secCells (zerosN 512)).toArray 5) = w8 := ⟨_, rfl⟩
                    have hmk : (Instr.makeSlice 31 (.int .i64 512) (.int .i64 512)).run Try.prog w7 = .ok (.slice (some ⟨w7.heap.size, 0, none⟩) 512 512) w8 := by rw [← hw8]; exact makeN 512 (by omega) w7
                    rw [hw8] at hb8 hz8 hgx8 hB8
                    clear hw8 hgx hB7
                    have c8 := hB8.own.cell m (by rw [HSX.out]; exact hm6)
                    by_cases hpos : 0 < Z.getD m 0
                    · have hwant : want3 Z m = pg 3 (Z.getD m 0) := by unfold want3; rw [if_pos hpos]
                      have HW := hide hwant
                      have HB8 := hide hB8
                      have HG8 := hide hgx8
                      clear hwant hB8 hgx8 hb8 hz8
                      generalize Z.getD m 0 = zz at *
                      go_wp2_with fail
                      refine (page_any 3 zz w8).mono ?_
                      rintro e w9 ⟨rfl, hv, hb9⟩
                      rw [← HW.out] at hv
                      have hx := (hb9.block gx (Array.getElem?_eq_some_iff.1 HG8.out).1).trans HG8.out
                      have HB := hide (HB8.out.belowW hb9)
                      clear hb9 HG8 HW c8 HB8 hmk
                      have HTO := hide (hT m hm6)
                      have HVL := hide (length_want3 Z m)
                      have HYL := hide hyl
                      obtain ⟨y, hy⟩ : ∃ y, Y m = y := ⟨_, rfl⟩
                      obtain ⟨v, hvv⟩ : ∃ v, want3 Z m = v := ⟨_, rfl⟩
                      rw [hy] at hx HTO HYL
                      rw [hvv] at hv HTO HVL
                      clear hy hvv hyl
                      go_wp2
                      by_cases hev : y = v
                      · have HE : Hid ((!decide (y = v)) = false) := by show _ = _; simp [hev]
                        clear HTO
                        refine wp_region_held_drew (S := fun w' => w'.heap[gx]? = some (.cells (secCells y).toArray 5 (0, 0)) ∧ w'.heap[w8.heap.size]? = some (.cells (secCells v).toArray 5 (0, 0))) (by kernel_rfl) ⟨hx, hv⟩ (fun hH => ?_)
                        refine take_to 0 132 (.int .i64 0) rfl (by kernel_rfl) (by kernel_rfl) (by kernel_rfl) (fun _ _ _ h => h) rfl (by rfl) (fun w hw => by rfl) hH ?_
                        simp only [Act.put, List.setIfInBounds_toArray, List.set_cons_zero, List.set_cons_succ]
                        refine take_to 1 133 (.bool false) rfl (by kernel_rfl) (by kernel_rfl) (by kernel_rfl) (fun _ _ _ h => h) rfl (by rfl) (fun w hw => op_neq24 _ _ (.tmp 132) _ 24 rfl _ _ rfl rfl _ (by rfl)) hH ?_
                        simp only [Act.put, List.setIfInBounds_toArray, List.set_cons_zero, List.set_cons_succ]
                        refine take_to 2 134 (.bool false) rfl (by kernel_rfl) (by kernel_rfl) (by kernel_rfl) (fun _ _ _ h => h) rfl (by rfl) (fun w hw => by rfl) hH ?_
                        simp only [Act.put, List.setIfInBounds_toArray, List.set_cons_zero, List.set_cons_succ]
                        refine take_to 3 135 (.slice (some ⟨gx, 0, none⟩) 512 512) rfl (by kernel_rfl) (by kernel_rfl) (by kernel_rfl) (fun _ _ _ h => h) rfl (by rfl) (fun w hw => by rfl) hH ?_
                        simp only [Act.put, List.setIfInBounds_toArray, List.set_cons_zero, List.set_cons_succ]
                        refine take_to 4 136 (.string (strOf y)) rfl (by kernel_rfl) (by kernel_rfl) (by kernel_rfl) (fun _ _ _ h => h) rfl (by rfl) (fun w hw => op_conv _ _ 31 9 (.tmp 135) rfl _ _ rfl (run_str w _ 512 512 _ HYL.out hw.1)) hH ?_
                        simp only [Act.put, List.setIfInBounds_toArray, List.set_cons_zero, List.set_cons_succ]
                        refine take_to 5 137 (.slice (some ⟨w8.heap.size, 0, none⟩) 512 512) rfl (by kernel_rfl) (by kernel_rfl) (by kernel_rfl) (fun _ _ _ h => h) rfl (by rfl) (fun w hw => by rfl) hH ?_
                        simp only [Act.put, List.setIfInBounds_toArray, List.set_cons_zero, List.set_cons_succ]
                        refine take_to 6 138 (.string (strOf v)) rfl (by kernel_rfl) (by kernel_rfl) (by kernel_rfl) (fun _ _ _ h => h) rfl (by rfl) (fun w hw => op_conv _ _ 31 9 (.tmp 137) rfl _ _ rfl (run_str w _ 512 512 _ HVL.out hw.2)) hH ?_
                        simp only [Act.put, List.setIfInBounds_toArray, List.set_cons_zero, List.set_cons_succ]
                        refine take_to 7 139 (.bool false) rfl (by kernel_rfl) (by kernel_rfl) (by kernel_rfl) (fun _ _ _ h => h) rfl (by rfl) (fun w hw => op_neqstrB _ _ (.tmp 136) (.tmp 138) 9 rfl y v rfl rfl _ HE.out) hH ?_
                        simp only [Act.put, List.setIfInBounds_toArray, List.set_cons_zero, List.set_cons_succ]
                        refine take_to 8 140 (.bool false) rfl (by kernel_rfl) (by kernel_rfl) (by kernel_rfl) (fun _ _ _ h => h) rfl (by rfl) (fun w hw => by rfl) hH ?_
                        simp only [Act.put, List.setIfInBounds_toArray, List.set_cons_zero, List.set_cons_succ]
                        refine skip_to 9 141 rfl (by kernel_rfl) (by kernel_rfl) (by kernel_rfl) (fun _ _ _ h => h) rfl (by rfl) hH ?_
                        simp only [Act.put, List.setIfInBounds_toArray, List.set_cons_zero, List.set_cons_succ]
                        refine skip_to 10 142 rfl (by kernel_rfl) (by kernel_rfl) (by kernel_rfl) (fun _ _ _ h => h) rfl (by rfl) hH ?_
                        simp only [Act.put, List.setIfInBounds_toArray, List.set_cons_zero, List.set_cons_succ]
                        refine skip_to 11 143 rfl (by kernel_rfl) (by kernel_rfl) (by kernel_rfl) (fun _ _ _ h => h) rfl (by rfl) hH ?_
                        simp only [Act.put, List.setIfInBounds_toArray, List.set_cons_zero, List.set_cons_succ]
                        refine skip_to 12 144 rfl (by kernel_rfl) (by kernel_rfl) (by kernel_rfl) (fun _ _ _ h => h) rfl (by rfl) hH ?_
                        simp only [Act.put, List.setIfInBounds_toArray, List.set_cons_zero, List.set_cons_succ]
                        refine skip_to 13 145 rfl (by kernel_rfl) (by kernel_rfl) (by kernel_rfl) (fun _ _ _ h => h) rfl (by rfl) hH ?_
                        simp only [Act.put, List.setIfInBounds_toArray, List.set_cons_zero, List.set_cons_succ]
                        refine skip_to 14 146 rfl (by kernel_rfl) (by kernel_rfl) (by kernel_rfl) (fun _ _ _ h => h) rfl (by rfl) hH ?_
                        simp only [Act.put, List.setIfInBounds_toArray, List.set_cons_zero, List.set_cons_succ]
                        refine skip_to 15 147 rfl (by kernel_rfl) (by kernel_rfl) (by kernel_rfl) (fun _ _ _ h => h) rfl (by rfl) hH ?_
                        simp only [Act.put, List.setIfInBounds_toArray, List.set_cons_zero, List.set_cons_succ]
                        refine skip_to 16 148 rfl (by kernel_rfl) (by kernel_rfl) (by kernel_rfl) (fun _ _ _ h => h) rfl (by rfl) hH ?_
                        simp only [Act.put, List.setIfInBounds_toArray, List.set_cons_zero, List.set_cons_succ]
                        refine skip_to 17 149 rfl (by kernel_rfl) (by kernel_rfl) (by kernel_rfl) (fun _ _ _ h => h) rfl (by rfl) hH ?_
                        simp only [Act.put, List.setIfInBounds_toArray, List.set_cons_zero, List.set_cons_succ]
                        refine skip_to 18 150 rfl (by kernel_rfl) (by kernel_rfl) (by kernel_rfl) (fun _ _ _ h => h) rfl (by rfl) hH ?_
                        simp only [Act.put, List.setIfInBounds_toArray, List.set_cons_zero, List.set_cons_succ]
                        refine skip_to 19 151 rfl (by kernel_rfl) (by kernel_rfl) (by kernel_rfl) (fun _ _ _ h => h) rfl (by rfl) hH ?_
                        simp only [Act.put, List.setIfInBounds_toArray, List.set_cons_zero, List.set_cons_succ]
                        refine take_to 20 152 (.bool false) rfl (by kernel_rfl) (by kernel_rfl) (by kernel_rfl) (fun _ _ _ h => h) rfl (by rfl) (fun w hw => by rfl) hH ?_
                        simp only [Act.put, List.setIfInBounds_toArray, List.set_cons_zero, List.set_cons_succ]
                        refine take_to 21 153 (.bool false) rfl (by kernel_rfl) (by kernel_rfl) (by kernel_rfl) (fun _ _ _ h => h) rfl (by rfl) (fun w hw => by rfl) hH ?_
                        simp only [Act.put, List.setIfInBounds_toArray, List.set_cons_zero, List.set_cons_succ]
                        refine wpAnyH_done (by kernel_rfl) ?_ _
                        clear hH

                        clear HE hx hv
                        go_wp2_with fail
                        go_roundw
                        case rel => exact ⟨m + 1, by omega, by go_num, HB.out.belowW (below_drewN _ _ 1)⟩
                        case measure => simp [intOf]; omega
                      · obtain ⟨hmw, hyp⟩ := HTO.out.resolve_left hev
                        have HE : Hid ((!decide (y = v)) = true) := by show _ = _; simp [hev]
                        have HWY : Hid (((m : Int) != wy) = false) := by show _ = _; rw [hmw]; simp
                        have HPL := hide (fun W => page_any 3 la W)
                        rw [← hyp] at HPL
                        clear HTO hmw hyp
                        refine wp_region_held_drew (S := fun w' => w'.heap[gx]? = some (.cells (secCells y).toArray 5 (0, 0)) ∧ w'.heap[w8.heap.size]? = some (.cells (secCells v).toArray 5 (0, 0))) (by kernel_rfl) ⟨hx, hv⟩ (fun hH => ?_)
                        refine take_to 0 132 (.int .i64 0) rfl (by kernel_rfl) (by kernel_rfl) (by kernel_rfl) (fun _ _ _ h => h) rfl (by rfl) (fun w hw => by rfl) hH ?_
                        simp only [Act.put, List.setIfInBounds_toArray, List.set_cons_zero, List.set_cons_succ]
                        refine take_to 1 133 (.bool false) rfl (by kernel_rfl) (by kernel_rfl) (by kernel_rfl) (fun _ _ _ h => h) rfl (by rfl) (fun w hw => op_neq24 _ _ (.tmp 132) _ 24 rfl _ _ rfl rfl _ (by rfl)) hH ?_
                        simp only [Act.put, List.setIfInBounds_toArray, List.set_cons_zero, List.set_cons_succ]
                        refine take_to 2 134 (.bool false) rfl (by kernel_rfl) (by kernel_rfl) (by kernel_rfl) (fun _ _ _ h => h) rfl (by rfl) (fun w hw => by rfl) hH ?_
                        simp only [Act.put, List.setIfInBounds_toArray, List.set_cons_zero, List.set_cons_succ]
                        refine take_to 3 135 (.slice (some ⟨gx, 0, none⟩) 512 512) rfl (by kernel_rfl) (by kernel_rfl) (by kernel_rfl) (fun _ _ _ h => h) rfl (by rfl) (fun w hw => by rfl) hH ?_
                        simp only [Act.put, List.setIfInBounds_toArray, List.set_cons_zero, List.set_cons_succ]
                        refine take_to 4 136 (.string (strOf y)) rfl (by kernel_rfl) (by kernel_rfl) (by kernel_rfl) (fun _ _ _ h => h) rfl (by rfl) (fun w hw => op_conv _ _ 31 9 (.tmp 135) rfl _ _ rfl (run_str w _ 512 512 _ HYL.out hw.1)) hH ?_
                        simp only [Act.put, List.setIfInBounds_toArray, List.set_cons_zero, List.set_cons_succ]
                        refine take_to 5 137 (.slice (some ⟨w8.heap.size, 0, none⟩) 512 512) rfl (by kernel_rfl) (by kernel_rfl) (by kernel_rfl) (fun _ _ _ h => h) rfl (by rfl) (fun w hw => by rfl) hH ?_
                        simp only [Act.put, List.setIfInBounds_toArray, List.set_cons_zero, List.set_cons_succ]
                        refine take_to 6 138 (.string (strOf v)) rfl (by kernel_rfl) (by kernel_rfl) (by kernel_rfl) (fun _ _ _ h => h) rfl (by rfl) (fun w hw => op_conv _ _ 31 9 (.tmp 137) rfl _ _ rfl (run_str w _ 512 512 _ HVL.out hw.2)) hH ?_
                        simp only [Act.put, List.setIfInBounds_toArray, List.set_cons_zero, List.set_cons_succ]
                        refine take_to 7 139 (.bool true) rfl (by kernel_rfl) (by kernel_rfl) (by kernel_rfl) (fun _ _ _ h => h) rfl (by rfl) (fun w hw => op_neqstrB _ _ (.tmp 136) (.tmp 138) 9 rfl y v rfl rfl _ HE.out) hH ?_
                        simp only [Act.put, List.setIfInBounds_toArray, List.set_cons_zero, List.set_cons_succ]
                        refine take_to 8 140 (.bool true) rfl (by kernel_rfl) (by kernel_rfl) (by kernel_rfl) (fun _ _ _ h => h) rfl (by rfl) (fun w hw => by rfl) hH ?_
                        simp only [Act.put, List.setIfInBounds_toArray, List.set_cons_zero, List.set_cons_succ]
                        refine take_to 9 141 (.int .i64 (m : Int)) rfl (by kernel_rfl) (by kernel_rfl) (by kernel_rfl) (fun _ _ _ h => h) rfl (by rfl) (fun w hw => by rfl) hH ?_
                        simp only [Act.put, List.setIfInBounds_toArray, List.set_cons_zero, List.set_cons_succ]
                        refine take_to 10 142 (.int .i64 wy) rfl (by kernel_rfl) (by kernel_rfl) (by kernel_rfl) (fun _ _ _ h => h) rfl (by rfl) (fun w hw => by rfl) hH ?_
                        simp only [Act.put, List.setIfInBounds_toArray, List.set_cons_zero, List.set_cons_succ]
                        refine take_to 11 143 (.bool false) rfl (by kernel_rfl) (by kernel_rfl) (by kernel_rfl) (fun _ _ _ h => h) rfl (by rfl) (fun w hw => op_neq3 _ _ (.tmp 141) (.tmp 142) 3 rfl _ _ rfl rfl _ HWY.out) hH ?_
                        simp only [Act.put, List.setIfInBounds_toArray, List.set_cons_zero, List.set_cons_succ]
                        refine take_to 12 144 (.bool false) rfl (by kernel_rfl) (by kernel_rfl) (by kernel_rfl) (fun _ _ _ h => h) rfl (by rfl) (fun w hw => by rfl) hH ?_
                        simp only [Act.put, List.setIfInBounds_toArray, List.set_cons_zero, List.set_cons_succ]
                        refine take_to 13 145 (.slice (some ⟨gx, 0, none⟩) 512 512) rfl (by kernel_rfl) (by kernel_rfl) (by kernel_rfl) (fun _ _ _ h => h) rfl (by rfl) (fun w hw => by rfl) hH ?_
                        simp only [Act.put, List.setIfInBounds_toArray, List.set_cons_zero, List.set_cons_succ]
                        refine take_to 14 146 (.string (strOf y)) rfl (by kernel_rfl) (by kernel_rfl) (by kernel_rfl) (fun _ _ _ h => h) rfl (by rfl) (fun w hw => op_conv _ _ 31 9 (.tmp 145) rfl _ _ rfl (run_str w _ 512 512 _ HYL.out hw.1)) hH ?_
                        simp only [Act.put, List.setIfInBounds_toArray, List.set_cons_zero, List.set_cons_succ]
                        refine take_to 15 147 (.int .i64 la) rfl (by kernel_rfl) (by kernel_rfl) (by kernel_rfl) (fun _ _ _ h => h) rfl (by rfl) (fun w hw => by rfl) hH ?_
                        simp only [Act.put, List.setIfInBounds_toArray, List.set_cons_zero, List.set_cons_succ]
                        refine step_call2_to 16 148 8 rfl (by kernel_rfl) rfl (by rfl) (.const (.int .i64 3)) (.tmp 147) _ rfl _ _ rfl rfl Try.enters8 (HPL.out _) ?_
                        rintro e wz ⟨rfl, hgz, hbz⟩
                        have hSz : wz.heap[gx]? = some (.cells (secCells y).toArray 5 (0, 0)) ∧ wz.heap[w8.heap.size]? = some (.cells (secCells v).toArray 5 (0, 0)) := ⟨(hbz.block _ (Array.getElem?_eq_some_iff.1 hx).1).trans hx, (hbz.block _ (Array.getElem?_eq_some_iff.1 hv).1).trans hv⟩
                        refine ⟨_, rfl, hSz, ?_⟩
                        simp only [Act.put, List.setIfInBounds_toArray, List.set_cons_zero, List.set_cons_succ]
                        refine step_to 17 149 (.string (strOf y)) wz rfl (by kernel_rfl) rfl (by rfl) (op_conv _ _ 31 9 (.tmp 148) rfl _ _ rfl (run_str wz _ 512 512 _ HYL.out hgz)) hSz ?_
                        simp only [Act.put, List.setIfInBounds_toArray, List.set_cons_zero, List.set_cons_succ]
                        refine step_to 18 150 (.bool false) wz rfl (by kernel_rfl) rfl (by rfl) (op_neqstrY _ _ (.tmp 146) (.tmp 149) 9 rfl _ rfl rfl) hSz ?_
                        simp only [Act.put, List.setIfInBounds_toArray, List.set_cons_zero, List.set_cons_succ]
                        refine step_to 19 151 (.bool false) wz rfl (by kernel_rfl) rfl (by rfl) (rfl) hSz ?_
                        simp only [Act.put, List.setIfInBounds_toArray, List.set_cons_zero, List.set_cons_succ]
                        refine step_to 20 152 (.bool false) wz rfl (by kernel_rfl) rfl (by rfl) (rfl) hSz ?_
                        simp only [Act.put, List.setIfInBounds_toArray, List.set_cons_zero, List.set_cons_succ]
                        refine step_to 21 153 (.bool false) wz rfl (by kernel_rfl) rfl (by rfl) (rfl) hSz ?_
                        simp only [Act.put, List.setIfInBounds_toArray, List.set_cons_zero, List.set_cons_succ]
                        refine wpAnyH_done (by kernel_rfl) ?_ _
                        have HBz := hide (HB.out.belowW ((below_drewN w9.heap.size w9 1).trans hbz))
                        clear hH hSz hgz hbz

                        clear HE hx hv HWY HPL
                        go_wp2_with fail
                        go_roundw
                        case rel => exact ⟨m + 1, by omega, by go_num, HBz.out⟩
                        case measure => simp [intOf]; omega

                    · have hwant : want3 Z m = zerosN 512 := by unfold want3; rw [if_neg hpos]
                      rw [← hwant] at hz8
                      have hx := hgx8
                      have hv := hz8
                      have HB := hide hB8
                      clear hwant hB8 hgx8 hb8 hz8
                      generalize Z.getD m 0 = zz at *
                      have HTO := hide (hT m hm6)
                      have HVL := hide (length_want3 Z m)
                      have HYL := hide hyl
                      obtain ⟨y, hy⟩ : ∃ y, Y m = y := ⟨_, rfl⟩
                      obtain ⟨v, hvv⟩ : ∃ v, want3 Z m = v := ⟨_, rfl⟩
                      rw [hy] at hx HTO HYL
                      rw [hvv] at hv HTO HVL
                      clear hy hvv hyl
                      go_wp2
                      by_cases hev : y = v
                      · have HE : Hid ((!decide (y = v)) = false) := by show _ = _; simp [hev]
                        clear HTO
                        refine wp_region_held_drew (S := fun w' => w'.heap[gx]? = some (.cells (secCells y).toArray 5 (0, 0)) ∧ w'.heap[w7.heap.size]? = some (.cells (secCells v).toArray 5 (0, 0))) (by kernel_rfl) ⟨hx, hv⟩ (fun hH => ?_)
                        refine take_to 0 132 (.int .i64 0) rfl (by kernel_rfl) (by kernel_rfl) (by kernel_rfl) (fun _ _ _ h => h) rfl (by rfl) (fun w hw => by rfl) hH ?_
                        simp only [Act.put, List.setIfInBounds_toArray, List.set_cons_zero, List.set_cons_succ]
                        refine take_to 1 133 (.bool false) rfl (by kernel_rfl) (by kernel_rfl) (by kernel_rfl) (fun _ _ _ h => h) rfl (by rfl) (fun w hw => op_neq24 _ _ (.tmp 132) _ 24 rfl _ _ rfl rfl _ (by rfl)) hH ?_
                        simp only [Act.put, List.setIfInBounds_toArray, List.set_cons_zero, List.set_cons_succ]
                        refine take_to 2 134 (.bool false) rfl (by kernel_rfl) (by kernel_rfl) (by kernel_rfl) (fun _ _ _ h => h) rfl (by rfl) (fun w hw => by rfl) hH ?_
                        simp only [Act.put, List.setIfInBounds_toArray, List.set_cons_zero, List.set_cons_succ]
                        refine take_to 3 135 (.slice (some ⟨gx, 0, none⟩) 512 512) rfl (by kernel_rfl) (by kernel_rfl) (by kernel_rfl) (fun _ _ _ h => h) rfl (by rfl) (fun w hw => by rfl) hH ?_
                        simp only [Act.put, List.setIfInBounds_toArray, List.set_cons_zero, List.set_cons_succ]
                        refine take_to 4 136 (.string (strOf y)) rfl (by kernel_rfl) (by kernel_rfl) (by kernel_rfl) (fun _ _ _ h => h) rfl (by rfl) (fun w hw => op_conv _ _ 31 9 (.tmp 135) rfl _ _ rfl (run_str w _ 512 512 _ HYL.out hw.1)) hH ?_
                        simp only [Act.put, List.setIfInBounds_toArray, List.set_cons_zero, List.set_cons_succ]
                        refine take_to 5 137 (.slice (some ⟨w7.heap.size, 0, none⟩) 512 512) rfl (by kernel_rfl) (by kernel_rfl) (by kernel_rfl) (fun _ _ _ h => h) rfl (by rfl) (fun w hw => by rfl) hH ?_
                        simp only [Act.put, List.setIfInBounds_toArray, List.set_cons_zero, List.set_cons_succ]
                        refine take_to 6 138 (.string (strOf v)) rfl (by kernel_rfl) (by kernel_rfl) (by kernel_rfl) (fun _ _ _ h => h) rfl (by rfl) (fun w hw => op_conv _ _ 31 9 (.tmp 137) rfl _ _ rfl (run_str w _ 512 512 _ HVL.out hw.2)) hH ?_
                        simp only [Act.put, List.setIfInBounds_toArray, List.set_cons_zero, List.set_cons_succ]
                        refine take_to 7 139 (.bool false) rfl (by kernel_rfl) (by kernel_rfl) (by kernel_rfl) (fun _ _ _ h => h) rfl (by rfl) (fun w hw => op_neqstrB _ _ (.tmp 136) (.tmp 138) 9 rfl y v rfl rfl _ HE.out) hH ?_
                        simp only [Act.put, List.setIfInBounds_toArray, List.set_cons_zero, List.set_cons_succ]
                        refine take_to 8 140 (.bool false) rfl (by kernel_rfl) (by kernel_rfl) (by kernel_rfl) (fun _ _ _ h => h) rfl (by rfl) (fun w hw => by rfl) hH ?_
                        simp only [Act.put, List.setIfInBounds_toArray, List.set_cons_zero, List.set_cons_succ]
                        refine skip_to 9 141 rfl (by kernel_rfl) (by kernel_rfl) (by kernel_rfl) (fun _ _ _ h => h) rfl (by rfl) hH ?_
                        simp only [Act.put, List.setIfInBounds_toArray, List.set_cons_zero, List.set_cons_succ]
                        refine skip_to 10 142 rfl (by kernel_rfl) (by kernel_rfl) (by kernel_rfl) (fun _ _ _ h => h) rfl (by rfl) hH ?_
                        simp only [Act.put, List.setIfInBounds_toArray, List.set_cons_zero, List.set_cons_succ]
                        refine skip_to 11 143 rfl (by kernel_rfl) (by kernel_rfl) (by kernel_rfl) (fun _ _ _ h => h) rfl (by rfl) hH ?_
                        simp only [Act.put, List.setIfInBounds_toArray, List.set_cons_zero, List.set_cons_succ]
                        refine skip_to 12 144 rfl (by kernel_rfl) (by kernel_rfl) (by kernel_rfl) (fun _ _ _ h => h) rfl (by rfl) hH ?_
                        simp only [Act.put, List.setIfInBounds_toArray, List.set_cons_zero, List.set_cons_succ]
                        refine skip_to 13 145 rfl (by kernel_rfl) (by kernel_rfl) (by kernel_rfl) (fun _ _ _ h => h) rfl (by rfl) hH ?_
                        simp only [Act.put, List.setIfInBounds_toArray, List.set_cons_zero, List.set_cons_succ]
                        refine skip_to 14 146 rfl (by kernel_rfl) (by kernel_rfl) (by kernel_rfl) (fun _ _ _ h => h) rfl (by rfl) hH ?_
                        simp only [Act.put, List.setIfInBounds_toArray, List.set_cons_zero, List.set_cons_succ]
                        refine skip_to 15 147 rfl (by kernel_rfl) (by kernel_rfl) (by kernel_rfl) (fun _ _ _ h => h) rfl (by rfl) hH ?_
                        simp only [Act.put, List.setIfInBounds_toArray, List.set_cons_zero, List.set_cons_succ]
                        refine skip_to 16 148 rfl (by kernel_rfl) (by kernel_rfl) (by kernel_rfl) (fun _ _ _ h => h) rfl (by rfl) hH ?_
                        simp only [Act.put, List.setIfInBounds_toArray, List.set_cons_zero, List.set_cons_succ]
                        refine skip_to 17 149 rfl (by kernel_rfl) (by kernel_rfl) (by kernel_rfl) (fun _ _ _ h => h) rfl (by rfl) hH ?_
                        simp only [Act.put, List.setIfInBounds_toArray, List.set_cons_zero, List.set_cons_succ]
                        refine skip_to 18 150 rfl (by kernel_rfl) (by kernel_rfl) (by kernel_rfl) (fun _ _ _ h => h) rfl (by rfl) hH ?_
                        simp only [Act.put, List.setIfInBounds_toArray, List.set_cons_zero, List.set_cons_succ]
                        refine skip_to 19 151 rfl (by kernel_rfl) (by kernel_rfl) (by kernel_rfl) (fun _ _ _ h => h) rfl (by rfl) hH ?_
                        simp only [Act.put, List.setIfInBounds_toArray, List.set_cons_zero, List.set_cons_succ]
                        refine take_to 20 152 (.bool false) rfl (by kernel_rfl) (by kernel_rfl) (by kernel_rfl) (fun _ _ _ h => h) rfl (by rfl) (fun w hw => by rfl) hH ?_
                        simp only [Act.put, List.setIfInBounds_toArray, List.set_cons_zero, List.set_cons_succ]
                        refine take_to 21 153 (.bool false) rfl (by kernel_rfl) (by kernel_rfl) (by kernel_rfl) (fun _ _ _ h => h) rfl (by rfl) (fun w hw => by rfl) hH ?_
                        simp only [Act.put, List.setIfInBounds_toArray, List.set_cons_zero, List.set_cons_succ]
                        refine wpAnyH_done (by kernel_rfl) ?_ _
                        clear hH

                        clear HE hx hv
                        go_wp2_with fail
                        go_roundw
                        case rel => exact ⟨m + 1, by omega, by go_num, HB.out.belowW (below_drewN _ _ 1)⟩
                        case measure => simp [intOf]; omega
                      · obtain ⟨hmw, hyp⟩ := HTO.out.resolve_left hev
                        have HE : Hid ((!decide (y = v)) = true) := by show _ = _; simp [hev]
                        have HWY : Hid (((m : Int) != wy) = false) := by show _ = _; rw [hmw]; simp
                        have HPL := hide (fun W => page_any 3 la W)
                        rw [← hyp] at HPL
                        clear HTO hmw hyp
                        refine wp_region_held_drew (S := fun w' => w'.heap[gx]? = some (.cells (secCells y).toArray 5 (0, 0)) ∧ w'.heap[w7.heap.size]? = some (.cells (secCells v).toArray 5 (0, 0))) (by kernel_rfl) ⟨hx, hv⟩ (fun hH => ?_)
                        refine take_to 0 132 (.int .i64 0) rfl (by kernel_rfl) (by kernel_rfl) (by kernel_rfl) (fun _ _ _ h => h) rfl (by rfl) (fun w hw => by rfl) hH ?_
                        simp only [Act.put, List.setIfInBounds_toArray, List.set_cons_zero, List.set_cons_succ]
                        refine take_to 1 133 (.bool false) rfl (by kernel_rfl) (by kernel_rfl) (by kernel_rfl) (fun _ _ _ h => h) rfl (by rfl) (fun w hw => op_neq24 _ _ (.tmp 132) _ 24 rfl _ _ rfl rfl _ (by rfl)) hH ?_
                        simp only [Act.put, List.setIfInBounds_toArray, List.set_cons_zero, List.set_cons_succ]
                        refine take_to 2 134 (.bool false) rfl (by kernel_rfl) (by kernel_rfl) (by kernel_rfl) (fun _ _ _ h => h) rfl (by rfl) (fun w hw => by rfl) hH ?_
                        simp only [Act.put, List.setIfInBounds_toArray, List.set_cons_zero, List.set_cons_succ]
                        refine take_to 3 135 (.slice (some ⟨gx, 0, none⟩) 512 512) rfl (by kernel_rfl) (by kernel_rfl) (by kernel_rfl) (fun _ _ _ h => h) rfl (by rfl) (fun w hw => by rfl) hH ?_
                        simp only [Act.put, List.setIfInBounds_toArray, List.set_cons_zero, List.set_cons_succ]
                        refine take_to 4 136 (.string (strOf y)) rfl (by kernel_rfl) (by kernel_rfl) (by kernel_rfl) (fun _ _ _ h => h) rfl (by rfl) (fun w hw => op_conv _ _ 31 9 (.tmp 135) rfl _ _ rfl (run_str w _ 512 512 _ HYL.out hw.1)) hH ?_
                        simp only [Act.put, List.setIfInBounds_toArray, List.set_cons_zero, List.set_cons_succ]
                        refine take_to 5 137 (.slice (some ⟨w7.heap.size, 0, none⟩) 512 512) rfl (by kernel_rfl) (by kernel_rfl) (by kernel_rfl) (fun _ _ _ h => h) rfl (by rfl) (fun w hw => by rfl) hH ?_
                        simp only [Act.put, List.setIfInBounds_toArray, List.set_cons_zero, List.set_cons_succ]
                        refine take_to 6 138 (.string (strOf v)) rfl (by kernel_rfl) (by kernel_rfl) (by kernel_rfl) (fun _ _ _ h => h) rfl (by rfl) (fun w hw => op_conv _ _ 31 9 (.tmp 137) rfl _ _ rfl (run_str w _ 512 512 _ HVL.out hw.2)) hH ?_
                        simp only [Act.put, List.setIfInBounds_toArray, List.set_cons_zero, List.set_cons_succ]
                        refine take_to 7 139 (.bool true) rfl (by kernel_rfl) (by kernel_rfl) (by kernel_rfl) (fun _ _ _ h => h) rfl (by rfl) (fun w hw => op_neqstrB _ _ (.tmp 136) (.tmp 138) 9 rfl y v rfl rfl _ HE.out) hH ?_
                        simp only [Act.put, List.setIfInBounds_toArray, List.set_cons_zero, List.set_cons_succ]
                        refine take_to 8 140 (.bool true) rfl (by kernel_rfl) (by kernel_rfl) (by kernel_rfl) (fun _ _ _ h => h) rfl (by rfl) (fun w hw => by rfl) hH ?_
                        simp only [Act.put, List.setIfInBounds_toArray, List.set_cons_zero, List.set_cons_succ]
                        refine take_to 9 141 (.int .i64 (m : Int)) rfl (by kernel_rfl) (by kernel_rfl) (by kernel_rfl) (fun _ _ _ h => h) rfl (by rfl) (fun w hw => by rfl) hH ?_
                        simp only [Act.put, List.setIfInBounds_toArray, List.set_cons_zero, List.set_cons_succ]
                        refine take_to 10 142 (.int .i64 wy) rfl (by kernel_rfl) (by kernel_rfl) (by kernel_rfl) (fun _ _ _ h => h) rfl (by rfl) (fun w hw => by rfl) hH ?_
                        simp only [Act.put, List.setIfInBounds_toArray, List.set_cons_zero, List.set_cons_succ]
                        refine take_to 11 143 (.bool false) rfl (by kernel_rfl) (by kernel_rfl) (by kernel_rfl) (fun _ _ _ h => h) rfl (by rfl) (fun w hw => op_neq3 _ _ (.tmp 141) (.tmp 142) 3 rfl _ _ rfl rfl _ HWY.out) hH ?_
                        simp only [Act.put, List.setIfInBounds_toArray, List.set_cons_zero, List.set_cons_succ]
                        refine take_to 12 144 (.bool false) rfl (by kernel_rfl) (by kernel_rfl) (by kernel_rfl) (fun _ _ _ h => h) rfl (by rfl) (fun w hw => by rfl) hH ?_
                        simp only [Act.put, List.setIfInBounds_toArray, List.set_cons_zero, List.set_cons_succ]
                        refine take_to 13 145 (.slice (some ⟨gx, 0, none⟩) 512 512) rfl (by kernel_rfl) (by kernel_rfl) (by kernel_rfl) (fun _ _ _ h => h) rfl (by rfl) (fun w hw => by rfl) hH ?_
                        simp only [Act.put, List.setIfInBounds_toArray, List.set_cons_zero, List.set_cons_succ]
                        refine take_to 14 146 (.string (strOf y)) rfl (by kernel_rfl) (by kernel_rfl) (by kernel_rfl) (fun _ _ _ h => h) rfl (by rfl) (fun w hw => op_conv _ _ 31 9 (.tmp 145) rfl _ _ rfl (run_str w _ 512 512 _ HYL.out hw.1)) hH ?_
                        simp only [Act.put, List.setIfInBounds_toArray, List.set_cons_zero, List.set_cons_succ]
                        refine take_to 15 147 (.int .i64 la) rfl (by kernel_rfl) (by kernel_rfl) (by kernel_rfl) (fun _ _ _ h => h) rfl (by rfl) (fun w hw => by rfl) hH ?_
                        simp only [Act.put, List.setIfInBounds_toArray, List.set_cons_zero, List.set_cons_succ]
                        refine step_call2_to 16 148 8 rfl (by kernel_rfl) rfl (by rfl) (.const (.int .i64 3)) (.tmp 147) _ rfl _ _ rfl rfl Try.enters8 (HPL.out _) ?_
                        rintro e wz ⟨rfl, hgz, hbz⟩
                        have hSz : wz.heap[gx]? = some (.cells (secCells y).toArray 5 (0, 0)) ∧ wz.heap[w7.heap.size]? = some (.cells (secCells v).toArray 5 (0, 0)) := ⟨(hbz.block _ (Array.getElem?_eq_some_iff.1 hx).1).trans hx, (hbz.block _ (Array.getElem?_eq_some_iff.1 hv).1).trans hv⟩
                        refine ⟨_, rfl, hSz, ?_⟩
                        simp only [Act.put, List.setIfInBounds_toArray, List.set_cons_zero, List.set_cons_succ]
                        refine step_to 17 149 (.string (strOf y)) wz rfl (by kernel_rfl) rfl (by rfl) (op_conv _ _ 31 9 (.tmp 148) rfl _ _ rfl (run_str wz _ 512 512 _ HYL.out hgz)) hSz ?_
                        simp only [Act.put, List.setIfInBounds_toArray, List.set_cons_zero, List.set_cons_succ]
                        refine step_to 18 150 (.bool false) wz rfl (by kernel_rfl) rfl (by rfl) (op_neqstrY _ _ (.tmp 146) (.tmp 149) 9 rfl _ rfl rfl) hSz ?_
                        simp only [Act.put, List.setIfInBounds_toArray, List.set_cons_zero, List.set_cons_succ]
                        refine step_to 19 151 (.bool false) wz rfl (by kernel_rfl) rfl (by rfl) (rfl) hSz ?_
                        simp only [Act.put, List.setIfInBounds_toArray, List.set_cons_zero, List.set_cons_succ]
                        refine step_to 20 152 (.bool false) wz rfl (by kernel_rfl) rfl (by rfl) (rfl) hSz ?_
                        simp only [Act.put, List.setIfInBounds_toArray, List.set_cons_zero, List.set_cons_succ]
                        refine step_to 21 153 (.bool false) wz rfl (by kernel_rfl) rfl (by rfl) (rfl) hSz ?_
                        simp only [Act.put, List.setIfInBounds_toArray, List.set_cons_zero, List.set_cons_succ]
                        refine wpAnyH_done (by kernel_rfl) ?_ _
                        have HBz := hide (HB.out.belowW ((below_drewN w8.heap.size w8 1).trans hbz))
                        clear hH hSz hgz hbz

                        clear HE hx hv HWY HPL
                        go_wp2_with fail
                        go_roundw
                        case rel => exact ⟨m + 1, by omega, by go_num, HBz.out⟩
                        case measure => simp [intOf]; omega

                  · have HAW := hide (awake_true wr)
                    go_wp2_with (first | (go_at_call 12; refine HAW.out.mono ?_; rintro e w' ⟨rfl, hbw⟩))
                    go_ret
                    exact ⟨rfl, HB.out.below.trans (hbw.mono HB.out.below.size)⟩


        · have HSX := hide HA.out.six
          have HCR := hide (w_crash a2 len2 cap2 z2 HA.out W2.out)
          clear HA W0
          go_wp2_with fail
          refine HCR.out.mono ?_
          rintro e w5 ⟨rfl, hC5⟩
          have HC5 := hide hC5
          clear hC5 HCR
          go_wp2_with fail
          go_loopw [18] (fun i wx => ∃ k : Nat, k ≤ 6 ∧ i = .int .i64 k ∧ CAt w wx p gi Z wy la true) (fun i _ => 7 - (intOf i).toNat)
          case atStart => exact ⟨0, by omega, rfl, HC5.out⟩
          case round =>
            clear HC5
            obtain ⟨k, hk, rfl, hC⟩ := hrel
            have HC := hide hC
            clear hC
            by_cases hgo : k < len3 ∧ k < 6
            · obtain ⟨hlt, hk6⟩ := hgo
              obtain ⟨b, o, hab, hcell, hz1, hz2⟩ := ints_at W3.out HC.out.below k hlt
              subst hab
              have HFU := hide (c_fuse (z3.getD k 0) HC.out hz1 hz2)
              generalize z3.getD k 0 = z at *
              clear HC
              go_wp2_with fail
              refine HFU.out.mono ?_
              rintro e w6 ⟨rfl, hC6⟩
              have HOP := hide (c_open hC6)
              clear HFU hC6 hcell
              go_wp2_with fail
              refine HOP.out.mono ?_
              rintro e w7 ⟨⟨v7, rfl⟩, hO7⟩
              have HCR := hide (c_crash a2 len2 cap2 z2 hO7 W2.out)
              clear HOP hO7
              go_wp2_with fail
              refine HCR.out.mono ?_
              rintro e w8 ⟨rfl, hC8⟩
              have HC8 := hide hC8
              clear HCR hC8
              go_wp2_with fail
              go_roundw
              case rel => exact ⟨k + 1, by omega, by go_num, HC8.out⟩
              case measure => simp [intOf]; omega
            · by_cases h1 : k < len3
              · have h2 : ¬ k < 6 := fun h => hgo ⟨h1, h⟩
                obtain ⟨Y, hT, hOL⟩ := c_openLast HC.out
                have HOL := hide hOL
                clear hOL HC W2 W3
                go_wp2_with fail
                refine HOL.out.mono ?_
                rintro e w6 ⟨q2, rfl, hR⟩
                have HR := hide hR
                clear hR HOL
                go_wp2_with fail
                go_loopw [21] (fun j wx => ∃ m : Nat, m ≤ 6 ∧ j = .int .i64 m ∧ RAt w wx q2 p gi Z Y) (fun j _ => 7 - (intOf j).toNat)
                case atStart => exact ⟨0, by omega, rfl, HR.out⟩
                case round =>
                  clear HR
                  obtain ⟨m, hm, rfl, hB⟩ := hrel
                  have HB := hide hB
                  clear hB
                  by_cases hm6 : m < 6
                  · have HRD := hide (r_read HB.out m hm6)
                    clear HB
                    go_wp2_with fail
                    refine HRD.out.mono ?_
                    rintro e w7 ⟨gx, rfl, hgx, hyl, hB7⟩
                    clear HRD
                    have hb8 : Below w7.heap.size w7 (w7.alloc (.cells (secCells (zerosN 512)).toArray 5)) := (Below.refl _ _).alloc (Nat.le_refl _) _
                    have hz8 : (w7.alloc (.cells (secCells (zerosN 512)).toArray 5)).heap[w7.heap.size]? = some (.cells (secCells (zerosN 512)).toArray 5 (0, 0)) := heap_alloc_new _ _
                    have hgx8 := (hb8.block gx (Array.getElem?_eq_some_iff.1 hgx).1).trans hgx
                    have hB8 := hB7.belowW hb8
                    obtain ⟨w8, hw8⟩ : ∃ w8, w7.alloc (.cells (secCells (zerosN 512)).toArray 5) = w8 := ⟨_, rfl⟩
                    have hmk : (Instr.makeSlice 31 (.int .i64 512) (.int .i64 512)).run Try.prog w7 = .ok (.slice (some ⟨w7.heap.size, 0, none⟩) 512 512) w8 := by rw [← hw8]; exact makeN 512 (by omega) w7
                    rw [hw8] at hb8 hz8 hgx8 hB8
                    clear hw8 hgx hB7
                    have c8 := hB8.own.cell m (by rw [HSX.out]; exact hm6)
                    by_cases hpos : 0 < Z.getD m 0
                    · have hwant : want3 Z m = pg 3 (Z.getD m 0) := by unfold want3; rw [if_pos hpos]
                      have HW := hide hwant
                      have HB8 := hide hB8
                      have HG8 := hide hgx8
                      clear hwant hB8 hgx8 hb8 hz8
                      generalize Z.getD m 0 = zz at *
                      go_wp2_with fail
                      refine (page_any 3 zz w8).mono ?_
                      rintro e w9 ⟨rfl, hv, hb9⟩
                      rw [← HW.out] at hv
                      have hx := (hb9.block gx (Array.getElem?_eq_some_iff.1 HG8.out).1).trans HG8.out
                      have HB := hide (HB8.out.belowW hb9)
                      clear hb9 HG8 HW c8 HB8 hmk
                      have HTO := hide (hT m hm6)
                      have HVL := hide (length_want3 Z m)
                      have HYL := hide hyl
                      obtain ⟨y, hy⟩ : ∃ y, Y m = y := ⟨_, rfl⟩
                      obtain ⟨v, hvv⟩ : ∃ v, want3 Z m = v := ⟨_, rfl⟩
                      rw [hy] at hx HTO HYL
                      rw [hvv] at hv HTO HVL
                      clear hy hvv hyl
                      go_wp2
                      by_cases hev : y = v
                      · have HE : Hid ((!decide (y = v)) = false) := by show _ = _; simp [hev]
                        clear HTO
                        refine wp_region_held_drew (S := fun w' => w'.heap[gx]? = some (.cells (secCells y).toArray 5 (0, 0)) ∧ w'.heap[w8.heap.size]? = some (.cells (secCells v).toArray 5 (0, 0))) (by kernel_rfl) ⟨hx, hv⟩ (fun hH => ?_)
                        refine take_to 0 132 (.int .i64 0) rfl (by kernel_rfl) (by kernel_rfl) (by kernel_rfl) (fun _ _ _ h => h) rfl (by rfl) (fun w hw => by rfl) hH ?_
                        simp only [Act.put, List.setIfInBounds_toArray, List.set_cons_zero, List.set_cons_succ]
                        refine take_to 1 133 (.bool false) rfl (by kernel_rfl) (by kernel_rfl) (by kernel_rfl) (fun _ _ _ h => h) rfl (by rfl) (fun w hw => op_neq24 _ _ (.tmp 132) _ 24 rfl _ _ rfl rfl _ (by rfl)) hH ?_
                        simp only [Act.put, List.setIfInBounds_toArray, List.set_cons_zero, List.set_cons_succ]
                        refine take_to 2 134 (.bool false) rfl (by kernel_rfl) (by kernel_rfl) (by kernel_rfl) (fun _ _ _ h => h) rfl (by rfl) (fun w hw => by rfl) hH ?_
                        simp only [Act.put, List.setIfInBounds_toArray, List.set_cons_zero, List.set_cons_succ]
                        refine take_to 3 135 (.slice (some ⟨gx, 0, none⟩) 512 512) rfl (by kernel_rfl) (by kernel_rfl) (by kernel_rfl) (fun _ _ _ h => h) rfl (by rfl) (fun w hw => by rfl) hH ?_
                        simp only [Act.put, List.setIfInBounds_toArray, List.set_cons_zero, List.set_cons_succ]
                        refine take_to 4 136 (.string (strOf y)) rfl (by kernel_rfl) (by kernel_rfl) (by kernel_rfl) (fun _ _ _ h => h) rfl (by rfl) (fun w hw => op_conv _ _ 31 9 (.tmp 135) rfl _ _ rfl (run_str w _ 512 512 _ HYL.out hw.1)) hH ?_
                        simp only [Act.put, List.setIfInBounds_toArray, List.set_cons_zero, List.set_cons_succ]
                        refine take_to 5 137 (.slice (some ⟨w8.heap.size, 0, none⟩) 512 512) rfl (by kernel_rfl) (by kernel_rfl) (by kernel_rfl) (fun _ _ _ h => h) rfl (by rfl) (fun w hw => by rfl) hH ?_
                        simp only [Act.put, List.setIfInBounds_toArray, List.set_cons_zero, List.set_cons_succ]
                        refine take_to 6 138 (.string (strOf v)) rfl (by kernel_rfl) (by kernel_rfl) (by kernel_rfl) (fun _ _ _ h => h) rfl (by rfl) (fun w hw => op_conv _ _ 31 9 (.tmp 137) rfl _ _ rfl (run_str w _ 512 512 _ HVL.out hw.2)) hH ?_
                        simp only [Act.put, List.setIfInBounds_toArray, List.set_cons_zero, List.set_cons_succ]
                        refine take_to 7 139 (.bool false) rfl (by kernel_rfl) (by kernel_rfl) (by kernel_rfl) (fun _ _ _ h => h) rfl (by rfl) (fun w hw => op_neqstrB _ _ (.tmp 136) (.tmp 138) 9 rfl y v rfl rfl _ HE.out) hH ?_
                        simp only [Act.put, List.setIfInBounds_toArray, List.set_cons_zero, List.set_cons_succ]
                        refine take_to 8 140 (.bool false) rfl (by kernel_rfl) (by kernel_rfl) (by kernel_rfl) (fun _ _ _ h => h) rfl (by rfl) (fun w hw => by rfl) hH ?_
                        simp only [Act.put, List.setIfInBounds_toArray, List.set_cons_zero, List.set_cons_succ]
                        refine skip_to 9 141 rfl (by kernel_rfl) (by kernel_rfl) (by kernel_rfl) (fun _ _ _ h => h) rfl (by rfl) hH ?_
                        simp only [Act.put, List.setIfInBounds_toArray, List.set_cons_zero, List.set_cons_succ]
                        refine skip_to 10 142 rfl (by kernel_rfl) (by kernel_rfl) (by kernel_rfl) (fun _ _ _ h => h) rfl (by rfl) hH ?_
                        simp only [Act.put, List.setIfInBounds_toArray, List.set_cons_zero, List.set_cons_succ]
                        refine skip_to 11 143 rfl (by kernel_rfl) (by kernel_rfl) (by kernel_rfl) (fun _ _ _ h => h) rfl (by rfl) hH ?_
                        simp only [Act.put, List.setIfInBounds_toArray, List.set_cons_zero, List.set_cons_succ]
                        refine skip_to 12 144 rfl (by kernel_rfl) (by kernel_rfl) (by kernel_rfl) (fun _ _ _ h => h) rfl (by rfl) hH ?_
                        simp only [Act.put, List.setIfInBounds_toArray, List.set_cons_zero, List.set_cons_succ]
                        refine skip_to 13 145 rfl (by kernel_rfl) (by kernel_rfl) (by kernel_rfl) (fun _ _ _ h => h) rfl (by rfl) hH ?_
                        simp only [Act.put, List.setIfInBounds_toArray, List.set_cons_zero, List.set_cons_succ]
                        refine skip_to 14 146 rfl (by kernel_rfl) (by kernel_rfl) (by kernel_rfl) (fun _ _ _ h => h) rfl (by rfl) hH ?_
                        simp only [Act.put, List.setIfInBounds_toArray, List.set_cons_zero, List.set_cons_succ]
                        refine skip_to 15 147 rfl (by kernel_rfl) (by kernel_rfl) (by kernel_rfl) (fun _ _ _ h => h) rfl (by rfl) hH ?_
                        simp only [Act.put, List.setIfInBounds_toArray, List.set_cons_zero, List.set_cons_succ]
                        refine skip_to 16 148 rfl (by kernel_rfl) (by kernel_rfl) (by kernel_rfl) (fun _ _ _ h => h) rfl (by rfl) hH ?_
                        simp only [Act.put, List.setIfInBounds_toArray, List.set_cons_zero, List.set_cons_succ]
                        refine skip_to 17 149 rfl (by kernel_rfl) (by kernel_rfl) (by kernel_rfl) (fun _ _ _ h => h) rfl (by rfl) hH ?_
                        simp only [Act.put, List.setIfInBounds_toArray, List.set_cons_zero, List.set_cons_succ]
                        refine skip_to 18 150 rfl (by kernel_rfl) (by kernel_rfl) (by kernel_rfl) (fun _ _ _ h => h) rfl (by rfl) hH ?_
                        simp only [Act.put, List.setIfInBounds_toArray, List.set_cons_zero, List.set_cons_succ]
                        refine skip_to 19 151 rfl (by kernel_rfl) (by kernel_rfl) (by kernel_rfl) (fun _ _ _ h => h) rfl (by rfl) hH ?_
                        simp only [Act.put, List.setIfInBounds_toArray, List.set_cons_zero, List.set_cons_succ]
                        refine take_to 20 152 (.bool false) rfl (by kernel_rfl) (by kernel_rfl) (by kernel_rfl) (fun _ _ _ h => h) rfl (by rfl) (fun w hw => by rfl) hH ?_
                        simp only [Act.put, List.setIfInBounds_toArray, List.set_cons_zero, List.set_cons_succ]
                        refine take_to 21 153 (.bool false) rfl (by kernel_rfl) (by kernel_rfl) (by kernel_rfl) (fun _ _ _ h => h) rfl (by rfl) (fun w hw => by rfl) hH ?_
                        simp only [Act.put, List.setIfInBounds_toArray, List.set_cons_zero, List.set_cons_succ]
                        refine wpAnyH_done (by kernel_rfl) ?_ _
                        clear hH

                        clear HE hx hv
                        go_wp2_with fail
                        go_roundw
                        case rel => exact ⟨m + 1, by omega, by go_num, HB.out.belowW (below_drewN _ _ 1)⟩
                        case measure => simp [intOf]; omega
                      · obtain ⟨hmw, hyp⟩ := HTO.out.resolve_left hev
                        have HE : Hid ((!decide (y = v)) = true) := by show _ = _; simp [hev]
                        have HWY : Hid (((m : Int) != wy) = false) := by show _ = _; rw [hmw]; simp
                        have HPL := hide (fun W => page_any 3 la W)
                        rw [← hyp] at HPL
                        clear HTO hmw hyp
                        refine wp_region_held_drew (S := fun w' => w'.heap[gx]? = some (.cells (secCells y).toArray 5 (0, 0)) ∧ w'.heap[w8.heap.size]? = some (.cells (secCells v).toArray 5 (0, 0))) (by kernel_rfl) ⟨hx, hv⟩ (fun hH => ?_)
                        refine take_to 0 132 (.int .i64 0) rfl (by kernel_rfl) (by kernel_rfl) (by kernel_rfl) (fun _ _ _ h => h) rfl (by rfl) (fun w hw => by rfl) hH ?_
                        simp only [Act.put, List.setIfInBounds_toArray, List.set_cons_zero, List.set_cons_succ]
                        refine take_to 1 133 (.bool false) rfl (by kernel_rfl) (by kernel_rfl) (by kernel_rfl) (fun _ _ _ h => h) rfl (by rfl) (fun w hw => op_neq24 _ _ (.tmp 132) _ 24 rfl _ _ rfl rfl _ (by rfl)) hH ?_
                        simp only [Act.put, List.setIfInBounds_toArray, List.set_cons_zero, List.set_cons_succ]
                        refine take_to 2 134 (.bool false) rfl (by kernel_rfl) (by kernel_rfl) (by kernel_rfl) (fun _ _ _ h => h) rfl (by rfl) (fun w hw => by rfl) hH ?_
                        simp only [Act.put, List.setIfInBounds_toArray, List.set_cons_zero, List.set_cons_succ]
                        refine take_to 3 135 (.slice (some ⟨gx, 0, none⟩) 512 512) rfl (by kernel_rfl) (by kernel_rfl) (by kernel_rfl) (fun _ _ _ h => h) rfl (by rfl) (fun w hw => by rfl) hH ?_
                        simp only [Act.put, List.setIfInBounds_toArray, List.set_cons_zero, List.set_cons_succ]
                        refine take_to 4 136 (.string (strOf y)) rfl (by kernel_rfl) (by kernel_rfl) (by kernel_rfl) (fun _ _ _ h => h) rfl (by rfl) (fun w hw => op_conv _ _ 31 9 (.tmp 135) rfl _ _ rfl (run_str w _ 512 512 _ HYL.out hw.1)) hH ?_
                        simp only [Act.put, List.setIfInBounds_toArray, List.set_cons_zero, List.set_cons_succ]
                        refine take_to 5 137 (.slice (some ⟨w8.heap.size, 0, none⟩) 512 512) rfl (by kernel_rfl) (by kernel_rfl) (by kernel_rfl) (fun _ _ _ h => h) rfl (by rfl) (fun w hw => by rfl) hH ?_
                        simp only [Act.put, List.setIfInBounds_toArray, List.set_cons_zero, List.set_cons_succ]
                        refine take_to 6 138 (.string (strOf v)) rfl (by kernel_rfl) (by kernel_rfl) (by kernel_rfl) (fun _ _ _ h => h) rfl (by rfl) (fun w hw => op_conv _ _ 31 9 (.tmp 137) rfl _ _ rfl (run_str w _ 512 512 _ HVL.out hw.2)) hH ?_
                        simp only [Act.put, List.setIfInBounds_toArray, List.set_cons_zero, List.set_cons_succ]
                        refine take_to 7 139 (.bool true) rfl (by kernel_rfl) (by kernel_rfl) (by kernel_rfl) (fun _ _ _ h => h) rfl (by rfl) (fun w hw => op_neqstrB _ _ (.tmp 136) (.tmp 138) 9 rfl y v rfl rfl _ HE.out) hH ?_
                        simp only [Act.put, List.setIfInBounds_toArray, List.set_cons_zero, List.set_cons_succ]
                        refine take_to 8 140 (.bool true) rfl (by kernel_rfl) (by kernel_rfl) (by kernel_rfl) (fun _ _ _ h => h) rfl (by rfl) (fun w hw => by rfl) hH ?_
                        simp only [Act.put, List.setIfInBounds_toArray, List.set_cons_zero, List.set_cons_succ]
                        refine take_to 9 141 (.int .i64 (m : Int)) rfl (by kernel_rfl) (by kernel_rfl) (by kernel_rfl) (fun _ _ _ h => h) rfl (by rfl) (fun w hw => by rfl) hH ?_
                        simp only [Act.put, List.setIfInBounds_toArray, List.set_cons_zero, List.set_cons_succ]
                        refine take_to 10 142 (.int .i64 wy) rfl (by kernel_rfl) (by kernel_rfl) (by kernel_rfl) (fun _ _ _ h => h) rfl (by rfl) (fun w hw => by rfl) hH ?_
                        simp only [Act.put, List.setIfInBounds_toArray, List.set_cons_zero, List.set_cons_succ]
                        refine take_to 11 143 (.bool false) rfl (by kernel_rfl) (by kernel_rfl) (by kernel_rfl) (fun _ _ _ h => h) rfl (by rfl) (fun w hw => op_neq3 _ _ (.tmp 141) (.tmp 142) 3 rfl _ _ rfl rfl _ HWY.out) hH ?_
                        simp only [Act.put, List.setIfInBounds_toArray, List.set_cons_zero, List.set_cons_succ]
                        refine take_to 12 144 (.bool false) rfl (by kernel_rfl) (by kernel_rfl) (by kernel_rfl) (fun _ _ _ h => h) rfl (by rfl) (fun w hw => by rfl) hH ?_
                        simp only [Act.put, List.setIfInBounds_toArray, List.set_cons_zero, List.set_cons_succ]
                        refine take_to 13 145 (.slice (some ⟨gx, 0, none⟩) 512 512) rfl (by kernel_rfl) (by kernel_rfl) (by kernel_rfl) (fun _ _ _ h => h) rfl (by rfl) (fun w hw => by rfl) hH ?_
                        simp only [Act.put, List.setIfInBounds_toArray, List.set_cons_zero, List.set_cons_succ]
                        refine take_to 14 146 (.string (strOf y)) rfl (by kernel_rfl) (by kernel_rfl) (by kernel_rfl) (fun _ _ _ h => h) rfl (by rfl) (fun w hw => op_conv _ _ 31 9 (.tmp 145) rfl _ _ rfl (run_str w _ 512 512 _ HYL.out hw.1)) hH ?_
                        simp only [Act.put, List.setIfInBounds_toArray, List.set_cons_zero, List.set_cons_succ]
                        refine take_to 15 147 (.int .i64 la) rfl (by kernel_rfl) (by kernel_rfl) (by kernel_rfl) (fun _ _ _ h => h) rfl (by rfl) (fun w hw => by rfl) hH ?_
                        simp only [Act.put, List.setIfInBounds_toArray, List.set_cons_zero, List.set_cons_succ]
                        refine step_call2_to 16 148 8 rfl (by kernel_rfl) rfl (by rfl) (.const (.int .i64 3)) (.tmp 147) _ rfl _ _ rfl rfl Try.enters8 (HPL.out _) ?_
                        rintro e wz ⟨rfl, hgz, hbz⟩
                        have hSz : wz.heap[gx]? = some (.cells (secCells y).toArray 5 (0, 0)) ∧ wz.heap[w8.heap.size]? = some (.cells (secCells v).toArray 5 (0, 0)) := ⟨(hbz.block _ (Array.getElem?_eq_some_iff.1 hx).1).trans hx, (hbz.block _ (Array.getElem?_eq_some_iff.1 hv).1).trans hv⟩
                        refine ⟨_, rfl, hSz, ?_⟩
                        simp only [Act.put, List.setIfInBounds_toArray, List.set_cons_zero, List.set_cons_succ]
                        refine step_to 17 149 (.string (strOf y)) wz rfl (by kernel_rfl) rfl (by rfl) (op_conv _ _ 31 9 (.tmp 148) rfl _ _ rfl (run_str wz _ 512 512 _ HYL.out hgz)) hSz ?_
                        simp only [Act.put, List.setIfInBounds_toArray, List.set_cons_zero, List.set_cons_succ]
                        refine step_to 18 150 (.bool false) wz rfl (by kernel_rfl) rfl (by rfl) (op_neqstrY _ _ (.tmp 146) (.tmp 149) 9 rfl _ rfl rfl) hSz ?_
                        simp only [Act.put, List.setIfInBounds_toArray, List.set_cons_zero, List.set_cons_succ]
                        refine step_to 19 151 (.bool false) wz rfl (by kernel_rfl) rfl (by rfl) (rfl) hSz ?_
                        simp only [Act.put, List.setIfInBounds_toArray, List.set_cons_zero, List.set_cons_succ]
                        refine step_to 20 152 (.bool false) wz rfl (by kernel_rfl) rfl (by rfl) (rfl) hSz ?_
                        simp only [Act.put, List.setIfInBounds_toArray, List.set_cons_zero, List.set_cons_succ]
                        refine step_to 21 153 (.bool false) wz rfl (by kernel_rfl) rfl (by rfl) (rfl) hSz ?_
                        simp only [Act.put, List.setIfInBounds_toArray, List.set_cons_zero, List.set_cons_succ]
                        refine wpAnyH_done (by kernel_rfl) ?_ _
                        have HBz := hide (HB.out.belowW ((below_drewN w9.heap.size w9 1).trans hbz))
                        clear hH hSz hgz hbz

                        clear HE hx hv HWY HPL
                        go_wp2_with fail
                        go_roundw
                        case rel => exact ⟨m + 1, by omega, by go_num, HBz.out⟩
                        case measure => simp [intOf]; omega

                    · have hwant : want3 Z m = zerosN 512 := by unfold want3; rw [if_neg hpos]
                      rw [← hwant] at hz8
                      have hx := hgx8
                      have hv := hz8
                      have HB := hide hB8
                      clear hwant hB8 hgx8 hb8 hz8
                      generalize Z.getD m 0 = zz at *
                      have HTO := hide (hT m hm6)
                      have HVL := hide (length_want3 Z m)
                      have HYL := hide hyl
                      obtain ⟨y, hy⟩ : ∃ y, Y m = y := ⟨_, rfl⟩
                      obtain ⟨v, hvv⟩ : ∃ v, want3 Z m = v := ⟨_, rfl⟩
                      rw [hy] at hx HTO HYL
                      rw [hvv] at hv HTO HVL
                      clear hy hvv hyl
                      go_wp2
                      by_cases hev : y = v
                      · have HE : Hid ((!decide (y = v)) = false) := by show _ = _; simp [hev]
                        clear HTO
                        refine wp_region_held_drew (S := fun w' => w'.heap[gx]? = some (.cells (secCells y).toArray 5 (0, 0)) ∧ w'.heap[w7.heap.size]? = some (.cells (secCells v).toArray 5 (0, 0))) (by kernel_rfl) ⟨hx, hv⟩ (fun hH => ?_)
                        refine take_to 0 132 (.int .i64 0) rfl (by kernel_rfl) (by kernel_rfl) (by kernel_rfl) (fun _ _ _ h => h) rfl (by rfl) (fun w hw => by rfl) hH ?_
                        simp only [Act.put, List.setIfInBounds_toArray, List.set_cons_zero, List.set_cons_succ]
                        refine take_to 1 133 (.bool false) rfl (by kernel_rfl) (by kernel_rfl) (by kernel_rfl) (fun _ _ _ h => h) rfl (by rfl) (fun w hw => op_neq24 _ _ (.tmp 132) _ 24 rfl _ _ rfl rfl _ (by rfl)) hH ?_
                        simp only [Act.put, List.setIfInBounds_toArray, List.set_cons_zero, List.set_cons_succ]
                        refine take_to 2 134 (.bool false) rfl (by kernel_rfl) (by kernel_rfl) (by kernel_rfl) (fun _ _ _ h => h) rfl (by rfl) (fun w hw => by rfl) hH ?_
                        simp only [Act.put, List.setIfInBounds_toArray, List.set_cons_zero, List.set_cons_succ]
                        refine take_to 3 135 (.slice (some ⟨gx, 0, none⟩) 512 512) rfl (by kernel_rfl) (by kernel_rfl) (by kernel_rfl) (fun _ _ _ h => h) rfl (by rfl) (fun w hw => by rfl) hH ?_
                        simp only [Act.put, List.setIfInBounds_toArray, List.set_cons_zero, List.set_cons_succ]
                        refine take_to 4 136 (.string (strOf y)) rfl (by kernel_rfl) (by kernel_rfl) (by kernel_rfl) (fun _ _ _ h => h) rfl (by rfl) (fun w hw => op_conv _ _ 31 9 (.tmp 135) rfl _ _ rfl (run_str w _ 512 512 _ HYL.out hw.1)) hH ?_
                        simp only [Act.put, List.setIfInBounds_toArray, List.set_cons_zero, List.set_cons_succ]
                        refine take_to 5 137 (.slice (some ⟨w7.heap.size, 0, none⟩) 512 512) rfl (by kernel_rfl) (by kernel_rfl) (by kernel_rfl) (fun _ _ _ h => h) rfl (by rfl) (fun w hw => by rfl) hH ?_
                        simp only [Act.put, List.setIfInBounds_toArray, List.set_cons_zero, List.set_cons_succ]
                        refine take_to 6 138 (.string (strOf v)) rfl (by kernel_rfl) (by kernel_rfl) (by kernel_rfl) (fun _ _ _ h => h) rfl (by rfl) (fun w hw => op_conv _ _ 31 9 (.tmp 137) rfl _ _ rfl (run_str w _ 512 512 _ HVL.out hw.2)) hH ?_
                        simp only [Act.put, List.setIfInBounds_toArray, List.set_cons_zero, List.set_cons_succ]
                        refine take_to 7 139 (.bool false) rfl (by kernel_rfl) (by kernel_rfl) (by kernel_rfl) (fun _ _ _ h => h) rfl (by rfl) (fun w hw => op_neqstrB _ _ (.tmp 136) (.tmp 138) 9 rfl y v rfl rfl _ HE.out) hH ?_
                        simp only [Act.put, List.setIfInBounds_toArray, List.set_cons_zero, List.set_cons_succ]
                        refine take_to 8 140 (.bool false) rfl (by kernel_rfl) (by kernel_rfl) (by kernel_rfl) (fun _ _ _ h => h) rfl (by rfl) (fun w hw => by rfl) hH ?_
                        simp only [Act.put, List.setIfInBounds_toArray, List.set_cons_zero, List.set_cons_succ]
                        refine skip_to 9 141 rfl (by kernel_rfl) (by kernel_rfl) (by kernel_rfl) (fun _ _ _ h => h) rfl (by rfl) hH ?_
                        simp only [Act.put, List.setIfInBounds_toArray, List.set_cons_zero, List.set_cons_succ]
                        refine skip_to 10 142 rfl (by kernel_rfl) (by kernel_rfl) (by kernel_rfl) (fun _ _ _ h => h) rfl (by rfl) hH ?_
                        simp only [Act.put, List.setIfInBounds_toArray, List.set_cons_zero, List.set_cons_succ]
                        refine skip_to 11 143 rfl (by kernel_rfl) (by kernel_rfl) (by kernel_rfl) (fun _ _ _ h => h) rfl (by rfl) hH ?_
                        simp only [Act.put, List.setIfInBounds_toArray, List.set_cons_zero, List.set_cons_succ]
                        refine skip_to 12 144 rfl (by kernel_rfl) (by kernel_rfl) (by kernel_rfl) (fun _ _ _ h => h) rfl (by rfl) hH ?_
                        simp only [Act.put, List.setIfInBounds_toArray, List.set_cons_zero, List.set_cons_succ]
                        refine skip_to 13 145 rfl (by kernel_rfl) (by kernel_rfl) (by kernel_rfl) (fun _ _ _ h => h) rfl (by rfl) hH ?_
                        simp only [Act.put, List.setIfInBounds_toArray, List.set_cons_zero, List.set_cons_succ]
                        refine skip_to 14 146 rfl (by kernel_rfl) (by kernel_rfl) (by kernel_rfl) (fun _ _ _ h => h) rfl (by rfl) hH ?_
                        simp only [Act.put, List.setIfInBounds_toArray, List.set_cons_zero, List.set_cons_succ]
                        refine skip_to 15 147 rfl (by kernel_rfl) (by kernel_rfl) (by kernel_rfl) (fun _ _ _ h => h) rfl (by rfl) hH ?_
                        simp only [Act.put, List.setIfInBounds_toArray, List.set_cons_zero, List.set_cons_succ]
                        refine skip_to 16 148 rfl (by kernel_rfl) (by kernel_rfl) (by kernel_rfl) (fun _ _ _ h => h) rfl (by rfl) hH ?_
                        simp only [Act.put, List.setIfInBounds_toArray, List.set_cons_zero, List.set_cons_succ]
                        refine skip_to 17 149 rfl (by kernel_rfl) (by kernel_rfl) (by kernel_rfl) (fun _ _ _ h => h) rfl (by rfl) hH ?_
                        simp only [Act.put, List.setIfInBounds_toArray, List.set_cons_zero, List.set_cons_succ]
                        refine skip_to 18 150 rfl (by kernel_rfl) (by kernel_rfl) (by kernel_rfl) (fun _ _ _ h => h) rfl (by rfl) hH ?_
                        simp only [Act.put, List.setIfInBounds_toArray, List.set_cons_zero, List.set_cons_succ]
                        refine skip_to 19 151 rfl (by kernel_rfl) (by kernel_rfl) (by kernel_rfl) (fun _ _ _ h => h) rfl (by rfl) hH ?_
                        simp only [Act.put, List.setIfInBounds_toArray, List.set_cons_zero, List.set_cons_succ]
                        refine take_to 20 152 (.bool false) rfl (by kernel_rfl) (by kernel_rfl) (by kernel_rfl) (fun _ _ _ h => h) rfl (by rfl) (fun w hw => by rfl) hH ?_
                        simp only [Act.put, List.setIfInBounds_toArray, List.set_cons_zero, List.set_cons_succ]
                        refine take_to 21 153 (.bool false) rfl (by kernel_rfl) (by kernel_rfl) (by kernel_rfl) (fun _ _ _ h => h) rfl (by rfl) (fun w hw => by rfl) hH ?_
                        simp only [Act.put, List.setIfInBounds_toArray, List.set_cons_zero, List.set_cons_succ]
                        refine wpAnyH_done (by kernel_rfl) ?_ _
                        clear hH

                        clear HE hx hv
                        go_wp2_with fail
                        go_roundw
                        case rel => exact ⟨m + 1, by omega, by go_num, HB.out.belowW (below_drewN _ _ 1)⟩
                        case measure => simp [intOf]; omega
                      · obtain ⟨hmw, hyp⟩ := HTO.out.resolve_left hev
                        have HE : Hid ((!decide (y = v)) = true) := by show _ = _; simp [hev]
                        have HWY : Hid (((m : Int) != wy) = false) := by show _ = _; rw [hmw]; simp
                        have HPL := hide (fun W => page_any 3 la W)
                        rw [← hyp] at HPL
                        clear HTO hmw hyp
                        refine wp_region_held_drew (S := fun w' => w'.heap[gx]? = some (.cells (secCells y).toArray 5 (0, 0)) ∧ w'.heap[w7.heap.size]? = some (.cells (secCells v).toArray 5 (0, 0))) (by kernel_rfl) ⟨hx, hv⟩ (fun hH => ?_)
                        refine take_to 0 132 (.int .i64 0) rfl (by kernel_rfl) (by kernel_rfl) (by kernel_rfl) (fun _ _ _ h => h) rfl (by rfl) (fun w hw => by rfl) hH ?_
                        simp only [Act.put, List.setIfInBounds_toArray, List.set_cons_zero, List.set_cons_succ]
                        refine take_to 1 133 (.bool false) rfl (by kernel_rfl) (by kernel_rfl) (by kernel_rfl) (fun _ _ _ h => h) rfl (by rfl) (fun w hw => op_neq24 _ _ (.tmp 132) _ 24 rfl _ _ rfl rfl _ (by rfl)) hH ?_
                        simp only [Act.put, List.setIfInBounds_toArray, List.set_cons_zero, List.set_cons_succ]
                        refine take_to 2 134 (.bool false) rfl (by kernel_rfl) (by kernel_rfl) (by kernel_rfl) (fun _ _ _ h => h) rfl (by rfl) (fun w hw => by rfl) hH ?_
                        simp only [Act.put, List.setIfInBounds_toArray, List.set_cons_zero, List.set_cons_succ]
                        refine take_to 3 135 (.slice (some ⟨gx, 0, none⟩) 512 512) rfl (by kernel_rfl) (by kernel_rfl) (by kernel_rfl) (fun _ _ _ h => h) rfl (by rfl) (fun w hw => by rfl) hH ?_
                        simp only [Act.put, List.setIfInBounds_toArray, List.set_cons_zero, List.set_cons_succ]
                        refine take_to 4 136 (.string (strOf y)) rfl (by kernel_rfl) (by kernel_rfl) (by kernel_rfl) (fun _ _ _ h => h) rfl (by rfl) (fun w hw => op_conv _ _ 31 9 (.tmp 135) rfl _ _ rfl (run_str w _ 512 512 _ HYL.out hw.1)) hH ?_
                        simp only [Act.put, List.setIfInBounds_toArray, List.set_cons_zero, List.set_cons_succ]
                        refine take_to 5 137 (.slice (some ⟨w7.heap.size, 0, none⟩) 512 512) rfl (by kernel_rfl) (by kernel_rfl) (by kernel_rfl) (fun _ _ _ h => h) rfl (by rfl) (fun w hw => by rfl) hH ?_
                        simp only [Act.put, List.setIfInBounds_toArray, List.set_cons_zero, List.set_cons_succ]
                        refine take_to 6 138 (.string (strOf v)) rfl (by kernel_rfl) (by kernel_rfl) (by kernel_rfl) (fun _ _ _ h => h) rfl (by rfl) (fun w hw => op_conv _ _ 31 9 (.tmp 137) rfl _ _ rfl (run_str w _ 512 512 _ HVL.out hw.2)) hH ?_
                        simp only [Act.put, List.setIfInBounds_toArray, List.set_cons_zero, List.set_cons_succ]
                        refine take_to 7 139 (.bool true) rfl (by kernel_rfl) (by kernel_rfl) (by kernel_rfl) (fun _ _ _ h => h) rfl (by rfl) (fun w hw => op_neqstrB _ _ (.tmp 136) (.tmp 138) 9 rfl y v rfl rfl _ HE.out) hH ?_
                        simp only [Act.put, List.setIfInBounds_toArray, List.set_cons_zero, List.set_cons_succ]
                        refine take_to 8 140 (.bool true) rfl (by kernel_rfl) (by kernel_rfl) (by kernel_rfl) (fun _ _ _ h => h) rfl (by rfl) (fun w hw => by rfl) hH ?_
                        simp only [Act.put, List.setIfInBounds_toArray, List.set_cons_zero, List.set_cons_succ]
                        refine take_to 9 141 (.int .i64 (m : Int)) rfl (by kernel_rfl) (by kernel_rfl) (by kernel_rfl) (fun _ _ _ h => h) rfl (by rfl) (fun w hw => by rfl) hH ?_
                        simp only [Act.put, List.setIfInBounds_toArray, List.set_cons_zero, List.set_cons_succ]
                        refine take_to 10 142 (.int .i64 wy) rfl (by kernel_rfl) (by kernel_rfl) (by kernel_rfl) (fun _ _ _ h => h) rfl (by rfl) (fun w hw => by rfl) hH ?_
                        simp only [Act.put, List.setIfInBounds_toArray, List.set_cons_zero, List.set_cons_succ]
                        refine take_to 11 143 (.bool false) rfl (by kernel_rfl) (by kernel_rfl) (by kernel_rfl) (fun _ _ _ h => h) rfl (by rfl) (fun w hw => op_neq3 _ _ (.tmp 141) (.tmp 142) 3 rfl _ _ rfl rfl _ HWY.out) hH ?_
                        simp only [Act.put, List.setIfInBounds_toArray, List.set_cons_zero, List.set_cons_succ]
                        refine take_to 12 144 (.bool false) rfl (by kernel_rfl) (by kernel_rfl) (by kernel_rfl) (fun _ _ _ h => h) rfl (by rfl) (fun w hw => by rfl) hH ?_
                        simp only [Act.put, List.setIfInBounds_toArray, List.set_cons_zero, List.set_cons_succ]
                        refine take_to 13 145 (.slice (some ⟨gx, 0, none⟩) 512 512) rfl (by kernel_rfl) (by kernel_rfl) (by kernel_rfl) (fun _ _ _ h => h) rfl (by rfl) (fun w hw => by rfl) hH ?_
                        simp only [Act.put, List.setIfInBounds_toArray, List.set_cons_zero, List.set_cons_succ]
                        refine take_to 14 146 (.string (strOf y)) rfl (by kernel_rfl) (by kernel_rfl) (by kernel_rfl) (fun _ _ _ h => h) rfl (by rfl) (fun w hw => op_conv _ _ 31 9 (.tmp 145) rfl _ _ rfl (run_str w _ 512 512 _ HYL.out hw.1)) hH ?_
                        simp only [Act.put, List.setIfInBounds_toArray, List.set_cons_zero, List.set_cons_succ]
                        refine take_to 15 147 (.int .i64 la) rfl (by kernel_rfl) (by kernel_rfl) (by kernel_rfl) (fun _ _ _ h => h) rfl (by rfl) (fun w hw => by rfl) hH ?_
                        simp only [Act.put, List.setIfInBounds_toArray, List.set_cons_zero, List.set_cons_succ]
                        refine step_call2_to 16 148 8 rfl (by kernel_rfl) rfl (by rfl) (.const (.int .i64 3)) (.tmp 147) _ rfl _ _ rfl rfl Try.enters8 (HPL.out _) ?_
                        rintro e wz ⟨rfl, hgz, hbz⟩
                        have hSz : wz.heap[gx]? = some (.cells (secCells y).toArray 5 (0, 0)) ∧ wz.heap[w7.heap.size]? = some (.cells (secCells v).toArray 5 (0, 0)) := ⟨(hbz.block _ (Array.getElem?_eq_some_iff.1 hx).1).trans hx, (hbz.block _ (Array.getElem?_eq_some_iff.1 hv).1).trans hv⟩
                        refine ⟨_, rfl, hSz, ?_⟩
                        simp only [Act.put, List.setIfInBounds_toArray, List.set_cons_zero, List.set_cons_succ]
                        refine step_to 17 149 (.string (strOf y)) wz rfl (by kernel_rfl) rfl (by rfl) (op_conv _ _ 31 9 (.tmp 148) rfl _ _ rfl (run_str wz _ 512 512 _ HYL.out hgz)) hSz ?_
                        simp only [Act.put, List.setIfInBounds_toArray, List.set_cons_zero, List.set_cons_succ]
                        refine step_to 18 150 (.bool false) wz rfl (by kernel_rfl) rfl (by rfl) (op_neqstrY _ _ (.tmp 146) (.tmp 149) 9 rfl _ rfl rfl) hSz ?_
                        simp only [Act.put, List.setIfInBounds_toArray, List.set_cons_zero, List.set_cons_succ]
                        refine step_to 19 151 (.bool false) wz rfl (by kernel_rfl) rfl (by rfl) (rfl) hSz ?_
                        simp only [Act.put, List.setIfInBounds_toArray, List.set_cons_zero, List.set_cons_succ]
                        refine step_to 20 152 (.bool false) wz rfl (by kernel_rfl) rfl (by rfl) (rfl) hSz ?_
                        simp only [Act.put, List.setIfInBounds_toArray, List.set_cons_zero, List.set_cons_succ]
                        refine step_to 21 153 (.bool false) wz rfl (by kernel_rfl) rfl (by rfl) (rfl) hSz ?_
                        simp only [Act.put, List.setIfInBounds_toArray, List.set_cons_zero, List.set_cons_succ]
                        refine wpAnyH_done (by kernel_rfl) ?_ _
                        have HBz := hide (HB.out.belowW ((below_drewN w8.heap.size w8 1).trans hbz))
                        clear hH hSz hgz hbz

                        clear HE hx hv HWY HPL
                        go_wp2_with fail
                        go_roundw
                        case rel => exact ⟨m + 1, by omega, by go_num, HBz.out⟩
                        case measure => simp [intOf]; omega

                  · have HAW := hide (awake_true wr)
                    go_wp2_with (first | (go_at_call 12; refine HAW.out.mono ?_; rintro e w' ⟨rfl, hbw⟩))
                    go_ret
                    exact ⟨rfl, HB.out.below.trans (hbw.mono HB.out.below.size)⟩

              · obtain ⟨Y, hT, hOL⟩ := c_openLast HC.out
                have HOL := hide hOL
                clear hOL HC W2 W3
                go_wp2_with fail
                refine HOL.out.mono ?_
                rintro e w6 ⟨q2, rfl, hR⟩
                have HR := hide hR
                clear hR HOL
                go_wp2_with fail
                go_loopw [21] (fun j wx => ∃ m : Nat, m ≤ 6 ∧ j = .int .i64 m ∧ RAt w wx q2 p gi Z Y) (fun j _ => 7 - (intOf j).toNat)
                case atStart => exact ⟨0, by omega, rfl, HR.out⟩
                case round =>
                  clear HR
                  obtain ⟨m, hm, rfl, hB⟩ := hrel
                  have HB := hide hB
                  clear hB
                  by_cases hm6 : m < 6
                  · have HRD := hide (r_read HB.out m hm6)
                    clear HB
                    go_wp2_with fail
                    refine HRD.out.mono ?_
                    rintro e w7 ⟨gx, rfl, hgx, hyl, hB7⟩
                    clear HRD
                    have hb8 : Below w7.heap.size w7 (w7.alloc (.cells (secCells (zerosN 512)).toArray 5)) := (Below.refl _ _).alloc (Nat.le_refl _) _
                    have hz8 : (w7.alloc (.cells (secCells (zerosN 512)).toArray 5)).heap[w7.heap.size]? = some (.cells (secCells (zerosN 512)).toArray 5 (0, 0)) := heap_alloc_new _ _
                    have hgx8 := (hb8.block gx (Array.getElem?_eq_some_iff.1 hgx).1).trans hgx
                    have hB8 := hB7.belowW hb8
                    obtain ⟨w8, hw8⟩ : ∃ w8, w7.alloc (.cells (secCells (zerosN 512)).toArray 5) = w8 := ⟨_, rfl⟩
                    have hmk : (Instr.makeSlice 31 (.int .i64 512) (.int .i64 512)).run Try.prog w7 = .ok (.slice (some ⟨w7.heap.size, 0, none⟩) 512 512) w8 := by rw [← hw8]; exact makeN 512 (by omega) w7
                    rw [hw8] at hb8 hz8 hgx8 hB8
                    clear hw8 hgx hB7
                    have c8 := hB8.own.cell m (by rw [HSX.out]; exact hm6)
                    by_cases hpos : 0 < Z.getD m 0
                    · have hwant : want3 Z m = pg 3 (Z.getD m 0) := by unfold want3; rw [if_pos hpos]
                      have HW := hide hwant
                      have HB8 := hide hB8
                      have HG8 := hide hgx8
                      clear hwant hB8 hgx8 hb8 hz8
                      generalize Z.getD m 0 = zz at *
                      go_wp2_with fail
                      refine (page_any 3 zz w8).mono ?_
                      rintro e w9 ⟨rfl, hv, hb9⟩
                      rw [← HW.out] at hv
                      have hx := (hb9.block gx (Array.getElem?_eq_some_iff.1 HG8.out).1).trans HG8.out
                      have HB := hide (HB8.out.belowW hb9)
                      clear hb9 HG8 HW c8 HB8 hmk
                      have HTO := hide (hT m hm6)
                      have HVL := hide (length_want3 Z m)
                      have HYL := hide hyl
                      obtain ⟨y, hy⟩ : ∃ y, Y m = y := ⟨_, rfl⟩
                      obtain ⟨v, hvv⟩ : ∃ v, want3 Z m = v := ⟨_, rfl⟩
                      rw [hy] at hx HTO HYL
                      rw [hvv] at hv HTO HVL
                      clear hy hvv hyl
                      go_wp2
                      by_cases hev : y = v
                      · have HE : Hid ((!decide (y = v)) = false) := by show _ = _; simp [hev]
                        clear HTO
                        refine wp_region_held_drew (S := fun w' => w'.heap[gx]? = some (.cells (secCells y).toArray 5 (0, 0)) ∧ w'.heap[w8.heap.size]? = some (.cells (secCells v).toArray 5 (0, 0))) (by kernel_rfl) ⟨hx, hv⟩ (fun hH => ?_)
                        refine take_to 0 132 (.int .i64 0) rfl (by kernel_rfl) (by kernel_rfl) (by kernel_rfl) (fun _ _ _ h => h) rfl (by rfl) (fun w hw => by rfl) hH ?_
                        simp only [Act.put, List.setIfInBounds_toArray, List.set_cons_zero, List.set_cons_succ]
                        refine take_to 1 133 (.bool false) rfl (by kernel_rfl) (by kernel_rfl) (by kernel_rfl) (fun _ _ _ h => h) rfl (by rfl) (fun w hw => op_neq24 _ _ (.tmp 132) _ 24 rfl _ _ rfl rfl _ (by rfl)) hH ?_
                        simp only [Act.put, List.setIfInBounds_toArray, List.set_cons_zero, List.set_cons_succ]
                        refine take_to 2 134 (.bool false) rfl (by kernel_rfl) (by kernel_rfl) (by kernel_rfl) (fun _ _ _ h => h) rfl (by rfl) (fun w hw => by rfl) hH ?_
                        simp only [Act.put, List.setIfInBounds_toArray, List.set_cons_zero, List.set_cons_succ]
                        refine take_to 3 135 (.slice (some ⟨gx, 0, none⟩) 512 512) rfl (by kernel_rfl) (by kernel_rfl) (by kernel_rfl) (fun _ _ _ h => h) rfl (by rfl) (fun w hw => by rfl) hH ?_
                        simp only [Act.put, List.setIfInBounds_toArray, List.set_cons_zero, List.set_cons_succ]
                        refine take_to 4 136 (.string (strOf y)) rfl (by kernel_rfl) (by kernel_rfl) (by kernel_rfl) (fun _ _ _ h => h) rfl (by rfl) (fun w hw => op_conv _ _ 31 9 (.tmp 135) rfl _ _ rfl (run_str w _ 512 512 _ HYL.out hw.1)) hH ?_
                        simp only [Act.put, List.setIfInBounds_toArray, List.set_cons_zero, List.set_cons_succ]
                        refine take_to 5 137 (.slice (some ⟨w8.heap.size, 0, none⟩) 512 512) rfl (by kernel_rfl) (by kernel_rfl) (by kernel_rfl) (fun _ _ _ h => h) rfl (by rfl) (fun w hw => by rfl) hH ?_
                        simp only [Act.put, List.setIfInBounds_toArray, List.set_cons_zero, List.set_cons_succ]
                        refine take_to 6 138 (.string (strOf v)) rfl (by kernel_rfl) (by kernel_rfl) (by kernel_rfl) (fun _ _ _ h => h) rfl (by rfl) (fun w hw => op_conv _ _ 31 9 (.tmp 137) rfl _ _ rfl (run_str w _ 512 512 _ HVL.out hw.2)) hH ?_
                        simp only [Act.put, List.setIfInBounds_toArray, List.set_cons_zero, List.set_cons_succ]
                        refine take_to 7 139 (.bool false) rfl (by kernel_rfl) (by kernel_rfl) (by kernel_rfl) (fun _ _ _ h => h) rfl (by rfl) (fun w hw => op_neqstrB _ _ (.tmp 136) (.tmp 138) 9 rfl y v rfl rfl _ HE.out) hH ?_
                        simp only [Act.put, List.setIfInBounds_toArray, List.set_cons_zero, List.set_cons_succ]
                        refine take_to 8 140 (.bool false) rfl (by kernel_rfl) (by kernel_rfl) (by kernel_rfl) (fun _ _ _ h => h) rfl (by rfl) (fun w hw => by rfl) hH ?_
                        simp only [Act.put, List.setIfInBounds_toArray, List.set_cons_zero, List.set_cons_succ]
                        refine skip_to 9 141 rfl (by kernel_rfl) (by kernel_rfl) (by kernel_rfl) (fun _ _ _ h => h) rfl (by rfl) hH ?_
                        simp only [Act.put, List.setIfInBounds_toArray, List.set_cons_zero, List.set_cons_succ]
                        refine skip_to 10 142 rfl (by kernel_rfl) (by kernel_rfl) (by kernel_rfl) (fun _ _ _ h => h) rfl (by rfl) hH ?_
                        simp only [Act.put, List.setIfInBounds_toArray, List.set_cons_zero, List.set_cons_succ]
                        refine skip_to 11 143 rfl (by kernel_rfl) (by kernel_rfl) (by kernel_rfl) (fun _ _ _ h => h) rfl (by rfl) hH ?_
                        simp only [Act.put, List.setIfInBounds_toArray, List.set_cons_zero, List.set_cons_succ]
                        refine skip_to 12 144 rfl (by kernel_rfl) (by kernel_rfl) (by kernel_rfl) (fun _ _ _ h => h) rfl (by rfl) hH ?_
                        simp only [Act.put, List.setIfInBounds_toArray, List.set_cons_zero, List.set_cons_succ]
                        refine skip_to 13 145 rfl (by kernel_rfl) (by kernel_rfl) (by kernel_rfl) (fun _ _ _ h => h) rfl (by rfl) hH ?_
                        simp only [Act.put, List.setIfInBounds_toArray, List.set_cons_zero, List.set_cons_succ]
                        refine skip_to 14 146 rfl (by kernel_rfl) (by kernel_rfl) (by kernel_rfl) (fun _ _ _ h => h) rfl (by rfl) hH ?_
                        simp only [Act.put, List.setIfInBounds_toArray, List.set_cons_zero, List.set_cons_succ]
                        refine skip_to 15 147 rfl (by kernel_rfl) (by kernel_rfl) (by kernel_rfl) (fun _ _ _ h => h) rfl (by rfl) hH ?_
                        simp only [Act.put, List.setIfInBounds_toArray, List.set_cons_zero, List.set_cons_succ]
                        refine skip_to 16 148 rfl (by kernel_rfl) (by kernel_rfl) (by kernel_rfl) (fun _ _ _ h => h) rfl (by rfl) hH ?_
                        simp only [Act.put, List.setIfInBounds_toArray, List.set_cons_zero, List.set_cons_succ]
                        refine skip_to 17 149 rfl (by kernel_rfl) (by kernel_rfl) (by kernel_rfl) (fun _ _ _ h => h) rfl (by rfl) hH ?_
                        simp only [Act.put, List.setIfInBounds_toArray, List.set_cons_zero, List.set_cons_succ]
                        refine skip_to 18 150 rfl (by kernel_rfl) (by kernel_rfl) (by kernel_rfl) (fun _ _ _ h => h) rfl (by rfl) hH ?_
                        simp only [Act.put, List.setIfInBounds_toArray, List.set_cons_zero, List.set_cons_succ]
                        refine skip_to 19 151 rfl (by kernel_rfl) (by kernel_rfl) (by kernel_rfl) (fun _ _ _ h => h) rfl (by rfl) hH ?_
                        simp only [Act.put, List.setIfInBounds_toArray, List.set_cons_zero, List.set_cons_succ]
                        refine take_to 20 152 (.bool false) rfl (by kernel_rfl) (by kernel_rfl) (by kernel_rfl) (fun _ _ _ h => h) rfl (by rfl) (fun w hw => by rfl) hH ?_
                        simp only [Act.put, List.setIfInBounds_toArray, List.set_cons_zero, List.set_cons_succ]
                        refine take_to 21 153 (.bool false) rfl (by kernel_rfl) (by kernel_rfl) (by kernel_rfl) (fun _ _ _ h => h) rfl (by rfl) (fun w hw => by rfl) hH ?_
                        simp only [Act.put, List.setIfInBounds_toArray, List.set_cons_zero, List.set_cons_succ]
                        refine wpAnyH_done (by kernel_rfl) ?_ _
                        clear hH

                        clear HE hx hv
                        go_wp2_with fail
                        go_roundw
                        case rel => exact ⟨m + 1, by omega, by go_num, HB.out.belowW (below_drewN _ _ 1)⟩
                        case measure => simp [intOf]; omega
                      · obtain ⟨hmw, hyp⟩ := HTO.out.resolve_left hev
                        have HE : Hid ((!decide (y = v)) = true) := by show _ = _; simp [hev]
                        have HWY : Hid (((m : Int) != wy) = false) := by show _ = _; rw [hmw]; simp
                        have HPL := hide (fun W => page_any 3 la W)
                        rw [← hyp] at HPL
                        clear HTO hmw hyp
                        refine wp_region_held_drew (S := fun w' => w'.heap[gx]? = some (.cells (secCells y).toArray 5 (0, 0)) ∧ w'.heap[w8.heap.size]? = some (.cells (secCells v).toArray 5 (0, 0))) (by kernel_rfl) ⟨hx, hv⟩ (fun hH => ?_)
                        refine take_to 0 132 (.int .i64 0) rfl (by kernel_rfl) (by kernel_rfl) (by kernel_rfl) (fun _ _ _ h => h) rfl (by rfl) (fun w hw => by rfl) hH ?_
                        simp only [Act.put, List.setIfInBounds_toArray, List.set_cons_zero, List.set_cons_succ]
                        refine take_to 1 133 (.bool false) rfl (by kernel_rfl) (by kernel_rfl) (by kernel_rfl) (fun _ _ _ h => h) rfl (by rfl) (fun w hw => op_neq24 _ _ (.tmp 132) _ 24 rfl _ _ rfl rfl _ (by rfl)) hH ?_
                        simp only [Act.put, List.setIfInBounds_toArray, List.set_cons_zero, List.set_cons_succ]
                        refine take_to 2 134 (.bool false) rfl (by kernel_rfl) (by kernel_rfl) (by kernel_rfl) (fun _ _ _ h => h) rfl (by rfl) (fun w hw => by rfl) hH ?_
                        simp only [Act.put, List.setIfInBounds_toArray, List.set_cons_zero, List.set_cons_succ]
                        refine take_to 3 135 (.slice (some ⟨gx, 0, none⟩) 512 512) rfl (by kernel_rfl) (by kernel_rfl) (by kernel_rfl) (fun _ _ _ h => h) rfl (by rfl) (fun w hw => by rfl) hH ?_
                        simp only [Act.put, List.setIfInBounds_toArray, List.set_cons_zero, List.set_cons_succ]
                        refine take_to 4 136 (.string (strOf y)) rfl (by kernel_rfl) (by kernel_rfl) (by kernel_rfl) (fun _ _ _ h => h) rfl (by rfl) (fun w hw => op_conv _ _ 31 9 (.tmp 135) rfl _ _ rfl (run_str w _ 512 512 _ HYL.out hw.1)) hH ?_
                        simp only [Act.put, List.setIfInBounds_toArray, List.set_cons_zero, List.set_cons_succ]
                        refine take_to 5 137 (.slice (some ⟨w8.heap.size, 0, none⟩) 512 512) rfl (by kernel_rfl) (by kernel_rfl) (by kernel_rfl) (fun _ _ _ h => h) rfl (by rfl) (fun w hw => by rfl) hH ?_
                        simp only [Act.put, List.setIfInBounds_toArray, List.set_cons_zero, List.set_cons_succ]
                        refine take_to 6 138 (.string (strOf v)) rfl (by kernel_rfl) (by kernel_rfl) (by kernel_rfl) (fun _ _ _ h => h) rfl (by rfl) (fun w hw => op_conv _ _ 31 9 (.tmp 137) rfl _ _ rfl (run_str w _ 512 512 _ HVL.out hw.2)) hH ?_
                        simp only [Act.put, List.setIfInBounds_toArray, List.set_cons_zero, List.set_cons_succ]
                        refine take_to 7 139 (.bool true) rfl (by kernel_rfl) (by kernel_rfl) (by kernel_rfl) (fun _ _ _ h => h) rfl (by rfl) (fun w hw => op_neqstrB _ _ (.tmp 136) (.tmp 138) 9 rfl y v rfl rfl _ HE.out) hH ?_
                        simp only [Act.put, List.setIfInBounds_toArray, List.set_cons_zero, List.set_cons_succ]
                        refine take_to 8 140 (.bool true) rfl (by kernel_rfl) (by kernel_rfl) (by kernel_rfl) (fun _ _ _ h => h) rfl (by rfl) (fun w hw => by rfl) hH ?_
                        simp only [Act.put, List.setIfInBounds_toArray, List.set_cons_zero, List.set_cons_succ]
                        refine take_to 9 141 (.int .i64 (m : Int)) rfl (by kernel_rfl) (by kernel_rfl) (by kernel_rfl) (fun _ _ _ h => h) rfl (by rfl) (fun w hw => by rfl) hH ?_
                        simp only [Act.put, List.setIfInBounds_toArray, List.set_cons_zero, List.set_cons_succ]
                        refine take_to 10 142 (.int .i64 wy) rfl (by kernel_rfl) (by kernel_rfl) (by kernel_rfl) (fun _ _ _ h => h) rfl (by rfl) (fun w hw => by rfl) hH ?_
                        simp only [Act.put, List.setIfInBounds_toArray, List.set_cons_zero, List.set_cons_succ]
                        refine take_to 11 143 (.bool false) rfl (by kernel_rfl) (by kernel_rfl) (by kernel_rfl) (fun _ _ _ h => h) rfl (by rfl) (fun w hw => op_neq3 _ _ (.tmp 141) (.tmp 142) 3 rfl _ _ rfl rfl _ HWY.out) hH ?_
                        simp only [Act.put, List.setIfInBounds_toArray, List.set_cons_zero, List.set_cons_succ]
                        refine take_to 12 144 (.bool false) rfl (by kernel_rfl) (by kernel_rfl) (by kernel_rfl) (fun _ _ _ h => h) rfl (by rfl) (fun w hw => by rfl) hH ?_
                        simp only [Act.put, List.setIfInBounds_toArray, List.set_cons_zero, List.set_cons_succ]
                        refine take_to 13 145 (.slice (some ⟨gx, 0, none⟩) 512 512) rfl (by kernel_rfl) (by kernel_rfl) (by kernel_rfl) (fun _ _ _ h => h) rfl (by rfl) (fun w hw => by rfl) hH ?_
                        simp only [Act.put, List.setIfInBounds_toArray, List.set_cons_zero, List.set_cons_succ]
                        refine take_to 14 146 (.string (strOf y)) rfl (by kernel_rfl) (by kernel_rfl) (by kernel_rfl) (fun _ _ _ h => h) rfl (by rfl) (fun w hw => op_conv _ _ 31 9 (.tmp 145) rfl _ _ rfl (run_str w _ 512 512 _ HYL.out hw.1)) hH ?_
                        simp only [Act.put, List.setIfInBounds_toArray, List.set_cons_zero, List.set_cons_succ]
                        refine take_to 15 147 (.int .i64 la) rfl (by kernel_rfl) (by kernel_rfl) (by kernel_rfl) (fun _ _ _ h => h) rfl (by rfl) (fun w hw => by rfl) hH ?_
                        simp only [Act.put, List.setIfInBounds_toArray, List.set_cons_zero, List.set_cons_succ]
                        refine step_call2_to 16 148 8 rfl (by kernel_rfl) rfl (by rfl) (.const (.int .i64 3)) (.tmp 147) _ rfl _ _ rfl rfl Try.enters8 (HPL.out _) ?_
                        rintro e wz ⟨rfl, hgz, hbz⟩
                        have hSz : wz.heap[gx]? = some (.cells (secCells y).toArray 5 (0, 0)) ∧ wz.heap[w8.heap.size]? = some (.cells (secCells v).toArray 5 (0, 0)) := ⟨(hbz.block _ (Array.getElem?_eq_some_iff.1 hx).1).trans hx, (hbz.block _ (Array.getElem?_eq_some_iff.1 hv).1).trans hv⟩
                        refine ⟨_, rfl, hSz, ?_⟩
                        simp only [Act.put, List.setIfInBounds_toArray, List.set_cons_zero, List.set_cons_succ]
                        refine step_to 17 149 (.string (strOf y)) wz rfl (by kernel_rfl) rfl (by rfl) (op_conv _ _ 31 9 (.tmp 148) rfl _ _ rfl (run_str wz _ 512 512 _ HYL.out hgz)) hSz ?_
                        simp only [Act.put, List.setIfInBounds_toArray, List.set_cons_zero, List.set_cons_succ]
                        refine step_to 18 150 (.bool false) wz rfl (by kernel_rfl) rfl (by rfl) (op_neqstrY _ _ (.tmp 146) (.tmp 149) 9 rfl _ rfl rfl) hSz ?_
                        simp only [Act.put, List.setIfInBounds_toArray, List.set_cons_zero, List.set_cons_succ]
                        refine step_to 19 151 (.bool false) wz rfl (by kernel_rfl) rfl (by rfl) (rfl) hSz ?_
                        simp only [Act.put, List.setIfInBounds_toArray, List.set_cons_zero, List.set_cons_succ]
                        refine step_to 20 152 (.bool false) wz rfl (by kernel_rfl) rfl (by rfl) (rfl) hSz ?_
                        simp only [Act.put, List.setIfInBounds_toArray, List.set_cons_zero, List.set_cons_succ]
                        refine step_to 21 153 (.bool false) wz rfl (by kernel_rfl) rfl (by rfl) (rfl) hSz ?_
                        simp only [Act.put, List.setIfInBounds_toArray, List.set_cons_zero, List.set_cons_succ]
                        refine wpAnyH_done (by kernel_rfl) ?_ _
                        have HBz := hide (HB.out.belowW ((below_drewN w9.heap.size w9 1).trans hbz))
                        clear hH hSz hgz hbz

                        clear HE hx hv HWY HPL
                        go_wp2_with fail
                        go_roundw
                        case rel => exact ⟨m + 1, by omega, by go_num, HBz.out⟩
                        case measure => simp [intOf]; omega

                    · have hwant : want3 Z m = zerosN 512 := by unfold want3; rw [if_neg hpos]
                      rw [← hwant] at hz8
                      have hx := hgx8
                      have hv := hz8
                      have HB := hide hB8
                      clear hwant hB8 hgx8 hb8 hz8
                      generalize Z.getD m 0 = zz at *
                      have HTO := hide (hT m hm6)
                      have HVL := hide (length_want3 Z m)
                      have HYL := hide hyl
                      obtain ⟨y, hy⟩ : ∃ y, Y m = y := ⟨_, rfl⟩
                      obtain ⟨v, hvv⟩ : ∃ v, want3 Z m = v := ⟨_, rfl⟩
                      rw [hy] at hx HTO HYL
                      rw [hvv] at hv HTO HVL
                      clear hy hvv hyl
                      go_wp2
                      by_cases hev : y = v
                      · have HE : Hid ((!decide (y = v)) = false) := by show _ = _; simp [hev]
                        clear HTO
                        refine wp_region_held_drew (S := fun w' => w'.heap[gx]? = some (.cells (secCells y).toArray 5 (0, 0)) ∧ w'.heap[w7.heap.size]? = some (.cells (secCells v).toArray 5 (0, 0))) (by kernel_rfl) ⟨hx, hv⟩ (fun hH => ?_)
                        refine take_to 0 132 (.int .i64 0) rfl (by kernel_rfl) (by kernel_rfl) (by kernel_rfl) (fun _ _ _ h => h) rfl (by rfl) (fun w hw => by rfl) hH ?_
                        simp only [Act.put, List.setIfInBounds_toArray, List.set_cons_zero, List.set_cons_succ]
                        refine take_to 1 133 (.bool false) rfl (by kernel_rfl) (by kernel_rfl) (by kernel_rfl) (fun _ _ _ h => h) rfl (by rfl) (fun w hw => op_neq24 _ _ (.tmp 132) _ 24 rfl _ _ rfl rfl _ (by rfl)) hH ?_
                        simp only [Act.put, List.setIfInBounds_toArray, List.set_cons_zero, List.set_cons_succ]
                        refine take_to 2 134 (.bool false) rfl (by kernel_rfl) (by kernel_rfl) (by kernel_rfl) (fun _ _ _ h => h) rfl (by rfl) (fun w hw => by rfl) hH ?_
                        simp only [Act.put, List.setIfInBounds_toArray, List.set_cons_zero, List.set_cons_succ]
                        refine take_to 3 135 (.slice (some ⟨gx, 0, none⟩) 512 512) rfl (by kernel_rfl) (by kernel_rfl) (by kernel_rfl) (fun _ _ _ h => h) rfl (by rfl) (fun w hw => by rfl) hH ?_
                        simp only [Act.put, List.setIfInBounds_toArray, List.set_cons_zero, List.set_cons_succ]
                        refine take_to 4 136 (.string (strOf y)) rfl (by kernel_rfl) (by kernel_rfl) (by kernel_rfl) (fun _ _ _ h => h) rfl (by rfl) (fun w hw => op_conv _ _ 31 9 (.tmp 135) rfl _ _ rfl (run_str w _ 512 512 _ HYL.out hw.1)) hH ?_
                        simp only [Act.put, List.setIfInBounds_toArray, List.set_cons_zero, List.set_cons_succ]
                        refine take_to 5 137 (.slice (some ⟨w7.heap.size, 0, none⟩) 512 512) rfl (by kernel_rfl) (by kernel_rfl) (by kernel_rfl) (fun _ _ _ h => h) rfl (by rfl) (fun w hw => by rfl) hH ?_
                        simp only [Act.put, List.setIfInBounds_toArray, List.set_cons_zero, List.set_cons_succ]
                        refine take_to 6 138 (.string (strOf v)) rfl (by kernel_rfl) (by kernel_rfl) (by kernel_rfl) (fun _ _ _ h => h) rfl (by rfl) (fun w hw => op_conv _ _ 31 9 (.tmp 137) rfl _ _ rfl (run_str w _ 512 512 _ HVL.out hw.2)) hH ?_
                        simp only [Act.put, List.setIfInBounds_toArray, List.set_cons_zero, List.set_cons_succ]
                        refine take_to 7 139 (.bool false) rfl (by kernel_rfl) (by kernel_rfl) (by kernel_rfl) (fun _ _ _ h => h) rfl (by rfl) (fun w hw => op_neqstrB _ _ (.tmp 136) (.tmp 138) 9 rfl y v rfl rfl _ HE.out) hH ?_
                        simp only [Act.put, List.setIfInBounds_toArray, List.set_cons_zero, List.set_cons_succ]
                        refine take_to 8 140 (.bool false) rfl (by kernel_rfl) (by kernel_rfl) (by kernel_rfl) (fun _ _ _ h => h) rfl (by rfl) (fun w hw => by rfl) hH ?_
                        simp only [Act.put, List.setIfInBounds_toArray, List.set_cons_zero, List.set_cons_succ]
                        refine skip_to 9 141 rfl (by kernel_rfl) (by kernel_rfl) (by kernel_rfl) (fun _ _ _ h => h) rfl (by rfl) hH ?_
                        simp only [Act.put, List.setIfInBounds_toArray, List.set_cons_zero, List.set_cons_succ]
                        refine skip_to 10 142 rfl (by kernel_rfl) (by kernel_rfl) (by kernel_rfl) (fun _ _ _ h => h) rfl (by rfl) hH ?_
                        simp only [Act.put, List.setIfInBounds_toArray, List.set_cons_zero, List.set_cons_succ]
                        refine skip_to 11 143 rfl (by kernel_rfl) (by kernel_rfl) (by kernel_rfl) (fun _ _ _ h => h) rfl (by rfl) hH ?_
                        simp only [Act.put, List.setIfInBounds_toArray, List.set_cons_zero, List.set_cons_succ]
                        refine skip_to 12 144 rfl (by kernel_rfl) (by kernel_rfl) (by kernel_rfl) (fun _ _ _ h => h) rfl (by rfl) hH ?_
                        simp only [Act.put, List.setIfInBounds_toArray, List.set_cons_zero, List.set_cons_succ]
                        refine skip_to 13 145 rfl (by kernel_rfl) (by kernel_rfl) (by kernel_rfl) (fun _ _ _ h => h) rfl (by rfl) hH ?_
                        simp only [Act.put, List.setIfInBounds_toArray, List.set_cons_zero, List.set_cons_succ]
                        refine skip_to 14 146 rfl (by kernel_rfl) (by kernel_rfl) (by kernel_rfl) (fun _ _ _ h => h) rfl (by rfl) hH ?_
                        simp only [Act.put, List.setIfInBounds_toArray, List.set_cons_zero, List.set_cons_succ]
                        refine skip_to 15 147 rfl (by kernel_rfl) (by kernel_rfl) (by kernel_rfl) (fun _ _ _ h => h) rfl (by rfl) hH ?_
                        simp only [Act.put, List.setIfInBounds_toArray, List.set_cons_zero, List.set_cons_succ]
                        refine skip_to 16 148 rfl (by kernel_rfl) (by kernel_rfl) (by kernel_rfl) (fun _ _ _ h => h) rfl (by rfl) hH ?_
                        simp only [Act.put, List.setIfInBounds_toArray, List.set_cons_zero, List.set_cons_succ]
                        refine skip_to 17 149 rfl (by kernel_rfl) (by kernel_rfl) (by kernel_rfl) (fun _ _ _ h => h) rfl (by rfl) hH ?_
                        simp only [Act.put, List.setIfInBounds_toArray, List.set_cons_zero, List.set_cons_succ]
                        refine skip_to 18 150 rfl (by kernel_rfl) (by kernel_rfl) (by kernel_rfl) (fun _ _ _ h => h) rfl (by rfl) hH ?_
                        simp only [Act.put, List.setIfInBounds_toArray, List.set_cons_zero, List.set_cons_succ]
                        refine skip_to 19 151 rfl (by kernel_rfl) (by kernel_rfl) (by kernel_rfl) (fun _ _ _ h => h) rfl (by rfl) hH ?_
                        simp only [Act.put, List.setIfInBounds_toArray, List.set_cons_zero, List.set_cons_succ]
                        refine take_to 20 152 (.bool false) rfl (by kernel_rfl) (by kernel_rfl) (by kernel_rfl) (fun _ _ _ h => h) rfl (by rfl) (fun w hw => by rfl) hH ?_
                        simp only [Act.put, List.setIfInBounds_toArray, List.set_cons_zero, List.set_cons_succ]
                        refine take_to 21 153 (.bool false) rfl (by kernel_rfl) (by kernel_rfl) (by kernel_rfl) (fun _ _ _ h => h) rfl (by rfl) (fun w hw => by rfl) hH ?_
                        simp only [Act.put, List.setIfInBounds_toArray, List.set_cons_zero, List.set_cons_succ]
                        refine wpAnyH_done (by kernel_rfl) ?_ _
                        clear hH

                        clear HE hx hv
                        go_wp2_with fail
                        go_roundw
                        case rel => exact ⟨m + 1, by omega, by go_num, HB.out.belowW (below_drewN _ _ 1)⟩
                        case measure => simp [intOf]; omega
                      · obtain ⟨hmw, hyp⟩ := HTO.out.resolve_left hev
                        have HE : Hid ((!decide (y = v)) = true) := by show _ = _; simp [hev]
                        have HWY : Hid (((m : Int) != wy) = false) := by show _ = _; rw [hmw]; simp
                        have HPL := hide (fun W => page_any 3 la W)
                        rw [← hyp] at HPL
                        clear HTO hmw hyp
                        refine wp_region_held_drew (S := fun w' => w'.heap[gx]? = some (.cells (secCells y).toArray 5 (0, 0)) ∧ w'.heap[w7.heap.size]? = some (.cells (secCells v).toArray 5 (0, 0))) (by kernel_rfl) ⟨hx, hv⟩ (fun hH => ?_)
                        refine take_to 0 132 (.int .i64 0) rfl (by kernel_rfl) (by kernel_rfl) (by kernel_rfl) (fun _ _ _ h => h) rfl (by rfl) (fun w hw => by rfl) hH ?_
                        simp only [Act.put, List.setIfInBounds_toArray, List.set_cons_zero, List.set_cons_succ]
                        refine take_to 1 133 (.bool false) rfl (by kernel_rfl) (by kernel_rfl) (by kernel_rfl) (fun _ _ _ h => h) rfl (by rfl) (fun w hw => op_neq24 _ _ (.tmp 132) _ 24 rfl _ _ rfl rfl _ (by rfl)) hH ?_
                        simp only [Act.put, List.setIfInBounds_toArray, List.set_cons_zero, List.set_cons_succ]
                        refine take_to 2 134 (.bool false) rfl (by kernel_rfl) (by kernel_rfl) (by kernel_rfl) (fun _ _ _ h => h) rfl (by rfl) (fun w hw => by rfl) hH ?_
                        simp only [Act.put, List.setIfInBounds_toArray, List.set_cons_zero, List.set_cons_succ]
                        refine take_to 3 135 (.slice (some ⟨gx, 0, none⟩) 512 512) rfl (by kernel_rfl) (by kernel_rfl) (by kernel_rfl) (fun _ _ _ h => h) rfl (by rfl) (fun w hw => by rfl) hH ?_
                        simp only [Act.put, List.setIfInBounds_toArray, List.set_cons_zero, List.set_cons_succ]
                        refine take_to 4 136 (.string (strOf y)) rfl (by kernel_rfl) (by kernel_rfl) (by kernel_rfl) (fun _ _ _ h => h) rfl (by rfl) (fun w hw => op_conv _ _ 31 9 (.tmp 135) rfl _ _ rfl (run_str w _ 512 512 _ HYL.out hw.1)) hH ?_
                        simp only [Act.put, List.setIfInBounds_toArray, List.set_cons_zero, List.set_cons_succ]
                        refine take_to 5 137 (.slice (some ⟨w7.heap.size, 0, none⟩) 512 512) rfl (by kernel_rfl) (by kernel_rfl) (by kernel_rfl) (fun _ _ _ h => h) rfl (by rfl) (fun w hw => by rfl) hH ?_
                        simp only [Act.put, List.setIfInBounds_toArray, List.set_cons_zero, List.set_cons_succ]
                        refine take_to 6 138 (.string (strOf v)) rfl (by kernel_rfl) (by kernel_rfl) (by kernel_rfl) (fun _ _ _ h => h) rfl (by rfl) (fun w hw => op_conv _ _ 31 9 (.tmp 137) rfl _ _ rfl (run_str w _ 512 512 _ HVL.out hw.2)) hH ?_
                        simp only [Act.put, List.setIfInBounds_toArray, List.set_cons_zero, List.set_cons_succ]
                        refine take_to 7 139 (.bool true) rfl (by kernel_rfl) (by kernel_rfl) (by kernel_rfl) (fun _ _ _ h => h) rfl (by rfl) (fun w hw => op_neqstrB _ _ (.tmp 136) (.tmp 138) 9 rfl y v rfl rfl _ HE.out) hH ?_
                        simp only [Act.put, List.setIfInBounds_toArray, List.set_cons_zero, List.set_cons_succ]
                        refine take_to 8 140 (.bool true) rfl (by kernel_rfl) (by kernel_rfl) (by kernel_rfl) (fun _ _ _ h => h) rfl (by rfl) (fun w hw => by rfl) hH ?_
                        simp only [Act.put, List.setIfInBounds_toArray, List.set_cons_zero, List.set_cons_succ]
                        refine take_to 9 141 (.int .i64 (m : Int)) rfl (by kernel_rfl) (by kernel_rfl) (by kernel_rfl) (fun _ _ _ h => h) rfl (by rfl) (fun w hw => by rfl) hH ?_
                        simp only [Act.put, List.setIfInBounds_toArray, List.set_cons_zero, List.set_cons_succ]
                        refine take_to 10 142 (.int .i64 wy) rfl (by kernel_rfl) (by kernel_rfl) (by kernel_rfl) (fun _ _ _ h => h) rfl (by rfl) (fun w hw => by rfl) hH ?_
                        simp only [Act.put, List.setIfInBounds_toArray, List.set_cons_zero, List.set_cons_succ]
                        refine take_to 11 143 (.bool false) rfl (by kernel_rfl) (by kernel_rfl) (by kernel_rfl) (fun _ _ _ h => h) rfl (by rfl) (fun w hw => op_neq3 _ _ (.tmp 141) (.tmp 142) 3 rfl _ _ rfl rfl _ HWY.out) hH ?_
                        simp only [Act.put, List.setIfInBounds_toArray, List.set_cons_zero, List.set_cons_succ]
                        refine take_to 12 144 (.bool false) rfl (by kernel_rfl) (by kernel_rfl) (by kernel_rfl) (fun _ _ _ h => h) rfl (by rfl) (fun w hw => by rfl) hH ?_
                        simp only [Act.put, List.setIfInBounds_toArray, List.set_cons_zero, List.set_cons_succ]
                        refine take_to 13 145 (.slice (some ⟨gx, 0, none⟩) 512 512) rfl (by kernel_rfl) (by kernel_rfl) (by kernel_rfl) (fun _ _ _ h => h) rfl (by rfl) (fun w hw => by rfl) hH ?_
                        simp only [Act.put, List.setIfInBounds_toArray, List.set_cons_zero, List.set_cons_succ]
                        refine take_to 14 146 (.string (strOf y)) rfl (by kernel_rfl) (by kernel_rfl) (by kernel_rfl) (fun _ _ _ h => h) rfl (by rfl) (fun w hw => op_conv _ _ 31 9 (.tmp 145) rfl _ _ rfl (run_str w _ 512 512 _ HYL.out hw.1)) hH ?_
                        simp only [Act.put, List.setIfInBounds_toArray, List.set_cons_zero, List.set_cons_succ]
                        refine take_to 15 147 (.int .i64 la) rfl (by kernel_rfl) (by kernel_rfl) (by kernel_rfl) (fun _ _ _ h => h) rfl (by rfl) (fun w hw => by rfl) hH ?_
                        simp only [Act.put, List.setIfInBounds_toArray, List.set_cons_zero, List.set_cons_succ]
                        refine step_call2_to 16 148 8 rfl (by kernel_rfl) rfl (by rfl) (.const (.int .i64 3)) (.tmp 147) _ rfl _ _ rfl rfl Try.enters8 (HPL.out _) ?_
                        rintro e wz ⟨rfl, hgz, hbz⟩
                        have hSz : wz.heap[gx]? = some (.cells (secCells y).toArray 5 (0, 0)) ∧ wz.heap[w7.heap.size]? = some (.cells (secCells v).toArray 5 (0, 0)) := ⟨(hbz.block _ (Array.getElem?_eq_some_iff.1 hx).1).trans hx, (hbz.block _ (Array.getElem?_eq_some_iff.1 hv).1).trans hv⟩
                        refine ⟨_, rfl, hSz, ?_⟩
                        simp only [Act.put, List.setIfInBounds_toArray, List.set_cons_zero, List.set_cons_succ]
                        refine step_to 17 149 (.string (strOf y)) wz rfl (by kernel_rfl) rfl (by rfl) (op_conv _ _ 31 9 (.tmp 148) rfl _ _ rfl (run_str wz _ 512 512 _ HYL.out hgz)) hSz ?_
                        simp only [Act.put, List.setIfInBounds_toArray, List.set_cons_zero, List.set_cons_succ]
                        refine step_to 18 150 (.bool false) wz rfl (by kernel_rfl) rfl (by rfl) (op_neqstrY _ _ (.tmp 146) (.tmp 149) 9 rfl _ rfl rfl) hSz ?_
                        simp only [Act.put, List.setIfInBounds_toArray, List.set_cons_zero, List.set_cons_succ]
                        refine step_to 19 151 (.bool false) wz rfl (by kernel_rfl) rfl (by rfl) (rfl) hSz ?_
                        simp only [Act.put, List.setIfInBounds_toArray, List.set_cons_zero, List.set_cons_succ]
                        refine step_to 20 152 (.bool false) wz rfl (by kernel_rfl) rfl (by rfl) (rfl) hSz ?_
                        simp only [Act.put, List.setIfInBounds_toArray, List.set_cons_zero, List.set_cons_succ]
                        refine step_to 21 153 (.bool false) wz rfl (by kernel_rfl) rfl (by rfl) (rfl) hSz ?_
                        simp only [Act.put, List.setIfInBounds_toArray, List.set_cons_zero, List.set_cons_succ]
                        refine wpAnyH_done (by kernel_rfl) ?_ _
                        have HBz := hide (HB.out.belowW ((below_drewN w8.heap.size w8 1).trans hbz))
                        clear hH hSz hgz hbz

                        clear HE hx hv HWY HPL
                        go_wp2_with fail
                        go_roundw
                        case rel => exact ⟨m + 1, by omega, by go_num, HBz.out⟩
                        case measure => simp [intOf]; omega

                  · have HAW := hide (awake_true wr)
                    go_wp2_with (first | (go_at_call 12; refine HAW.out.mono ?_; rintro e w' ⟨rfl, hbw⟩))
                    go_ret
                    exact ⟨rfl, HB.out.below.trans (hbw.mono HB.out.below.size)⟩


      · have HSX := hide HA.out.six
        have HCR := hide (w_crash a2 len2 cap2 z2 HA.out W2.out)
        clear HA W0
        go_wp2_with fail
        refine HCR.out.mono ?_
        rintro e w5 ⟨rfl, hC5⟩
        have HC5 := hide hC5
        clear hC5 HCR
        go_wp2_with fail
        go_loopw [18] (fun i wx => ∃ k : Nat, k ≤ 6 ∧ i = .int .i64 k ∧ CAt w wx p gi Z wy la true) (fun i _ => 7 - (intOf i).toNat)
        case atStart => exact ⟨0, by omega, rfl, HC5.out⟩
        case round =>
          clear HC5
          obtain ⟨k, hk, rfl, hC⟩ := hrel
          have HC := hide hC
          clear hC
          by_cases hgo : k < len3 ∧ k < 6
          · obtain ⟨hlt, hk6⟩ := hgo
            obtain ⟨b, o, hab, hcell, hz1, hz2⟩ := ints_at W3.out HC.out.below k hlt
            subst hab
            have HFU := hide (c_fuse (z3.getD k 0) HC.out hz1 hz2)
            generalize z3.getD k 0 = z at *
            clear HC
            go_wp2_with fail
            refine HFU.out.mono ?_
            rintro e w6 ⟨rfl, hC6⟩
            have HOP := hide (c_open hC6)
            clear HFU hC6 hcell
            go_wp2_with fail
            refine HOP.out.mono ?_
            rintro e w7 ⟨⟨v7, rfl⟩, hO7⟩
            have HCR := hide (c_crash a2 len2 cap2 z2 hO7 W2.out)
            clear HOP hO7
            go_wp2_with fail
            refine HCR.out.mono ?_
            rintro e w8 ⟨rfl, hC8⟩
            have HC8 := hide hC8
            clear HCR hC8
            go_wp2_with fail
            go_roundw
            case rel => exact ⟨k + 1, by omega, by go_num, HC8.out⟩
            case measure => simp [intOf]; omega
          · by_cases h1 : k < len3
            · have h2 : ¬ k < 6 := fun h => hgo ⟨h1, h⟩
              obtain ⟨Y, hT, hOL⟩ := c_openLast HC.out
              have HOL := hide hOL
              clear hOL HC W2 W3
              go_wp2_with fail
              refine HOL.out.mono ?_
              rintro e w6 ⟨q2, rfl, hR⟩
              have HR := hide hR
              clear hR HOL
              go_wp2_with fail
              go_loopw [21] (fun j wx => ∃ m : Nat, m ≤ 6 ∧ j = .int .i64 m ∧ RAt w wx q2 p gi Z Y) (fun j _ => 7 - (intOf j).toNat)
              case atStart => exact ⟨0, by omega, rfl, HR.out⟩
              case round =>
                clear HR
                obtain ⟨m, hm, rfl, hB⟩ := hrel
                have HB := hide hB
                clear hB
                by_cases hm6 : m < 6
                · have HRD := hide (r_read HB.out m hm6)
                  clear HB
                  go_wp2_with fail
                  refine HRD.out.mono ?_
                  rintro e w7 ⟨gx, rfl, hgx, hyl, hB7⟩
                  clear HRD
                  have hb8 : Below w7.heap.size w7 (w7.alloc (.cells (secCells (zerosN 512)).toArray 5)) := (Below.refl _ _).alloc (Nat.le_refl _) _
                  have hz8 : (w7.alloc (.cells (secCells (zerosN 512)).toArray 5)).heap[w7.heap.size]? = some (.cells (secCells (zerosN 512)).toArray 5 (0, 0)) := heap_alloc_new _ _
                  have hgx8 := (hb8.block gx (Array.getElem?_eq_some_iff.1 hgx).1).trans hgx
                  have hB8 := hB7.belowW hb8
                  obtain ⟨w8, hw8⟩ : ∃ w8, w7.alloc (.cells (secCells (zerosN 512)).toArray 5) = w8 := ⟨_, rfl⟩
                  have hmk : (Instr.makeSlice 31 (.int .i64 512) (.int .i64 512)).run Try.prog w7 = .ok (.slice (some ⟨w7.heap.size, 0, none⟩) 512 512) w8 := by rw [← hw8]; exact makeN 512 (by omega) w7
                  rw [hw8] at hb8 hz8 hgx8 hB8
                  clear hw8 hgx hB7
                  have c8 := hB8.own.cell m (by rw [HSX.out]; exact hm6)
                  by_cases hpos : 0 < Z.getD m 0
                  · have hwant : want3 Z m = pg 3 (Z.getD m 0) := by unfold want3; rw [if_pos hpos]
                    have HW := hide hwant
                    have HB8 := hide hB8
                    have HG8 := hide hgx8
                    clear hwant hB8 hgx8 hb8 hz8
                    generalize Z.getD m 0 = zz at *
                    go_wp2_with fail
                    refine (page_any 3 zz w8).mono ?_
                    rintro e w9 ⟨rfl, hv, hb9⟩
                    rw [← HW.out] at hv
                    have hx := (hb9.block gx (Array.getElem?_eq_some_iff.1 HG8.out).1).trans HG8.out
                    have HB := hide (HB8.out.belowW hb9)
                    clear hb9 HG8 HW c8 HB8 hmk
                    have HTO := hide (hT m hm6)
                    have HVL := hide (length_want3 Z m)
                    have HYL := hide hyl
                    obtain ⟨y, hy⟩ : ∃ y, Y m = y := ⟨_, rfl⟩
                    obtain ⟨v, hvv⟩ : ∃ v, want3 Z m = v := ⟨_, rfl⟩
                    rw [hy] at hx HTO HYL
                    rw [hvv] at hv HTO HVL
                    clear hy hvv hyl
                    go_wp2
                    by_cases hev : y = v
                    · have HE : Hid ((!decide (y = v)) = false) := by show _ = _; simp [hev]
                      clear HTO
                      refine wp_region_held_drew (S := fun w' => w'.heap[gx]? = some (.cells (secCells y).toArray 5 (0, 0)) ∧ w'.heap[w8.heap.size]? = some (.cells (secCells v).toArray 5 (0, 0))) (by kernel_rfl) ⟨hx, hv⟩ (fun hH => ?_)
                      refine take_to 0 132 (.int .i64 0) rfl (by kernel_rfl) (by kernel_rfl) (by kernel_rfl) (fun _ _ _ h => h) rfl (by rfl) (fun w hw => by rfl) hH ?_
                      simp only [Act.put, List.setIfInBounds_toArray, List.set_cons_zero, List.set_cons_succ]
                      refine take_to 1 133 (.bool false) rfl (by kernel_rfl) (by kernel_rfl) (by kernel_rfl) (fun _ _ _ h => h) rfl (by rfl) (fun w hw => op_neq24 _ _ (.tmp 132) _ 24 rfl _ _ rfl rfl _ (by rfl)) hH ?_
                      simp only [Act.put, List.setIfInBounds_toArray, List.set_cons_zero, List.set_cons_succ]
                      refine take_to 2 134 (.bool false) rfl (by kernel_rfl) (by kernel_rfl) (by kernel_rfl) (fun _ _ _ h => h) rfl (by rfl) (fun w hw => by rfl) hH ?_
                      simp only [Act.put, List.setIfInBounds_toArray, List.set_cons_zero, List.set_cons_succ]
                      refine take_to 3 135 (.slice (some ⟨gx, 0, none⟩) 512 512) rfl (by kernel_rfl) (by kernel_rfl) (by kernel_rfl) (fun _ _ _ h => h) rfl (by rfl) (fun w hw => by rfl) hH ?_
                      simp only [Act.put, List.setIfInBounds_toArray, List.set_cons_zero, List.set_cons_succ]
                      refine take_to 4 136 (.string (strOf y)) rfl (by kernel_rfl) (by kernel_rfl) (by kernel_rfl) (fun _ _ _ h => h) rfl (by rfl) (fun w hw => op_conv _ _ 31 9 (.tmp 135) rfl _ _ rfl (run_str w _ 512 512 _ HYL.out hw.1)) hH ?_
                      simp only [Act.put, List.setIfInBounds_toArray, List.set_cons_zero, List.set_cons_succ]
                      refine take_to 5 137 (.slice (some ⟨w8.heap.size, 0, none⟩) 512 512) rfl (by kernel_rfl) (by kernel_rfl) (by kernel_rfl) (fun _ _ _ h => h) rfl (by rfl) (fun w hw => by rfl) hH ?_
                      simp only [Act.put, List.setIfInBounds_toArray, List.set_cons_zero, List.set_cons_succ]
                      refine take_to 6 138 (.string (strOf v)) rfl (by kernel_rfl) (by kernel_rfl) (by kernel_rfl) (fun _ _ _ h => h) rfl (by rfl) (fun w hw => op_conv _ _ 31 9 (.tmp 137) rfl _ _ rfl (run_str w _ 512 512 _ HVL.out hw.2)) hH ?_
                      simp only [Act.put, List.setIfInBounds_toArray, List.set_cons_zero, List.set_cons_succ]
                      refine take_to 7 139 (.bool false) rfl (by kernel_rfl) (by kernel_rfl) (by kernel_rfl) (fun _ _ _ h => h) rfl (by rfl) (fun w hw => op_neqstrB _ _ (.tmp 136) (.tmp 138) 9 rfl y v rfl rfl _ HE.out) hH ?_
                      simp only [Act.put, List.setIfInBounds_toArray, List.set_cons_zero, List.set_cons_succ]
                      refine take_to 8 140 (.bool false) rfl (by kernel_rfl) (by kernel_rfl) (by kernel_rfl) (fun _ _ _ h => h) rfl (by rfl) (fun w hw => by rfl) hH ?_
                      simp only [Act.put, List.setIfInBounds_toArray, List.set_cons_zero, List.set_cons_succ]
                      refine skip_to 9 141 rfl (by kernel_rfl) (by kernel_rfl) (by kernel_rfl) (fun _ _ _ h => h) rfl (by rfl) hH ?_
                      simp only [Act.put, List.setIfInBounds_toArray, List.set_cons_zero, List.set_cons_succ]
                      refine skip_to 10 142 rfl (by kernel_rfl) (by kernel_rfl) (by kernel_rfl) (fun _ _ _ h => h) rfl (by rfl) hH ?_
                      simp only [Act.put, List.setIfInBounds_toArray, List.set_cons_zero, List.set_cons_succ]
                      refine skip_to 11 143 rfl (by kernel_rfl) (by kernel_rfl) (by kernel_rfl) (fun _ _ _ h => h) rfl (by rfl) hH ?_
                      simp only [Act.put, List.setIfInBounds_toArray, List.set_cons_zero, List.set_cons_succ]
                      refine skip_to 12 144 rfl (by kernel_rfl) (by kernel_rfl) (by kernel_rfl) (fun _ _ _ h => h) rfl (by rfl) hH ?_
                      simp only [Act.put, List.setIfInBounds_toArray, List.set_cons_zero, List.set_cons_succ]
                      refine skip_to 13 145 rfl (by kernel_rfl) (by kernel_rfl) (by kernel_rfl) (fun _ _ _ h => h) rfl (by rfl) hH ?_
                      simp only [Act.put, List.setIfInBounds_toArray, List.set_cons_zero, List.set_cons_succ]
                      refine skip_to 14 146 rfl (by kernel_rfl) (by kernel_rfl) (by kernel_rfl) (fun _ _ _ h => h) rfl (by rfl) hH ?_
                      simp only [Act.put, List.setIfInBounds_toArray, List.set_cons_zero, List.set_cons_succ]
                      refine skip_to 15 147 rfl (by kernel_rfl) (by kernel_rfl) (by kernel_rfl) (fun _ _ _ h => h) rfl (by rfl) hH ?_
                      simp only [Act.put, List.setIfInBounds_toArray, List.set_cons_zero, List.set_cons_succ]
                      refine skip_to 16 148 rfl (by kernel_rfl) (by kernel_rfl) (by kernel_rfl) (fun _ _ _ h => h) rfl (by rfl) hH ?_
                      simp only [Act.put, List.setIfInBounds_toArray, List.set_cons_zero, List.set_cons_succ]
                      refine skip_to 17 149 rfl (by kernel_rfl) (by kernel_rfl) (by kernel_rfl) (fun _ _ _ h => h) rfl (by rfl) hH ?_
                      simp only [Act.put, List.setIfInBounds_toArray, List.set_cons_zero, List.set_cons_succ]
                      refine skip_to 18 150 rfl (by kernel_rfl) (by kernel_rfl) (by kernel_rfl) (fun _ _ _ h => h) rfl (by rfl) hH ?_
                      simp only [Act.put, List.setIfInBounds_toArray, List.set_cons_zero, List.set_cons_succ]
                      refine skip_to 19 151 rfl (by kernel_rfl) (by kernel_rfl) (by kernel_rfl) (fun _ _ _ h => h) rfl (by rfl) hH ?_
                      simp only [Act.put, List.setIfInBounds_toArray, List.set_cons_zero, List.set_cons_succ]
                      refine take_to 20 152 (.bool false) rfl (by kernel_rfl) (by kernel_rfl) (by kernel_rfl) (fun _ _ _ h => h) rfl (by rfl) (fun w hw => by rfl) hH ?_
                      simp only [Act.put, List.setIfInBounds_toArray, List.set_cons_zero, List.set_cons_succ]
                      refine take_to 21 153 (.bool false) rfl (by kernel_rfl) (by kernel_rfl) (by kernel_rfl) (fun _ _ _ h => h) rfl (by rfl) (fun w hw => by rfl) hH ?_
                      simp only [Act.put, List.setIfInBounds_toArray, List.set_cons_zero, List.set_cons_succ]
                      refine wpAnyH_done (by kernel_rfl) ?_ _
                      clear hH

                      clear HE hx hv
                      go_wp2_with fail
                      go_roundw
                      case rel => exact ⟨m + 1, by omega, by go_num, HB.out.belowW (below_drewN _ _ 1)⟩
                      case measure => simp [intOf]; omega
                    · obtain ⟨hmw, hyp⟩ := HTO.out.resolve_left hev
                      have HE : Hid ((!decide (y = v)) = true) := by show _ = _; simp [hev]
                      have HWY : Hid (((m : Int) != wy) = false) := by show _ = _; rw [hmw]; simp
                      have HPL := hide (fun W => page_any 3 la W)
                      rw [← hyp] at HPL
                      clear HTO hmw hyp
                      refine wp_region_held_drew (S := fun w' => w'.heap[gx]? = some (.cells (secCells y).toArray 5 (0, 0)) ∧ w'.heap[w8.heap.size]? = some (.cells (secCells v).toArray 5 (0, 0))) (by kernel_rfl) ⟨hx, hv⟩ (fun hH => ?_)
                      refine take_to 0 132 (.int .i64 0) rfl (by kernel_rfl) (by kernel_rfl) (by kernel_rfl) (fun _ _ _ h => h) rfl (by rfl) (fun w hw => by rfl) hH ?_
                      simp only [Act.put, List.setIfInBounds_toArray, List.set_cons_zero, List.set_cons_succ]
                      refine take_to 1 133 (.bool false) rfl (by kernel_rfl) (by kernel_rfl) (by kernel_rfl) (fun _ _ _ h => h) rfl (by rfl) (fun w hw => op_neq24 _ _ (.tmp 132) _ 24 rfl _ _ rfl rfl _ (by rfl)) hH ?_
                      simp only [Act.put, List.setIfInBounds_toArray, List.set_cons_zero, List.set_cons_succ]
                      refine take_to 2 134 (.bool false) rfl (by kernel_rfl) (by kernel_rfl) (by kernel_rfl) (fun _ _ _ h => h) rfl (by rfl) (fun w hw => by rfl) hH ?_
                      simp only [Act.put, List.setIfInBounds_toArray, List.set_cons_zero, List.set_cons_succ]
                      refine take_to 3 135 (.slice (some ⟨gx, 0, none⟩) 512 512) rfl (by kernel_rfl) (by kernel_rfl) (by kernel_rfl) (fun _ _ _ h => h) rfl (by rfl) (fun w hw => by rfl) hH ?_
                      simp only [Act.put, List.setIfInBounds_toArray, List.set_cons_zero, List.set_cons_succ]
                      refine take_to 4 136 (.string (strOf y)) rfl (by kernel_rfl) (by kernel_rfl) (by kernel_rfl) (fun _ _ _ h => h) rfl (by rfl) (fun w hw => op_conv _ _ 31 9 (.tmp 135) rfl _ _ rfl (run_str w _ 512 512 _ HYL.out hw.1)) hH ?_
                      simp only [Act.put, List.setIfInBounds_toArray, List.set_cons_zero, List.set_cons_succ]
                      refine take_to 5 137 (.slice (some ⟨w8.heap.size, 0, none⟩) 512 512) rfl (by kernel_rfl) (by kernel_rfl) (by kernel_rfl) (fun _ _ _ h => h) rfl (by rfl) (fun w hw => by rfl) hH ?_
                      simp only [Act.put, List.setIfInBounds_toArray, List.set_cons_zero, List.set_cons_succ]
                      refine take_to 6 138 (.string (strOf v)) rfl (by kernel_rfl) (by kernel_rfl) (by kernel_rfl) (fun _ _ _ h => h) rfl (by rfl) (fun w hw => op_conv _ _ 31 9 (.tmp 137) rfl _ _ rfl (run_str w _ 512 512 _ HVL.out hw.2)) hH ?_
                      simp only [Act.put, List.setIfInBounds_toArray, List.set_cons_zero, List.set_cons_succ]
                      refine take_to 7 139 (.bool true) rfl (by kernel_rfl) (by kernel_rfl) (by kernel_rfl) (fun _ _ _ h => h) rfl (by rfl) (fun w hw => op_neqstrB _ _ (.tmp 136) (.tmp 138) 9 rfl y v rfl rfl _ HE.out) hH ?_
                      simp only [Act.put, List.setIfInBounds_toArray, List.set_cons_zero, List.set_cons_succ]
                      refine take_to 8 140 (.bool true) rfl (by kernel_rfl) (by kernel_rfl) (by kernel_rfl) (fun _ _ _ h => h) rfl (by rfl) (fun w hw => by rfl) hH ?_
                      simp only [Act.put, List.setIfInBounds_toArray, List.set_cons_zero, List.set_cons_succ]
                      refine take_to 9 141 (.int .i64 (m : Int)) rfl (by kernel_rfl) (by kernel_rfl) (by kernel_rfl) (fun _ _ _ h => h) rfl (by rfl) (fun w hw => by rfl) hH ?_
                      simp only [Act.put, List.setIfInBounds_toArray, List.set_cons_zero, List.set_cons_succ]
                      refine take_to 10 142 (.int .i64 wy) rfl (by kernel_rfl) (by kernel_rfl) (by kernel_rfl) (fun _ _ _ h => h) rfl (by rfl) (fun w hw => by rfl) hH ?_
                      simp only [Act.put, List.setIfInBounds_toArray, List.set_cons_zero, List.set_cons_succ]
                      refine take_to 11 143 (.bool false) rfl (by kernel_rfl) (by kernel_rfl) (by kernel_rfl) (fun _ _ _ h => h) rfl (by rfl) (fun w hw => op_neq3 _ _ (.tmp 141) (.tmp 142) 3 rfl _ _ rfl rfl _ HWY.out) hH ?_
                      simp only [Act.put, List.setIfInBounds_toArray, List.set_cons_zero, List.set_cons_succ]
                      refine take_to 12 144 (.bool false) rfl (by kernel_rfl) (by kernel_rfl) (by kernel_rfl) (fun _ _ _ h => h) rfl (by rfl) (fun w hw => by rfl) hH ?_
                      simp only [Act.put, List.setIfInBounds_toArray, List.set_cons_zero, List.set_cons_succ]
                      refine take_to 13 145 (.slice (some ⟨gx, 0, none⟩) 512 512) rfl (by kernel_rfl) (by kernel_rfl) (by kernel_rfl) (fun _ _ _ h => h) rfl (by rfl) (fun w hw => by rfl) hH ?_
                      simp only [Act.put, List.setIfInBounds_toArray, List.set_cons_zero, List.set_cons_succ]
                      refine take_to 14 146 (.string (strOf y)) rfl (by kernel_rfl) (by kernel_rfl) (by kernel_rfl) (fun _ _ _ h => h) rfl (by rfl) (fun w hw => op_conv _ _ 31 9 (.tmp 145) rfl _ _ rfl (run_str w _ 512 512 _ HYL.out hw.1)) hH ?_
                      simp only [Act.put, List.setIfInBounds_toArray, List.set_cons_zero, List.set_cons_succ]
                      refine take_to 15 147 (.int .i64 la) rfl (by kernel_rfl) (by kernel_rfl) (by kernel_rfl) (fun _ _ _ h => h) rfl (by rfl) (fun w hw => by rfl) hH ?_
                      simp only [Act.put, List.setIfInBounds_toArray, List.set_cons_zero, List.set_cons_succ]
                      refine step_call2_to 16 148 8 rfl (by kernel_rfl) rfl (by rfl) (.const (.int .i64 3)) (.tmp 147) _ rfl _ _ rfl rfl Try.enters8 (HPL.out _) ?_
                      rintro e wz ⟨rfl, hgz, hbz⟩
                      have hSz : wz.heap[gx]? = some (.cells (secCells y).toArray 5 (0, 0)) ∧ wz.heap[w8.heap.size]? = some (.cells (secCells v).toArray 5 (0, 0)) := ⟨(hbz.block _ (Array.getElem?_eq_some_iff.1 hx).1).trans hx, (hbz.block _ (Array.getElem?_eq_some_iff.1 hv).1).trans hv⟩
                      refine ⟨_, rfl, hSz, ?_⟩
                      simp only [Act.put, List.setIfInBounds_toArray, List.set_cons_zero, List.set_cons_succ]
                      refine step_to 17 149 (.string (strOf y)) wz rfl (by kernel_rfl) rfl (by rfl) (op_conv _ _ 31 9 (.tmp 148) rfl _ _ rfl (run_str wz _ 512 512 _ HYL.out hgz)) hSz ?_
                      simp only [Act.put, List.setIfInBounds_toArray, List.set_cons_zero, List.set_cons_succ]
                      refine step_to 18 150 (.bool false) wz rfl (by kernel_rfl) rfl (by rfl) (op_neqstrY _ _ (.tmp 146) (.tmp 149) 9 rfl _ rfl rfl) hSz ?_
                      simp only [Act.put, List.setIfInBounds_toArray, List.set_cons_zero, List.set_cons_succ]
                      refine step_to 19 151 (.bool false) wz rfl (by kernel_rfl) rfl (by rfl) (rfl) hSz ?_
                      simp only [Act.put, List.setIfInBounds_toArray, List.set_cons_zero, List.set_cons_succ]
                      refine step_to 20 152 (.bool false) wz rfl (by kernel_rfl) rfl (by rfl) (rfl) hSz ?_
                      simp only [Act.put, List.setIfInBounds_toArray, List.set_cons_zero, List.set_cons_succ]
                      refine step_to 21 153 (.bool false) wz rfl (by kernel_rfl) rfl (by rfl) (rfl) hSz ?_
                      simp only [Act.put, List.setIfInBounds_toArray, List.set_cons_zero, List.set_cons_succ]
                      refine wpAnyH_done (by kernel_rfl) ?_ _
                      have HBz := hide (HB.out.belowW ((below_drewN w9.heap.size w9 1).trans hbz))
                      clear hH hSz hgz hbz

                      clear HE hx hv HWY HPL
                      go_wp2_with fail
                      go_roundw
                      case rel => exact ⟨m + 1, by omega, by go_num, HBz.out⟩
                      case measure => simp [intOf]; omega

                  · have hwant : want3 Z m = zerosN 512 := by unfold want3; rw [if_neg hpos]
                    rw [← hwant] at hz8
                    have hx := hgx8
                    have hv := hz8
                    have HB := hide hB8
                    clear hwant hB8 hgx8 hb8 hz8
                    generalize Z.getD m 0 = zz at *
                    have HTO := hide (hT m hm6)
                    have HVL := hide (length_want3 Z m)
                    have HYL := hide hyl
                    obtain ⟨y, hy⟩ : ∃ y, Y m = y := ⟨_, rfl⟩
                    obtain ⟨v, hvv⟩ : ∃ v, want3 Z m = v := ⟨_, rfl⟩
                    rw [hy] at hx HTO HYL
                    rw [hvv] at hv HTO HVL
                    clear hy hvv hyl
                    go_wp2
                    by_cases hev : y = v
                    · have HE : Hid ((!decide (y = v)) = false) := by show _ = _; simp [hev]
                      clear HTO
                      refine wp_region_held_drew (S := fun w' => w'.heap[gx]? = some (.cells (secCells y).toArray 5 (0, 0)) ∧ w'.heap[w7.heap.size]? = some (.cells (secCells v).toArray 5 (0, 0))) (by kernel_rfl) ⟨hx, hv⟩ (fun hH => ?_)
                      refine take_to 0 132 (.int .i64 0) rfl (by kernel_rfl) (by kernel_rfl) (by kernel_rfl) (fun _ _ _ h => h) rfl (by rfl) (fun w hw => by rfl) hH ?_
                      simp only [Act.put, List.setIfInBounds_toArray, List.set_cons_zero, List.set_cons_succ]
                      refine take_to 1 133 (.bool false) rfl (by kernel_rfl) (by kernel_rfl) (by kernel_rfl) (fun _ _ _ h => h) rfl (by rfl) (fun w hw => op_neq24 _ _ (.tmp 132) _ 24 rfl _ _ rfl rfl _ (by rfl)) hH ?_
                      simp only [Act.put, List.setIfInBounds_toArray, List.set_cons_zero, List.set_cons_succ]
                      refine take_to 2 134 (.bool false) rfl (by kernel_rfl) (by kernel_rfl) (by kernel_rfl) (fun _ _ _ h => h) rfl (by rfl) (fun w hw => by rfl) hH ?_
                      simp only [Act.put, List.setIfInBounds_toArray, List.set_cons_zero, List.set_cons_succ]
                      refine take_to 3 135 (.slice (some ⟨gx, 0, none⟩) 512 512) rfl (by kernel_rfl) (by kernel_rfl) (by kernel_rfl) (fun _ _ _ h => h) rfl (by rfl) (fun w hw => by rfl) hH ?_
                      simp only [Act.put, List.setIfInBounds_toArray, List.set_cons_zero, List.set_cons_succ]
                      refine take_to 4 136 (.string (strOf y)) rfl (by kernel_rfl) (by kernel_rfl) (by kernel_rfl) (fun _ _ _ h => h) rfl (by rfl) (fun w hw => op_conv _ _ 31 9 (.tmp 135) rfl _ _ rfl (run_str w _ 512 512 _ HYL.out hw.1)) hH ?_
                      simp only [Act.put, List.setIfInBounds_toArray, List.set_cons_zero, List.set_cons_succ]
                      refine take_to 5 137 (.slice (some ⟨w7.heap.size, 0, none⟩) 512 512) rfl (by kernel_rfl) (by kernel_rfl) (by kernel_rfl) (fun _ _ _ h => h) rfl (by rfl) (fun w hw => by rfl) hH ?_
                      simp only [Act.put, List.setIfInBounds_toArray, List.set_cons_zero, List.set_cons_succ]
                      refine take_to 6 138 (.string (strOf v)) rfl (by kernel_rfl) (by kernel_rfl) (by kernel_rfl) (fun _ _ _ h => h) rfl (by rfl) (fun w hw => op_conv _ _ 31 9 (.tmp 137) rfl _ _ rfl (run_str w _ 512 512 _ HVL.out hw.2)) hH ?_
                      simp only [Act.put, List.setIfInBounds_toArray, List.set_cons_zero, List.set_cons_succ]
                      refine take_to 7 139 (.bool false) rfl (by kernel_rfl) (by kernel_rfl) (by kernel_rfl) (fun _ _ _ h => h) rfl (by rfl) (fun w hw => op_neqstrB _ _ (.tmp 136) (.tmp 138) 9 rfl y v rfl rfl _ HE.out) hH ?_
                      simp only [Act.put, List.setIfInBounds_toArray, List.set_cons_zero, List.set_cons_succ]
                      refine take_to 8 140 (.bool false) rfl (by kernel_rfl) (by kernel_rfl) (by kernel_rfl) (fun _ _ _ h => h) rfl (by rfl) (fun w hw => by rfl) hH ?_
                      simp only [Act.put, List.setIfInBounds_toArray, List.set_cons_zero, List.set_cons_succ]
                      refine skip_to 9 141 rfl (by kernel_rfl) (by kernel_rfl) (by kernel_rfl) (fun _ _ _ h => h) rfl (by rfl) hH ?_
                      simp only [Act.put, List.setIfInBounds_toArray, List.set_cons_zero, List.set_cons_succ]
                      refine skip_to 10 142 rfl (by kernel_rfl) (by kernel_rfl) (by kernel_rfl) (fun _ _ _ h => h) rfl (by rfl) hH ?_
                      simp only [Act.put, List.setIfInBounds_toArray, List.set_cons_zero, List.set_cons_succ]
                      refine skip_to 11 143 rfl (by kernel_rfl) (by kernel_rfl) (by kernel_rfl) (fun _ _ _ h => h) rfl (by rfl) hH ?_
                      simp only [Act.put, List.setIfInBounds_toArray, List.set_cons_zero, List.set_cons_succ]
                      refine skip_to 12 144 rfl (by kernel_rfl) (by kernel_rfl) (by kernel_rfl) (fun _ _ _ h => h) rfl (by rfl) hH ?_
                      simp only [Act.put, List.setIfInBounds_toArray, List.set_cons_zero, List.set_cons_succ]
                      refine skip_to 13 145 rfl (by kernel_rfl) (by kernel_rfl) (by kernel_rfl) (fun _ _ _ h => h) rfl (by rfl) hH ?_
                      simp only [Act.put, List.setIfInBounds_toArray, List.set_cons_zero, List.set_cons_succ]
                      refine skip_to 14 146 rfl (by kernel_rfl) (by kernel_rfl) (by kernel_rfl) (fun _ _ _ h => h) rfl (by rfl) hH ?_
                      simp only [Act.put, List.setIfInBounds_toArray, List.set_cons_zero, List.set_cons_succ]
                      refine skip_to 15 147 rfl (by kernel_rfl) (by kernel_rfl) (by kernel_rfl) (fun _ _ _ h => h) rfl (by rfl) hH ?_
                      simp only [Act.put, List.setIfInBounds_toArray, List.set_cons_zero, List.set_cons_succ]
                      refine skip_to 16 148 rfl (by kernel_rfl) (by kernel_rfl) (by kernel_rfl) (fun _ _ _ h => h) rfl (by rfl) hH ?_
                      simp only [Act.put, List.setIfInBounds_toArray, List.set_cons_zero, List.set_cons_succ]
                      refine skip_to 17 149 rfl (by kernel_rfl) (by kernel_rfl) (by kernel_rfl) (fun _ _ _ h => h) rfl (by rfl) hH ?_
                      simp only [Act.put, List.setIfInBounds_toArray, List.set_cons_zero, List.set_cons_succ]
                      refine skip_to 18 150 rfl (by kernel_rfl) (by kernel_rfl) (by kernel_rfl) (fun _ _ _ h => h) rfl (by rfl) hH ?_
                      simp only [Act.put, List.setIfInBounds_toArray, List.set_cons_zero, List.set_cons_succ]
                      refine skip_to 19 151 rfl (by kernel_rfl) (by kernel_rfl) (by kernel_rfl) (fun _ _ _ h => h) rfl (by rfl) hH ?_
                      simp only [Act.put, List.setIfInBounds_toArray, List.set_cons_zero, List.set_cons_succ]
                      refine take_to 20 152 (.bool false) rfl (by kernel_rfl) (by kernel_rfl) (by kernel_rfl) (fun _ _ _ h => h) rfl (by rfl) (fun w hw => by rfl) hH ?_
                      simp only [Act.put, List.setIfInBounds_toArray, List.set_cons_zero, List.set_cons_succ]
                      refine take_to 21 153 (.bool false) rfl (by kernel_rfl) (by kernel_rfl) (by kernel_rfl) (fun _ _ _ h => h) rfl (by rfl) (fun w hw => by rfl) hH ?_
                      simp only [Act.put, List.setIfInBounds_toArray, List.set_cons_zero, List.set_cons_succ]
                      refine wpAnyH_done (by kernel_rfl) ?_ _
                      clear hH

                      clear HE hx hv
                      go_wp2_with fail
                      go_roundw
                      case rel => exact ⟨m + 1, by omega, by go_num, HB.out.belowW (below_drewN _ _ 1)⟩
                      case measure => simp [intOf]; omega
                    · obtain ⟨hmw, hyp⟩ := HTO.out.resolve_left hev
                      have HE : Hid ((!decide (y = v)) = true) := by show _ = _; simp [hev]
                      have HWY : Hid (((m : Int) != wy) = false) := by show _ = _; rw [hmw]; simp
                      have HPL := hide (fun W => page_any 3 la W)
                      rw [← hyp] at HPL
                      clear HTO hmw hyp
                      refine wp_region_held_drew (S := fun w' => w'.heap[gx]? = some (.cells (secCells y).toArray 5 (0, 0)) ∧ w'.heap[w7.heap.size]? = some (.cells (secCells v).toArray 5 (0, 0))) (by kernel_rfl) ⟨hx, hv⟩ (fun hH => ?_)
                      refine take_to 0 132 (.int .i64 0) rfl (by kernel_rfl) (by kernel_rfl) (by kernel_rfl) (fun _ _ _ h => h) rfl (by rfl) (fun w hw => by rfl) hH ?_
                      simp only [Act.put, List.setIfInBounds_toArray, List.set_cons_zero, List.set_cons_succ]
                      refine take_to 1 133 (.bool false) rfl (by kernel_rfl) (by kernel_rfl) (by kernel_rfl) (fun _ _ _ h => h) rfl (by rfl) (fun w hw => op_neq24 _ _ (.tmp 132) _ 24 rfl _ _ rfl rfl _ (by rfl)) hH ?_
                      simp only [Act.put, List.setIfInBounds_toArray, List.set_cons_zero, List.set_cons_succ]
                      refine take_to 2 134 (.bool false) rfl (by kernel_rfl) (by kernel_rfl) (by kernel_rfl) (fun _ _ _ h => h) rfl (by rfl) (fun w hw => by rfl) hH ?_
                      simp only [Act.put, List.setIfInBounds_toArray, List.set_cons_zero, List.set_cons_succ]
                      refine take_to 3 135 (.slice (some ⟨gx, 0, none⟩) 512 512) rfl (by kernel_rfl) (by kernel_rfl) (by kernel_rfl) (fun _ _ _ h => h) rfl (by rfl) (fun w hw => by rfl) hH ?_
                      simp only [Act.put, List.setIfInBounds_toArray, List.set_cons_zero, List.set_cons_succ]
                      refine take_to 4 136 (.string (strOf y)) rfl (by kernel_rfl) (by kernel_rfl) (by kernel_rfl) (fun _ _ _ h => h) rfl (by rfl) (fun w hw => op_conv _ _ 31 9 (.tmp 135) rfl _ _ rfl (run_str w _ 512 512 _ HYL.out hw.1)) hH ?_
                      simp only [Act.put, List.setIfInBounds_toArray, List.set_cons_zero, List.set_cons_succ]
                      refine take_to 5 137 (.slice (some ⟨w7.heap.size, 0, none⟩) 512 512) rfl (by kernel_rfl) (by kernel_rfl) (by kernel_rfl) (fun _ _ _ h => h) rfl (by rfl) (fun w hw => by rfl) hH ?_
                      simp only [Act.put, List.setIfInBounds_toArray, List.set_cons_zero, List.set_cons_succ]
                      refine take_to 6 138 (.string (strOf v)) rfl (by kernel_rfl) (by kernel_rfl) (by kernel_rfl) (fun _ _ _ h => h) rfl (by rfl) (fun w hw => op_conv _ _ 31 9 (.tmp 137) rfl _ _ rfl (run_str w _ 512 512 _ HVL.out hw.2)) hH ?_
                      simp only [Act.put, List.setIfInBounds_toArray, List.set_cons_zero, List.set_cons_succ]
                      refine take_to 7 139 (.bool true) rfl (by kernel_rfl) (by kernel_rfl) (by kernel_rfl) (fun _ _ _ h => h) rfl (by rfl) (fun w hw => op_neqstrB _ _ (.tmp 136) (.tmp 138) 9 rfl y v rfl rfl _ HE.out) hH ?_
                      simp only [Act.put, List.setIfInBounds_toArray, List.set_cons_zero, List.set_cons_succ]
                      refine take_to 8 140 (.bool true) rfl (by kernel_rfl) (by kernel_rfl) (by kernel_rfl) (fun _ _ _ h => h) rfl (by rfl) (fun w hw => by rfl) hH ?_
                      simp only [Act.put, List.setIfInBounds_toArray, List.set_cons_zero, List.set_cons_succ]
                      refine take_to 9 141 (.int .i64 (m : Int)) rfl (by kernel_rfl) (by kernel_rfl) (by kernel_rfl) (fun _ _ _ h => h) rfl (by rfl) (fun w hw => by rfl) hH ?_
                      simp only [Act.put, List.setIfInBounds_toArray, List.set_cons_zero, List.set_cons_succ]
                      refine take_to 10 142 (.int .i64 wy) rfl (by kernel_rfl) (by kernel_rfl) (by kernel_rfl) (fun _ _ _ h => h) rfl (by rfl) (fun w hw => by rfl) hH ?_
                      simp only [Act.put, List.setIfInBounds_toArray, List.set_cons_zero, List.set_cons_succ]
                      refine take_to 11 143 (.bool false) rfl (by kernel_rfl) (by kernel_rfl) (by kernel_rfl) (fun _ _ _ h => h) rfl (by rfl) (fun w hw => op_neq3 _ _ (.tmp 141) (.tmp 142) 3 rfl _ _ rfl rfl _ HWY.out) hH ?_
                      simp only [Act.put, List.setIfInBounds_toArray, List.set_cons_zero, List.set_cons_succ]
                      refine take_to 12 144 (.bool false) rfl (by kernel_rfl) (by kernel_rfl) (by kernel_rfl) (fun _ _ _ h => h) rfl (by rfl) (fun w hw => by rfl) hH ?_
                      simp only [Act.put, List.setIfInBounds_toArray, List.set_cons_zero, List.set_cons_succ]
                      refine take_to 13 145 (.slice (some ⟨gx, 0, none⟩) 512 512) rfl (by kernel_rfl) (by kernel_rfl) (by kernel_rfl) (fun _ _ _ h => h) rfl (by rfl) (fun w hw => by rfl) hH ?_
                      simp only [Act.put, List.setIfInBounds_toArray, List.set_cons_zero, List.set_cons_succ]
                      refine take_to 14 146 (.string (strOf y)) rfl (by kernel_rfl) (by kernel_rfl) (by kernel_rfl) (fun _ _ _ h => h) rfl (by rfl) (fun w hw => op_conv _ _ 31 9 (.tmp 145) rfl _ _ rfl (run_str w _ 512 512 _ HYL.out hw.1)) hH ?_
                      simp only [Act.put, List.setIfInBounds_toArray, List.set_cons_zero, List.set_cons_succ]
                      refine take_to 15 147 (.int .i64 la) rfl (by kernel_rfl) (by kernel_rfl) (by kernel_rfl) (fun _ _ _ h => h) rfl (by rfl) (fun w hw => by rfl) hH ?_
                      simp only [Act.put, List.setIfInBounds_toArray, List.set_cons_zero, List.set_cons_succ]
                      refine step_call2_to 16 148 8 rfl (by kernel_rfl) rfl (by rfl) (.const (.int .i64 3)) (.tmp 147) _ rfl _ _ rfl rfl Try.enters8 (HPL.out _) ?_
                      rintro e wz ⟨rfl, hgz, hbz⟩
                      have hSz : wz.heap[gx]? = some (.cells (secCells y).toArray 5 (0, 0)) ∧ wz.heap[w7.heap.size]? = some (.cells (secCells v).toArray 5 (0, 0)) := ⟨(hbz.block _ (Array.getElem?_eq_some_iff.1 hx).1).trans hx, (hbz.block _ (Array.getElem?_eq_some_iff.1 hv).1).trans hv⟩
                      refine ⟨_, rfl, hSz, ?_⟩
                      simp only [Act.put, List.setIfInBounds_toArray, List.set_cons_zero, List.set_cons_succ]
                      refine step_to 17 149 (.string (strOf y)) wz rfl (by kernel_rfl) rfl (by rfl) (op_conv _ _ 31 9 (.tmp 148) rfl _ _ rfl (run_str wz _ 512 512 _ HYL.out hgz)) hSz ?_
                      simp only [Act.put, List.setIfInBounds_toArray, List.set_cons_zero, List.set_cons_succ]
                      refine step_to 18 150 (.bool false) wz rfl (by kernel_rfl) rfl (by rfl) (op_neqstrY _ _ (.tmp 146) (.tmp 149) 9 rfl _ rfl rfl) hSz ?_
                      simp only [Act.put, List.setIfInBounds_toArray, List.set_cons_zero, List.set_cons_succ]
                      refine step_to 19 151 (.bool false) wz rfl (by kernel_rfl) rfl (by rfl) (rfl) hSz ?_
                      simp only [Act.put, List.setIfInBounds_toArray, List.set_cons_zero, List.set_cons_succ]
                      refine step_to 20 152 (.bool false) wz rfl (by kernel_rfl) rfl (by rfl) (rfl) hSz ?_
                      simp only [Act.put, List.setIfInBounds_toArray, List.set_cons_zero, List.set_cons_succ]
                      refine step_to 21 153 (.bool false) wz rfl (by kernel_rfl) rfl (by rfl) (rfl) hSz ?_
                      simp only [Act.put, List.setIfInBounds_toArray, List.set_cons_zero, List.set_cons_succ]
                      refine wpAnyH_done (by kernel_rfl) ?_ _
                      have HBz := hide (HB.out.belowW ((below_drewN w8.heap.size w8 1).trans hbz))
                      clear hH hSz hgz hbz

                      clear HE hx hv HWY HPL
                      go_wp2_with fail
                      go_roundw
                      case rel => exact ⟨m + 1, by omega, by go_num, HBz.out⟩
                      case measure => simp [intOf]; omega

                · have HAW := hide (awake_true wr)
                  go_wp2_with (first | (go_at_call 12; refine HAW.out.mono ?_; rintro e w' ⟨rfl, hbw⟩))
                  go_ret
                  exact ⟨rfl, HB.out.below.trans (hbw.mono HB.out.below.size)⟩

            · obtain ⟨Y, hT, hOL⟩ := c_openLast HC.out
              have HOL := hide hOL
              clear hOL HC W2 W3
              go_wp2_with fail
              refine HOL.out.mono ?_
              rintro e w6 ⟨q2, rfl, hR⟩
              have HR := hide hR
              clear hR HOL
              go_wp2_with fail
              go_loopw [21] (fun j wx => ∃ m : Nat, m ≤ 6 ∧ j = .int .i64 m ∧ RAt w wx q2 p gi Z Y) (fun j _ => 7 - (intOf j).toNat)
              case atStart => exact ⟨0, by omega, rfl, HR.out⟩
              case round =>
                clear HR
                obtain ⟨m, hm, rfl, hB⟩ := hrel
                have HB := hide hB
                clear hB
                by_cases hm6 : m < 6
                · have HRD := hide (r_read HB.out m hm6)
                  clear HB
                  go_wp2_with fail
                  refine HRD.out.mono ?_
                  rintro e w7 ⟨gx, rfl, hgx, hyl, hB7⟩
                  clear HRD
                  have hb8 : Below w7.heap.size w7 (w7.alloc (.cells (secCells (zerosN 512)).toArray 5)) := (Below.refl _ _).alloc (Nat.le_refl _) _
                  have hz8 : (w7.alloc (.cells (secCells (zerosN 512)).toArray 5)).heap[w7.heap.size]? = some (.cells (secCells (zerosN 512)).toArray 5 (0, 0)) := heap_alloc_new _ _
                  have hgx8 := (hb8.block gx (Array.getElem?_eq_some_iff.1 hgx).1).trans hgx
                  have hB8 := hB7.belowW hb8
                  obtain ⟨w8, hw8⟩ : ∃ w8, w7.alloc (.cells (secCells (zerosN 512)).toArray 5) = w8 := ⟨_, rfl⟩
                  have hmk : (Instr.makeSlice 31 (.int .i64 512) (.int .i64 512)).run Try.prog w7 = .ok (.slice (some ⟨w7.heap.size, 0, none⟩) 512 512) w8 := by rw [← hw8]; exact makeN 512 (by omega) w7
                  rw [hw8] at hb8 hz8 hgx8 hB8
                  clear hw8 hgx hB7
                  have c8 := hB8.own.cell m (by rw [HSX.out]; exact hm6)
                  by_cases hpos : 0 < Z.getD m 0
                  · have hwant : want3 Z m = pg 3 (Z.getD m 0) := by unfold want3; rw [if_pos hpos]
                    have HW := hide hwant
                    have HB8 := hide hB8
                    have HG8 := hide hgx8
                    clear hwant hB8 hgx8 hb8 hz8
                    generalize Z.getD m 0 = zz at *
                    go_wp2_with fail
                    refine (page_any 3 zz w8).mono ?_
                    rintro e w9 ⟨rfl, hv, hb9⟩
                    rw [← HW.out] at hv
                    have hx := (hb9.block gx (Array.getElem?_eq_some_iff.1 HG8.out).1).trans HG8.out
                    have HB := hide (HB8.out.belowW hb9)
                    clear hb9 HG8 HW c8 HB8 hmk
                    have HTO := hide (hT m hm6)
                    have HVL := hide (length_want3 Z m)
                    have HYL := hide hyl
                    obtain ⟨y, hy⟩ : ∃ y, Y m = y := ⟨_, rfl⟩
                    obtain ⟨v, hvv⟩ : ∃ v, want3 Z m = v := ⟨_, rfl⟩
                    rw [hy] at hx HTO HYL
                    rw [hvv] at hv HTO HVL
                    clear hy hvv hyl
                    go_wp2
                    by_cases hev : y = v
                    · have HE : Hid ((!decide (y = v)) = false) := by show _ = _; simp [hev]
                      clear HTO
                      refine wp_region_held_drew (S := fun w' => w'.heap[gx]? = some (.cells (secCells y).toArray 5 (0, 0)) ∧ w'.heap[w8.heap.size]? = some (.cells (secCells v).toArray 5 (0, 0))) (by kernel_rfl) ⟨hx, hv⟩ (fun hH => ?_)
                      refine take_to 0 132 (.int .i64 0) rfl (by kernel_rfl) (by kernel_rfl) (by kernel_rfl) (fun _ _ _ h => h) rfl (by rfl) (fun w hw => by rfl) hH ?_
                      simp only [Act.put, List.setIfInBounds_toArray, List.set_cons_zero, List.set_cons_succ]
                      refine take_to 1 133 (.bool false) rfl (by kernel_rfl) (by kernel_rfl) (by kernel_rfl) (fun _ _ _ h => h) rfl (by rfl) (fun w hw => op_neq24 _ _ (.tmp 132) _ 24 rfl _ _ rfl rfl _ (by rfl)) hH ?_
                      simp only [Act.put, List.setIfInBounds_toArray, List.set_cons_zero, List.set_cons_succ]
                      refine take_to 2 134 (.bool false) rfl (by kernel_rfl) (by kernel_rfl) (by kernel_rfl) (fun _ _ _ h => h) rfl (by rfl) (fun w hw => by rfl) hH ?_
                      simp only [Act.put, List.setIfInBounds_toArray, List.set_cons_zero, List.set_cons_succ]
                      refine take_to 3 135 (.slice (some ⟨gx, 0, none⟩) 512 512) rfl (by kernel_rfl) (by kernel_rfl) (by kernel_rfl) (fun _ _ _ h => h) rfl (by rfl) (fun w hw => by rfl) hH ?_
                      simp only [Act.put, List.setIfInBounds_toArray, List.set_cons_zero, List.set_cons_succ]
                      refine take_to 4 136 (.string (strOf y)) rfl (by kernel_rfl) (by kernel_rfl) (by kernel_rfl) (fun _ _ _ h => h) rfl (by rfl) (fun w hw => op_conv _ _ 31 9 (.tmp 135) rfl _ _ rfl (run_str w _ 512 512 _ HYL.out hw.1)) hH ?_
                      simp only [Act.put, List.setIfInBounds_toArray, List.set_cons_zero, List.set_cons_succ]
                      refine take_to 5 137 (.slice (some ⟨w8.heap.size, 0, none⟩) 512 512) rfl (by kernel_rfl) (by kernel_rfl) (by kernel_rfl) (fun _ _ _ h => h) rfl (by rfl) (fun w hw => by rfl) hH ?_
                      simp only [Act.put, List.setIfInBounds_toArray, List.set_cons_zero, List.set_cons_succ]
                      refine take_to 6 138 (.string (strOf v)) rfl (by kernel_rfl) (by kernel_rfl) (by kernel_rfl) (fun _ _ _ h => h) rfl (by rfl) (fun w hw => op_conv _ _ 31 9 (.tmp 137) rfl _ _ rfl (run_str w _ 512 512 _ HVL.out hw.2)) hH ?_
                      simp only [Act.put, List.setIfInBounds_toArray, List.set_cons_zero, List.set_cons_succ]
                      refine take_to 7 139 (.bool false) rfl (by kernel_rfl) (by kernel_rfl) (by kernel_rfl) (fun _ _ _ h => h) rfl (by rfl) (fun w hw => op_neqstrB _ _ (.tmp 136) (.tmp 138) 9 rfl y v rfl rfl _ HE.out) hH ?_
                      simp only [Act.put, List.setIfInBounds_toArray, List.set_cons_zero, List.set_cons_succ]
                      refine take_to 8 140 (.bool false) rfl (by kernel_rfl) (by kernel_rfl) (by kernel_rfl) (fun _ _ _ h => h) rfl (by rfl) (fun w hw => by rfl) hH ?_
                      simp only [Act.put, List.setIfInBounds_toArray, List.set_cons_zero, List.set_cons_succ]
                      refine skip_to 9 141 rfl (by kernel_rfl) (by kernel_rfl) (by kernel_rfl) (fun _ _ _ h => h) rfl (by rfl) hH ?_
                      simp only [Act.put, List.setIfInBounds_toArray, List.set_cons_zero, List.set_cons_succ]
                      refine skip_to 10 142 rfl (by kernel_rfl) (by kernel_rfl) (by kernel_rfl) (fun _ _ _ h => h) rfl (by rfl) hH ?_
                      simp only [Act.put, List.setIfInBounds_toArray, List.set_cons_zero, List.set_cons_succ]
                      refine skip_to 11 143 rfl (by kernel_rfl) (by kernel_rfl) (by kernel_rfl) (fun _ _ _ h => h) rfl (by rfl) hH ?_
                      simp only [Act.put, List.setIfInBounds_toArray, List.set_cons_zero, List.set_cons_succ]
                      refine skip_to 12 144 rfl (by kernel_rfl) (by kernel_rfl) (by kernel_rfl) (fun _ _ _ h => h) rfl (by rfl) hH ?_
                      simp only [Act.put, List.setIfInBounds_toArray, List.set_cons_zero, List.set_cons_succ]
                      refine skip_to 13 145 rfl (by kernel_rfl) (by kernel_rfl) (by kernel_rfl) (fun _ _ _ h => h) rfl (by rfl) hH ?_
                      simp only [Act.put, List.setIfInBounds_toArray, List.set_cons_zero, List.set_cons_succ]
                      refine skip_to 14 146 rfl (by kernel_rfl) (by kernel_rfl) (by kernel_rfl) (fun _ _ _ h => h) rfl (by rfl) hH ?_
                      simp only [Act.put, List.setIfInBounds_toArray, List.set_cons_zero, List.set_cons_succ]
                      refine skip_to 15 147 rfl (by kernel_rfl) (by kernel_rfl) (by kernel_rfl) (fun _ _ _ h => h) rfl (by rfl) hH ?_
                      simp only [Act.put, List.setIfInBounds_toArray, List.set_cons_zero, List.set_cons_succ]
                      refine skip_to 16 148 rfl (by kernel_rfl) (by kernel_rfl) (by kernel_rfl) (fun _ _ _ h => h) rfl (by rfl) hH ?_
                      simp only [Act.put, List.setIfInBounds_toArray, List.set_cons_zero, List.set_cons_succ]
                      refine skip_to 17 149 rfl (by kernel_rfl) (by kernel_rfl) (by kernel_rfl) (fun _ _ _ h => h) rfl (by rfl) hH ?_
                      simp only [Act.put, List.setIfInBounds_toArray, List.set_cons_zero, List.set_cons_succ]
                      refine skip_to 18 150 rfl (by kernel_rfl) (by kernel_rfl) (by kernel_rfl) (fun _ _ _ h => h) rfl (by rfl) hH ?_
                      simp only [Act.put, List.setIfInBounds_toArray, List.set_cons_zero, List.set_cons_succ]
                      refine skip_to 19 151 rfl (by kernel_rfl) (by kernel_rfl) (by kernel_rfl) (fun _ _ _ h => h) rfl (by rfl) hH ?_
                      simp only [Act.put, List.setIfInBounds_toArray, List.set_cons_zero, List.set_cons_succ]
                      refine take_to 20 152 (.bool false) rfl (by kernel_rfl) (by kernel_rfl) (by kernel_rfl) (fun _ _ _ h => h) rfl (by rfl) (fun w hw => by rfl) hH ?_
                      simp only [Act.put, List.setIfInBounds_toArray, List.set_cons_zero, List.set_cons_succ]
                      refine take_to 21 153 (.bool false) rfl (by kernel_rfl) (by kernel_rfl) (by kernel_rfl) (fun _ _ _ h => h) rfl (by rfl) (fun w hw => by rfl) hH ?_
                      simp only [Act.put, List.setIfInBounds_toArray, List.set_cons_zero, List.set_cons_succ]
                      refine wpAnyH_done (by kernel_rfl) ?_ _
                      clear hH

                      clear HE hx hv
                      go_wp2_with fail
                      go_roundw
                      case rel => exact ⟨m + 1, by omega, by go_num, HB.out.belowW (below_drewN _ _ 1)⟩
                      case measure => simp [intOf]; omega
                    · obtain ⟨hmw, hyp⟩ := HTO.out.resolve_left hev
                      have HE : Hid ((!decide (y = v)) = true) := by show _ = _; simp [hev]
                      have HWY : Hid (((m : Int) != wy) = false) := by show _ = _; rw [hmw]; simp
                      have HPL := hide (fun W => page_any 3 la W)
                      rw [← hyp] at HPL
                      clear HTO hmw hyp
                      refine wp_region_held_drew (S := fun w' => w'.heap[gx]? = some (.cells (secCells y).toArray 5 (0, 0)) ∧ w'.heap[w8.heap.size]? = some (.cells (secCells v).toArray 5 (0, 0))) (by kernel_rfl) ⟨hx, hv⟩ (fun hH => ?_)
                      refine take_to 0 132 (.int .i64 0) rfl (by kernel_rfl) (by kernel_rfl) (by kernel_rfl) (fun _ _ _ h => h) rfl (by rfl) (fun w hw => by rfl) hH ?_
                      simp only [Act.put, List.setIfInBounds_toArray, List.set_cons_zero, List.set_cons_succ]
                      refine take_to 1 133 (.bool false) rfl (by kernel_rfl) (by kernel_rfl) (by kernel_rfl) (fun _ _ _ h => h) rfl (by rfl) (fun w hw => op_neq24 _ _ (.tmp 132) _ 24 rfl _ _ rfl rfl _ (by rfl)) hH ?_
                      simp only [Act.put, List.setIfInBounds_toArray, List.set_cons_zero, List.set_cons_succ]
                      refine take_to 2 134 (.bool false) rfl (by kernel_rfl) (by kernel_rfl) (by kernel_rfl) (fun _ _ _ h => h) rfl (by rfl) (fun w hw => by rfl) hH ?_
                      simp only [Act.put, List.setIfInBounds_toArray, List.set_cons_zero, List.set_cons_succ]
                      refine take_to 3 135 (.slice (some ⟨gx, 0, none⟩) 512 512) rfl (by kernel_rfl) (by kernel_rfl) (by kernel_rfl) (fun _ _ _ h => h) rfl (by rfl) (fun w hw => by rfl) hH ?_
                      simp only [Act.put, List.setIfInBounds_toArray, List.set_cons_zero, List.set_cons_succ]
                      refine take_to 4 136 (.string (strOf y)) rfl (by kernel_rfl) (by kernel_rfl) (by kernel_rfl) (fun _ _ _ h => h) rfl (by rfl) (fun w hw => op_conv _ _ 31 9 (.tmp 135) rfl _ _ rfl (run_str w _ 512 512 _ HYL.out hw.1)) hH ?_
                      simp only [Act.put, List.setIfInBounds_toArray, List.set_cons_zero, List.set_cons_succ]
                      refine take_to 5 137 (.slice (some ⟨w8.heap.size, 0, none⟩) 512 512) rfl (by kernel_rfl) (by kernel_rfl) (by kernel_rfl) (fun _ _ _ h => h) rfl (by rfl) (fun w hw => by rfl) hH ?_
                      simp only [Act.put, List.setIfInBounds_toArray, List.set_cons_zero, List.set_cons_succ]
                      refine take_to 6 138 (.string (strOf v)) rfl (by kernel_rfl) (by kernel_rfl) (by kernel_rfl) (fun _ _ _ h => h) rfl (by rfl) (fun w hw => op_conv _ _ 31 9 (.tmp 137) rfl _ _ rfl (run_str w _ 512 512 _ HVL.out hw.2)) hH ?_
                      simp only [Act.put, List.setIfInBounds_toArray, List.set_cons_zero, List.set_cons_succ]
                      refine take_to 7 139 (.bool true) rfl (by kernel_rfl) (by kernel_rfl) (by kernel_rfl) (fun _ _ _ h => h) rfl (by rfl) (fun w hw => op_neqstrB _ _ (.tmp 136) (.tmp 138) 9 rfl y v rfl rfl _ HE.out) hH ?_
                      simp only [Act.put, List.setIfInBounds_toArray, List.set_cons_zero, List.set_cons_succ]
                      refine take_to 8 140 (.bool true) rfl (by kernel_rfl) (by kernel_rfl) (by kernel_rfl) (fun _ _ _ h => h) rfl (by rfl) (fun w hw => by rfl) hH ?_
                      simp only [Act.put, List.setIfInBounds_toArray, List.set_cons_zero, List.set_cons_succ]
                      refine take_to 9 141 (.int .i64 (m : Int)) rfl (by kernel_rfl) (by kernel_rfl) (by kernel_rfl) (fun _ _ _ h => h) rfl (by rfl) (fun w hw => by rfl) hH ?_
                      simp only [Act.put, List.setIfInBounds_toArray, List.set_cons_zero, List.set_cons_succ]
                      refine take_to 10 142 (.int .i64 wy) rfl (by kernel_rfl) (by kernel_rfl) (by kernel_rfl) (fun _ _ _ h => h) rfl (by rfl) (fun w hw => by rfl) hH ?_
                      simp only [Act.put, List.setIfInBounds_toArray, List.set_cons_zero, List.set_cons_succ]
                      refine take_to 11 143 (.bool false) rfl (by kernel_rfl) (by kernel_rfl) (by kernel_rfl) (fun _ _ _ h => h) rfl (by rfl) (fun w hw => op_neq3 _ _ (.tmp 141) (.tmp 142) 3 rfl _ _ rfl rfl _ HWY.out) hH ?_
                      simp only [Act.put, List.setIfInBounds_toArray, List.set_cons_zero, List.set_cons_succ]
                      refine take_to 12 144 (.bool false) rfl (by kernel_rfl) (by kernel_rfl) (by kernel_rfl) (fun _ _ _ h => h) rfl (by rfl) (fun w hw => by rfl) hH ?_
                      simp only [Act.put, List.setIfInBounds_toArray, List.set_cons_zero, List.set_cons_succ]
                      refine take_to 13 145 (.slice (some ⟨gx, 0, none⟩) 512 512) rfl (by kernel_rfl) (by kernel_rfl) (by kernel_rfl) (fun _ _ _ h => h) rfl (by rfl) (fun w hw => by rfl) hH ?_
                      simp only [Act.put, List.setIfInBounds_toArray, List.set_cons_zero, List.set_cons_succ]
                      refine take_to 14 146 (.string (strOf y)) rfl (by kernel_rfl) (by kernel_rfl) (by kernel_rfl) (fun _ _ _ h => h) rfl (by rfl) (fun w hw => op_conv _ _ 31 9 (.tmp 145) rfl _ _ rfl (run_str w _ 512 512 _ HYL.out hw.1)) hH ?_
                      simp only [Act.put, List.setIfInBounds_toArray, List.set_cons_zero, List.set_cons_succ]
                      refine take_to 15 147 (.int .i64 la) rfl (by kernel_rfl) (by kernel_rfl) (by kernel_rfl) (fun _ _ _ h => h) rfl (by rfl) (fun w hw => by rfl) hH ?_
                      simp only [Act.put, List.setIfInBounds_toArray, List.set_cons_zero, List.set_cons_succ]
                      refine step_call2_to 16 148 8 rfl (by kernel_rfl) rfl (by rfl) (.const (.int .i64 3)) (.tmp 147) _ rfl _ _ rfl rfl Try.enters8 (HPL.out _) ?_
                      rintro e wz ⟨rfl, hgz, hbz⟩
                      have hSz : wz.heap[gx]? = some (.cells (secCells y).toArray 5 (0, 0)) ∧ wz.heap[w8.heap.size]? = some (.cells (secCells v).toArray 5 (0, 0)) := ⟨(hbz.block _ (Array.getElem?_eq_some_iff.1 hx).1).trans hx, (hbz.block _ (Array.getElem?_eq_some_iff.1 hv).1).trans hv⟩
                      refine ⟨_, rfl, hSz, ?_⟩
                      simp only [Act.put, List.setIfInBounds_toArray, List.set_cons_zero, List.set_cons_succ]
                      refine step_to 17 149 (.string (strOf y)) wz rfl (by kernel_rfl) rfl (by rfl) (op_conv _ _ 31 9 (.tmp 148) rfl _ _ rfl (run_str wz _ 512 512 _ HYL.out hgz)) hSz ?_
                      simp only [Act.put, List.setIfInBounds_toArray, List.set_cons_zero, List.set_cons_succ]
                      refine step_to 18 150 (.bool false) wz rfl (by kernel_rfl) rfl (by rfl) (op_neqstrY _ _ (.tmp 146) (.tmp 149) 9 rfl _ rfl rfl) hSz ?_
                      simp only [Act.put, List.setIfInBounds_toArray, List.set_cons_zero, List.set_cons_succ]
                      refine step_to 19 151 (.bool false) wz rfl (by kernel_rfl) rfl (by rfl) (rfl) hSz ?_
                      simp only [Act.put, List.setIfInBounds_toArray, List.set_cons_zero, List.set_cons_succ]
                      refine step_to 20 152 (.bool false) wz rfl (by kernel_rfl) rfl (by rfl) (rfl) hSz ?_
                      simp only [Act.put, List.setIfInBounds_toArray, List.set_cons_zero, List.set_cons_succ]
                      refine step_to 21 153 (.bool false) wz rfl (by kernel_rfl) rfl (by rfl) (rfl) hSz ?_
                      simp only [Act.put, List.setIfInBounds_toArray, List.set_cons_zero, List.set_cons_succ]
                      refine wpAnyH_done (by kernel_rfl) ?_ _
                      have HBz := hide (HB.out.belowW ((below_drewN w9.heap.size w9 1).trans hbz))
                      clear hH hSz hgz hbz

                      clear HE hx hv HWY HPL
                      go_wp2_with fail
                      go_roundw
                      case rel => exact ⟨m + 1, by omega, by go_num, HBz.out⟩
                      case measure => simp [intOf]; omega

                  · have hwant : want3 Z m = zerosN 512 := by unfold want3; rw [if_neg hpos]
                    rw [← hwant] at hz8
                    have hx := hgx8
                    have hv := hz8
                    have HB := hide hB8
                    clear hwant hB8 hgx8 hb8 hz8
                    generalize Z.getD m 0 = zz at *
                    have HTO := hide (hT m hm6)
                    have HVL := hide (length_want3 Z m)
                    have HYL := hide hyl
                    obtain ⟨y, hy⟩ : ∃ y, Y m = y := ⟨_, rfl⟩
                    obtain ⟨v, hvv⟩ : ∃ v, want3 Z m = v := ⟨_, rfl⟩
                    rw [hy] at hx HTO HYL
                    rw [hvv] at hv HTO HVL
                    clear hy hvv hyl
                    go_wp2
                    by_cases hev : y = v
                    · have HE : Hid ((!decide (y = v)) = false) := by show _ = _; simp [hev]
                      clear HTO
                      refine wp_region_held_drew (S := fun w' => w'.heap[gx]? = some (.cells (secCells y).toArray 5 (0, 0)) ∧ w'.heap[w7.heap.size]? = some (.cells (secCells v).toArray 5 (0, 0))) (by kernel_rfl) ⟨hx, hv⟩ (fun hH => ?_)
                      refine take_to 0 132 (.int .i64 0) rfl (by kernel_rfl) (by kernel_rfl) (by kernel_rfl) (fun _ _ _ h => h) rfl (by rfl) (fun w hw => by rfl) hH ?_
                      simp only [Act.put, List.setIfInBounds_toArray, List.set_cons_zero, List.set_cons_succ]
                      refine take_to 1 133 (.bool false) rfl (by kernel_rfl) (by kernel_rfl) (by kernel_rfl) (fun _ _ _ h => h) rfl (by rfl) (fun w hw => op_neq24 _ _ (.tmp 132) _ 24 rfl _ _ rfl rfl _ (by rfl)) hH ?_
                      simp only [Act.put, List.setIfInBounds_toArray, List.set_cons_zero, List.set_cons_succ]
                      refine take_to 2 134 (.bool false) rfl (by kernel_rfl) (by kernel_rfl) (by kernel_rfl) (fun _ _ _ h => h) rfl (by rfl) (fun w hw => by rfl) hH ?_
                      simp only [Act.put, List.setIfInBounds_toArray, List.set_cons_zero, List.set_cons_succ]
                      refine take_to 3 135 (.slice (some ⟨gx, 0, none⟩) 512 512) rfl (by kernel_rfl) (by kernel_rfl) (by kernel_rfl) (fun _ _ _ h => h) rfl (by rfl) (fun w hw => by rfl) hH ?_
                      simp only [Act.put, List.setIfInBounds_toArray, List.set_cons_zero, List.set_cons_succ]
                      refine take_to 4 136 (.string (strOf y)) rfl (by kernel_rfl) (by kernel_rfl) (by kernel_rfl) (fun _ _ _ h => h) rfl (by rfl) (fun w hw => op_conv _ _ 31 9 (.tmp 135) rfl _ _ rfl (run_str w _ 512 512 _ HYL.out hw.1)) hH ?_
                      simp only [Act.put, List.setIfInBounds_toArray, List.set_cons_zero, List.set_cons_succ]
                      refine take_to 5 137 (.slice (some ⟨w7.heap.size, 0, none⟩) 512 512) rfl (by kernel_rfl) (by kernel_rfl) (by kernel_rfl) (fun _ _ _ h => h) rfl (by rfl) (fun w hw => by rfl) hH ?_
                      simp only [Act.put, List.setIfInBounds_toArray, List.set_cons_zero, List.set_cons_succ]
                      refine take_to 6 138 (.string (strOf v)) rfl (by kernel_rfl) (by kernel_rfl) (by kernel_rfl) (fun _ _ _ h => h) rfl (by rfl) (fun w hw => op_conv _ _ 31 9 (.tmp 137) rfl _ _ rfl (run_str w _ 512 512 _ HVL.out hw.2)) hH ?_
                      simp only [Act.put, List.setIfInBounds_toArray, List.set_cons_zero, List.set_cons_succ]
                      refine take_to 7 139 (.bool false) rfl (by kernel_rfl) (by kernel_rfl) (by kernel_rfl) (fun _ _ _ h => h) rfl (by rfl) (fun w hw => op_neqstrB _ _ (.tmp 136) (.tmp 138) 9 rfl y v rfl rfl _ HE.out) hH ?_
                      simp only [Act.put, List.setIfInBounds_toArray, List.set_cons_zero, List.set_cons_succ]
                      refine take_to 8 140 (.bool false) rfl (by kernel_rfl) (by kernel_rfl) (by kernel_rfl) (fun _ _ _ h => h) rfl (by rfl) (fun w hw => by rfl) hH ?_
                      simp only [Act.put, List.setIfInBounds_toArray, List.set_cons_zero, List.set_cons_succ]
                      refine skip_to 9 141 rfl (by kernel_rfl) (by kernel_rfl) (by kernel_rfl) (fun _ _ _ h => h) rfl (by rfl) hH ?_
                      simp only [Act.put, List.setIfInBounds_toArray, List.set_cons_zero, List.set_cons_succ]
                      refine skip_to 10 142 rfl (by kernel_rfl) (by kernel_rfl) (by kernel_rfl) (fun _ _ _ h => h) rfl (by rfl) hH ?_
                      simp only [Act.put, List.setIfInBounds_toArray, List.set_cons_zero, List.set_cons_succ]
                      refine skip_to 11 143 rfl (by kernel_rfl) (by kernel_rfl) (by kernel_rfl) (fun _ _ _ h => h) rfl (by rfl) hH ?_
                      simp only [Act.put, List.setIfInBounds_toArray, List.set_cons_zero, List.set_cons_succ]
                      refine skip_to 12 144 rfl (by kernel_rfl) (by kernel_rfl) (by kernel_rfl) (fun _ _ _ h => h) rfl (by rfl) hH ?_
                      simp only [Act.put, List.setIfInBounds_toArray, List.set_cons_zero, List.set_cons_succ]
                      refine skip_to 13 145 rfl (by kernel_rfl) (by kernel_rfl) (by kernel_rfl) (fun _ _ _ h => h) rfl (by rfl) hH ?_
                      simp only [Act.put, List.setIfInBounds_toArray, List.set_cons_zero, List.set_cons_succ]
                      refine skip_to 14 146 rfl (by kernel_rfl) (by kernel_rfl) (by kernel_rfl) (fun _ _ _ h => h) rfl (by rfl) hH ?_
                      simp only [Act.put, List.setIfInBounds_toArray, List.set_cons_zero, List.set_cons_succ]
                      refine skip_to 15 147 rfl (by kernel_rfl) (by kernel_rfl) (by kernel_rfl) (fun _ _ _ h => h) rfl (by rfl) hH ?_
                      simp only [Act.put, List.setIfInBounds_toArray, List.set_cons_zero, List.set_cons_succ]
                      refine skip_to 16 148 rfl (by kernel_rfl) (by kernel_rfl) (by kernel_rfl) (fun _ _ _ h => h) rfl (by rfl) hH ?_
                      simp only [Act.put, List.setIfInBounds_toArray, List.set_cons_zero, List.set_cons_succ]
                      refine skip_to 17 149 rfl (by kernel_rfl) (by kernel_rfl) (by kernel_rfl) (fun _ _ _ h => h) rfl (by rfl) hH ?_
                      simp only [Act.put, List.setIfInBounds_toArray, List.set_cons_zero, List.set_cons_succ]
                      refine skip_to 18 150 rfl (by kernel_rfl) (by kernel_rfl) (by kernel_rfl) (fun _ _ _ h => h) rfl (by rfl) hH ?_
                      simp only [Act.put, List.setIfInBounds_toArray, List.set_cons_zero, List.set_cons_succ]
                      refine skip_to 19 151 rfl (by kernel_rfl) (by kernel_rfl) (by kernel_rfl) (fun _ _ _ h => h) rfl (by rfl) hH ?_
                      simp only [Act.put, List.setIfInBounds_toArray, List.set_cons_zero, List.set_cons_succ]
                      refine take_to 20 152 (.bool false) rfl (by kernel_rfl) (by kernel_rfl) (by kernel_rfl) (fun _ _ _ h => h) rfl (by rfl) (fun w hw => by rfl) hH ?_
                      simp only [Act.put, List.setIfInBounds_toArray, List.set_cons_zero, List.set_cons_succ]
                      refine take_to 21 153 (.bool false) rfl (by kernel_rfl) (by kernel_rfl) (by kernel_rfl) (fun _ _ _ h => h) rfl (by rfl) (fun w hw => by rfl) hH ?_
                      simp only [Act.put, List.setIfInBounds_toArray, List.set_cons_zero, List.set_cons_succ]
                      refine wpAnyH_done (by kernel_rfl) ?_ _
                      clear hH

                      clear HE hx hv
                      go_wp2_with fail
                      go_roundw
                      case rel => exact ⟨m + 1, by omega, by go_num, HB.out.belowW (below_drewN _ _ 1)⟩
                      case measure => simp [intOf]; omega
                    · obtain ⟨hmw, hyp⟩ := HTO.out.resolve_left hev
                      have HE : Hid ((!decide (y = v)) = true) := by show _ = _; simp [hev]
                      have HWY : Hid (((m : Int) != wy) = false) := by show _ = _; rw [hmw]; simp
                      have HPL := hide (fun W => page_any 3 la W)
                      rw [← hyp] at HPL
                      clear HTO hmw hyp
                      refine wp_region_held_drew (S := fun w' => w'.heap[gx]? = some (.cells (secCells y).toArray 5 (0, 0)) ∧ w'.heap[w7.heap.size]? = some (.cells (secCells v).toArray 5 (0, 0))) (by kernel_rfl) ⟨hx, hv⟩ (fun hH => ?_)
                      refine take_to 0 132 (.int .i64 0) rfl (by kernel_rfl) (by kernel_rfl) (by kernel_rfl) (fun _ _ _ h => h) rfl (by rfl) (fun w hw => by rfl) hH ?_
                      simp only [Act.put, List.setIfInBounds_toArray, List.set_cons_zero, List.set_cons_succ]
                      refine take_to 1 133 (.bool false) rfl (by kernel_rfl) (by kernel_rfl) (by kernel_rfl) (fun _ _ _ h => h) rfl (by rfl) (fun w hw => op_neq24 _ _ (.tmp 132) _ 24 rfl _ _ rfl rfl _ (by rfl)) hH ?_
                      simp only [Act.put, List.setIfInBounds_toArray, List.set_cons_zero, List.set_cons_succ]
                      refine take_to 2 134 (.bool false) rfl (by kernel_rfl) (by kernel_rfl) (by kernel_rfl) (fun _ _ _ h => h) rfl (by rfl) (fun w hw => by rfl) hH ?_
                      simp only [Act.put, List.setIfInBounds_toArray, List.set_cons_zero, List.set_cons_succ]
                      refine take_to 3 135 (.slice (some ⟨gx, 0, none⟩) 512 512) rfl (by kernel_rfl) (by kernel_rfl) (by kernel_rfl) (fun _ _ _ h => h) rfl (by rfl) (fun w hw => by rfl) hH ?_
                      simp only [Act.put, List.setIfInBounds_toArray, List.set_cons_zero, List.set_cons_succ]
                      refine take_to 4 136 (.string (strOf y)) rfl (by kernel_rfl) (by kernel_rfl) (by kernel_rfl) (fun _ _ _ h => h) rfl (by rfl) (fun w hw => op_conv _ _ 31 9 (.tmp 135) rfl _ _ rfl (run_str w _ 512 512 _ HYL.out hw.1)) hH ?_
                      simp only [Act.put, List.setIfInBounds_toArray, List.set_cons_zero, List.set_cons_succ]
                      refine take_to 5 137 (.slice (some ⟨w7.heap.size, 0, none⟩) 512 512) rfl (by kernel_rfl) (by kernel_rfl) (by kernel_rfl) (fun _ _ _ h => h) rfl (by rfl) (fun w hw => by rfl) hH ?_
                      simp only [Act.put, List.setIfInBounds_toArray, List.set_cons_zero, List.set_cons_succ]
                      refine take_to 6 138 (.string (strOf v)) rfl (by kernel_rfl) (by kernel_rfl) (by kernel_rfl) (fun _ _ _ h => h) rfl (by rfl) (fun w hw => op_conv _ _ 31 9 (.tmp 137) rfl _ _ rfl (run_str w _ 512 512 _ HVL.out hw.2)) hH ?_
                      simp only [Act.put, List.setIfInBounds_toArray, List.set_cons_zero, List.set_cons_succ]
                      refine take_to 7 139 (.bool true) rfl (by kernel_rfl) (by kernel_rfl) (by kernel_rfl) (fun _ _ _ h => h) rfl (by rfl) (fun w hw => op_neqstrB _ _ (.tmp 136) (.tmp 138) 9 rfl y v rfl rfl _ HE.out) hH ?_
                      simp only [Act.put, List.setIfInBounds_toArray, List.set_cons_zero, List.set_cons_succ]
                      refine take_to 8 140 (.bool true) rfl (by kernel_rfl) (by kernel_rfl) (by kernel_rfl) (fun _ _ _ h => h) rfl (by rfl) (fun w hw => by rfl) hH ?_
                      simp only [Act.put, List.setIfInBounds_toArray, List.set_cons_zero, List.set_cons_succ]
                      refine take_to 9 141 (.int .i64 (m : Int)) rfl (by kernel_rfl) (by kernel_rfl) (by kernel_rfl) (fun _ _ _ h => h) rfl (by rfl) (fun w hw => by rfl) hH ?_
                      simp only [Act.put, List.setIfInBounds_toArray, List.set_cons_zero, List.set_cons_succ]
                      refine take_to 10 142 (.int .i64 wy) rfl (by kernel_rfl) (by kernel_rfl) (by kernel_rfl) (fun _ _ _ h => h) rfl (by rfl) (fun w hw => by rfl) hH ?_
                      simp only [Act.put, List.setIfInBounds_toArray, List.set_cons_zero, List.set_cons_succ]
                      refine take_to 11 143 (.bool false) rfl (by kernel_rfl) (by kernel_rfl) (by kernel_rfl) (fun _ _ _ h => h) rfl (by rfl) (fun w hw => op_neq3 _ _ (.tmp 141) (.tmp 142) 3 rfl _ _ rfl rfl _ HWY.out) hH ?_
                      simp only [Act.put, List.setIfInBounds_toArray, List.set_cons_zero, List.set_cons_succ]
                      refine take_to 12 144 (.bool false) rfl (by kernel_rfl) (by kernel_rfl) (by kernel_rfl) (fun _ _ _ h => h) rfl (by rfl) (fun w hw => by rfl) hH ?_
                      simp only [Act.put, List.setIfInBounds_toArray, List.set_cons_zero, List.set_cons_succ]
                      refine take_to 13 145 (.slice (some ⟨gx, 0, none⟩) 512 512) rfl (by kernel_rfl) (by kernel_rfl) (by kernel_rfl) (fun _ _ _ h => h) rfl (by rfl) (fun w hw => by rfl) hH ?_
                      simp only [Act.put, List.setIfInBounds_toArray, List.set_cons_zero, List.set_cons_succ]
                      refine take_to 14 146 (.string (strOf y)) rfl (by kernel_rfl) (by kernel_rfl) (by kernel_rfl) (fun _ _ _ h => h) rfl (by rfl) (fun w hw => op_conv _ _ 31 9 (.tmp 145) rfl _ _ rfl (run_str w _ 512 512 _ HYL.out hw.1)) hH ?_
                      simp only [Act.put, List.setIfInBounds_toArray, List.set_cons_zero, List.set_cons_succ]
                      refine take_to 15 147 (.int .i64 la) rfl (by kernel_rfl) (by kernel_rfl) (by kernel_rfl) (fun _ _ _ h => h) rfl (by rfl) (fun w hw => by rfl) hH ?_
                      simp only [Act.put, List.setIfInBounds_toArray, List.set_cons_zero, List.set_cons_succ]
                      refine step_call2_to 16 148 8 rfl (by kernel_rfl) rfl (by rfl) (.const (.int .i64 3)) (.tmp 147) _ rfl _ _ rfl rfl Try.enters8 (HPL.out _) ?_
                      rintro e wz ⟨rfl, hgz, hbz⟩
                      have hSz : wz.heap[gx]? = some (.cells (secCells y).toArray 5 (0, 0)) ∧ wz.heap[w7.heap.size]? = some (.cells (secCells v).toArray 5 (0, 0)) := ⟨(hbz.block _ (Array.getElem?_eq_some_iff.1 hx).1).trans hx, (hbz.block _ (Array.getElem?_eq_some_iff.1 hv).1).trans hv⟩
                      refine ⟨_, rfl, hSz, ?_⟩
                      simp only [Act.put, List.setIfInBounds_toArray, List.set_cons_zero, List.set_cons_succ]
                      refine step_to 17 149 (.string (strOf y)) wz rfl (by kernel_rfl) rfl (by rfl) (op_conv _ _ 31 9 (.tmp 148) rfl _ _ rfl (run_str wz _ 512 512 _ HYL.out hgz)) hSz ?_
                      simp only [Act.put, List.setIfInBounds_toArray, List.set_cons_zero, List.set_cons_succ]
                      refine step_to 18 150 (.bool false) wz rfl (by kernel_rfl) rfl (by rfl) (op_neqstrY _ _ (.tmp 146) (.tmp 149) 9 rfl _ rfl rfl) hSz ?_
                      simp only [Act.put, List.setIfInBounds_toArray, List.set_cons_zero, List.set_cons_succ]
                      refine step_to 19 151 (.bool false) wz rfl (by kernel_rfl) rfl (by rfl) (rfl) hSz ?_
                      simp only [Act.put, List.setIfInBounds_toArray, List.set_cons_zero, List.set_cons_succ]
                      refine step_to 20 152 (.bool false) wz rfl (by kernel_rfl) rfl (by rfl) (rfl) hSz ?_
                      simp only [Act.put, List.setIfInBounds_toArray, List.set_cons_zero, List.set_cons_succ]
                      refine step_to 21 153 (.bool false) wz rfl (by kernel_rfl) rfl (by rfl) (rfl) hSz ?_
                      simp only [Act.put, List.setIfInBounds_toArray, List.set_cons_zero, List.set_cons_succ]
                      refine wpAnyH_done (by kernel_rfl) ?_ _
                      have HBz := hide (HB.out.belowW ((below_drewN w8.heap.size w8 1).trans hbz))
                      clear hH hSz hgz hbz

                      clear HE hx hv HWY HPL
                      go_wp2_with fail
                      go_roundw
                      case rel => exact ⟨m + 1, by omega, by go_num, HBz.out⟩
                      case measure => simp [intOf]; omega

                · have HAW := hide (awake_true wr)
                  go_wp2_with (first | (go_at_call 12; refine HAW.out.mono ?_; rintro e w' ⟨rfl, hbw⟩))
                  go_ret
                  exact ⟨rfl, HB.out.below.trans (hbw.mono HB.out.below.size)⟩


end Go.Proofs.Ytkdlggobbkedmaa
