/- The walk of the law DevApart: it returns true and writes nothing that was there. -/
import Derived.Test.YtohhcgcifceklaaSteps
namespace Go.Proofs.Ytohhcgcifceklaa
open Go.RowKit
set_option linter.unusedVariables false
set_option linter.unusedSimpArgs false

theorem fp_lt {w : World} {p : Nat} {fp : List Nat} {D : Dv} (h : DevAt w p fp D) : ∀ k ∈ fp, k < w.heap.size := by
  obtain ⟨_, _, _, hx⟩ := h
  exact hx.lim

set_option maxHeartbeats 4000000 in
set_option maxRecDepth 100000 in
theorem apart_walk (a0 : Option Addr) (len0 cap0 : Nat) (z0 : List Int) (a1 : Option Addr) (len1 cap1 : Nat) (z1 : List Int) (w : World) (w0 : IsInts w a0 len0 cap0 z0) (w1 : IsInts w a1 len1 cap1 z1) :
    Calls Try.prog 6 #[.slice a0 len0 cap0, .slice a1 len1 cap1] w fun e w' => e = .returned (.bool true) ∧ Below w.heap.size w w' := by
  have hm0 := ints_len w0
  have hm1 := ints_len w1
  have W0 := hide w0
  have W1 := hide w1
  clear w0 w1
  go_enter Try.func6, Try.ntmps6
  go_wp2_with fail
  refine (new_dev 8 w (by omega) (by omega)).mono ?_
  rintro e w1 ⟨rfl, hD1, hB1⟩
  obtain ⟨p, hp⟩ : ∃ p, w.heap.size + 1 = p := ⟨_, rfl⟩
  have HL : Hid (∀ k ∈ [w.heap.size, p], w.heap.size ≤ k) := by show ∀ k ∈ _, _; simp; omega
  rw [hp] at hD1 ⊢
  generalize [w.heap.size, p] = fp at *
  clear hp
  have hI1 : FuseInv (-1) 0 (Dv.fresh 8) := ⟨by simp [Dv.fresh], by simp [Dv.fresh], by simp [Dv.fresh], fun _ => by simp [Dv.fresh]⟩
  generalize Dv.fresh 8 = D1 at *
  go_wp2_with fail
  go_loopw [7] (fun i wr => ∃ (k : Nat) (fq : List Nat) (D : Dv), k ≤ 30 ∧ i = .int .i64 k ∧ DevAt wr p fq D ∧ Below w.heap.size w wr ∧ (∀ j ∈ fq, w.heap.size ≤ j) ∧ FuseInv (-1) k D) (fun i _ => 30 - (intOf i).toNat)
  case atStart => exact ⟨0, fp, D1, Nat.zero_le _, rfl, hD1, hB1, HL.out, hI1⟩
  case round =>
    clear hI1 hB1 hD1 HL
    obtain ⟨k, fq, D, hk, rfl, hD, hB, hF, hI⟩ := hrel
    have HF := hide hF
    clear hF
    by_cases hgo : k < len0 ∧ k < 30
    · obtain ⟨hlt, hk30⟩ := hgo
      obtain ⟨b, o, hab, hbs, hcell⟩ := ints_in W0.out k hlt
      subst hab
      have hcr : wr.cell? ⟨b, o + k, none⟩ = some (.int .i64 (z0.getD k 0)) := (hB.cell (p := ⟨b, o + k, none⟩) hbs).trans hcell
      have hbw : b < wr.heap.size := Nat.lt_of_lt_of_le hbs hB.size
      have HI := hide hI
      clear hcell hI
      go_wp2_with fail
      refine wp_region_held_drew (S := fun w' => w'.cell? ⟨b, o + k, none⟩ = some (.int .i64 (z0.getD k 0))) (by kernel_rfl) hcr (fun hH => ?_)
      refine take_to 0 36 (.pointer (some ⟨p, 0, none⟩)) rfl (by kernel_rfl) (by kernel_rfl) (by kernel_rfl) (fun _ _ _ h => h) rfl (by rfl) (fun w _ => by rfl) hH ?_
      simp only [Act.put, List.setIfInBounds_toArray, List.set_cons_zero, List.set_cons_succ]
      refine take_to 1 37 (.slice (some ⟨b, o, none⟩) len0 cap0) rfl (by kernel_rfl) (by kernel_rfl) (by kernel_rfl) (fun _ _ _ h => h) rfl (by rfl) (fun w _ => by rfl) hH ?_
      simp only [Act.put, List.setIfInBounds_toArray, List.set_cons_zero, List.set_cons_succ]
      refine take_to 2 38 (.int .i64 (k : Int)) rfl (by kernel_rfl) (by kernel_rfl) (by kernel_rfl) (fun _ _ _ h => h) rfl (by rfl) (fun w _ => by rfl) hH ?_
      simp only [Act.put, List.setIfInBounds_toArray, List.set_cons_zero, List.set_cons_succ]
      refine take_to 3 39 (.pointer (some ⟨b, o + k, none⟩)) rfl (by kernel_rfl) (by kernel_rfl) (by kernel_rfl) (fun _ _ _ h => h) rfl (by rfl) (fun w _ => op_index _ _ 53 (.tmp 37) (.tmp 38) rfl _ _ _ rfl rfl (run_index53 w b o len0 cap0 k hlt)) hH ?_
      simp only [Act.put, List.setIfInBounds_toArray, List.set_cons_zero, List.set_cons_succ]
      refine take_to 4 40 (.int .i64 (z0.getD k 0)) rfl (by kernel_rfl) (by kernel_rfl) (by kernel_rfl) (fun _ _ _ h => h) rfl (by rfl) (fun w hw => op_load _ _ 3 (.tmp 39) rfl (.pointer (some ⟨b, o + k, none⟩)) _ rfl (run_load3 w b (o + k) _ hw)) hH ?_
      simp only [Act.put, List.setIfInBounds_toArray, List.set_cons_zero, List.set_cons_succ]
      refine take_to 5 41 (.int .i64 (z0.getD k 0 % 8)) rfl (by kernel_rfl) (by kernel_rfl) (by kernel_rfl) (fun _ _ _ h => h) rfl (by rfl) (fun w _ => op_and7 _ _ (.tmp 40) 3 rfl rfl _ rfl) hH ?_
      simp only [Act.put, List.setIfInBounds_toArray, List.set_cons_zero, List.set_cons_succ]
      refine take_to 6 42 (.int .i64 (k : Int)) rfl (by kernel_rfl) (by kernel_rfl) (by kernel_rfl) (fun _ _ _ h => h) rfl (by rfl) (fun w _ => by rfl) hH ?_
      simp only [Act.put, List.setIfInBounds_toArray, List.set_cons_zero, List.set_cons_succ]
      refine step_call2_to 7 43 10 rfl (by kernel_rfl) rfl (by rfl) (.const (.int .i64 1)) (.tmp 42) _ rfl _ _ rfl rfl Try.enters10 (sector_dev 1 (k : Int) wr.drew) ?_
      rintro e w3 ⟨rfl, hq3, hB3⟩
      refine ⟨_, rfl, (hB3.cell (p := ⟨b, o + k, none⟩) hbw).trans hcr, ?_⟩
      simp only [Act.put, List.setIfInBounds_toArray, List.set_cons_zero, List.set_cons_succ]
      have hBd : Below wr.heap.size wr w3 := ((Below.refl _ wr).drew).trans hB3
      have hD3 := hD.below hBd
      have hqn : wr.drew.heap.size ∉ fq := notin_fp (w := wr) hD
      obtain ⟨r1, r2, r3⟩ := inv_write HI.out (z0.getD k 0 % 8) (sec 1 k) (by omega) (by omega) (length_sec _ _)
      refine step_call3_to 8 44 11 rfl (by kernel_rfl) rfl (by rfl) (.tmp 36) (.tmp 41) (.tmp 43) _ rfl _ _ _ rfl rfl rfl Try.enters11 (write_sec p (z0.getD k 0 % 8) wr.drew.heap.size 128 1 k 5 (0, 0) w3 fq D hD3 (by have := HI.out.few; omega) hq3 hqn) ?_
      rintro e w4 ⟨rfl, f4, hD4, hO4, hF4⟩
      have hbf : b ∉ fq := fun hm => by have := HF.out b hm; omega
      refine ⟨_, rfl, (World.cell?_of_block (hO4.block b (Nat.lt_of_lt_of_le hbw hBd.size) hbf)).trans ((hB3.cell (p := ⟨b, o + k, none⟩) hbw).trans hcr), ?_⟩
      simp only [Act.put, List.setIfInBounds_toArray, List.set_cons_zero, List.set_cons_succ]
      refine wpAnyH_done (by kernel_rfl) ?_ _
      have hB4 : Below w.heap.size w w4 := (hB.trans (hBd.mono hB.size)).trans (hO4.below (Nat.le_trans hB.size hBd.size) HF.out)
      have hF5 : ∀ j ∈ f4, w.heap.size ≤ j := fun j hj => by
        rcases hF4 j hj with h | h
        · exact HF.out j h
        · exact Nat.le_trans (Nat.le_trans hB.size hBd.size) h
      have H3 := hide r3
      have HF5 := hide hF5
      clear r1 r2 r3 hF4 hO4 hq3 hqn hD3 hBd hB3 hcr hH hF5
      go_wp2_with fail
      go_roundw
      case rel => exact ⟨k + 1, f4, _, by omega, by go_num, hD4, hB4, HF5.out, H3.out⟩
      case measure => simp [intOf]; omega
    · have hfew : D.W.length < 1000000 := by have := hI.few; omega
      have HI := hide hI
      clear hI W0
      by_cases hl0 : k < len0
      have hl1 : decide ((k : Int) < 30) = false := by simp; omega
      rotate_left
      have hl1 : decide ((k : Int) < (len0 : Int)) = false := by simp; omega
      all_goals
        clear hgo
        go_wp2_with fail
        refine (copy_dev p wr fq D hD hfew).mono ?_
        rintro e w3 ⟨g1, f1, rfl, hC3, hf1, hB3⟩
        have hD3 := hD.below hB3
        go_wp2_with fail
        refine (copy_dev p w3 fq D hD3 hfew).mono ?_
        rintro e w4 ⟨g2, f2, rfl, hE4, hf2, hB4⟩
        have hD4 := hD3.below hB4
        have hC4 := hC3.below hB4
        have hB5 : Below w.heap.size w w4 := (hB.trans (hB3.mono hB.size)).trans (hB4.mono (Nat.le_trans hB.size hB3.size))
        have hap : ∀ j ∈ f1, j ∉ fq ∧ j ∉ f2 := fun j hj => ⟨fun hm => by have := fp_lt hD j hm; have := hf1 j hj; omega, fun hm => by have := fp_lt hC3 j hj; have := hf2 j hm; omega⟩
        have hap2 : ∀ j ∈ fq, j ∉ f2 := fun j hj hm => by have := fp_lt hD3 j hj; have := hf2 j hm; omega
        have hfw : ∀ j ∈ f1, w.heap.size ≤ j := fun j hj => Nat.le_trans hB.size (hf1 j hj)
        have HA := hide hap
        have HA2 := hide hap2
        have HW := hide hfw
        have HF2 : Hid (∀ j ∈ f2, w.heap.size ≤ j) := fun j hj => Nat.le_trans (Nat.le_trans hB.size hB3.size) (hf2 j hj)
        clear hap hap2 hfw hf1 hf2 hD3 hC3 hB3 hB4 hB hD
        go_wp2_with fail
        go_loopw [10] (fun i wx => ∃ (m : Nat) (fc : List Nat) (C : Dv), m ≤ 30 ∧ i = .int .i64 m ∧ DevAt wx g1 fc C ∧ DevAt wx p fq D ∧ DevAt wx g2 f2 D ∧ Below w.heap.size w wx ∧ (∀ j ∈ fc, w.heap.size ≤ j) ∧ (∀ j ∈ fc, j ∉ fq ∧ j ∉ f2) ∧ FuseInv (-1) (k + m) C) (fun i _ => 30 - (intOf i).toNat)
        case atStart => exact ⟨0, f1, D, Nat.zero_le _, rfl, hC4, hD4, hE4, hB5, HW.out, HA.out, HI.out⟩
        case round =>
          clear hC4 hD4 hE4 hB5 HW HA
          obtain ⟨m, fc, C, hm, rfl, hC, hD, hE, hB, hFc, hAc, hIc⟩ := hrel
          have HF0 := hide HF.out
          clear HF
          have HF := hide hFc
          have HA := hide hAc
          have HC := hide hIc
          clear hFc hAc hIc
          by_cases hgo : m < len1 ∧ m < 30
          · obtain ⟨hlt, hm30⟩ := hgo
            obtain ⟨b, o, hab, hbs, hcell⟩ := ints_in W1.out m hlt
            subst hab
            have hcr : wr.cell? ⟨b, o + m, none⟩ = some (.int .i64 (z1.getD m 0)) := (hB.cell (p := ⟨b, o + m, none⟩) hbs).trans hcell
            have hbw : b < wr.heap.size := Nat.lt_of_lt_of_le hbs hB.size
            clear hcell
            go_wp2_with fail
            refine wp_region_held_drew (S := fun w' => w'.cell? ⟨b, o + m, none⟩ = some (.int .i64 (z1.getD m 0))) (by kernel_rfl) hcr (fun hH => ?_)
            refine take_to 0 65 (.pointer (some ⟨g1, 0, none⟩)) rfl (by kernel_rfl) (by kernel_rfl) (by kernel_rfl) (fun _ _ _ h => h) rfl (by rfl) (fun w _ => by rfl) hH ?_
            simp only [Act.put, List.setIfInBounds_toArray, List.set_cons_zero, List.set_cons_succ]
            refine take_to 1 66 (.slice (some ⟨b, o, none⟩) len1 cap1) rfl (by kernel_rfl) (by kernel_rfl) (by kernel_rfl) (fun _ _ _ h => h) rfl (by rfl) (fun w _ => by rfl) hH ?_
            simp only [Act.put, List.setIfInBounds_toArray, List.set_cons_zero, List.set_cons_succ]
            refine take_to 2 67 (.int .i64 (m : Int)) rfl (by kernel_rfl) (by kernel_rfl) (by kernel_rfl) (fun _ _ _ h => h) rfl (by rfl) (fun w _ => by rfl) hH ?_
            simp only [Act.put, List.setIfInBounds_toArray, List.set_cons_zero, List.set_cons_succ]
            refine take_to 3 68 (.pointer (some ⟨b, o + m, none⟩)) rfl (by kernel_rfl) (by kernel_rfl) (by kernel_rfl) (fun _ _ _ h => h) rfl (by rfl) (fun w _ => op_index _ _ 53 (.tmp 66) (.tmp 67) rfl _ _ _ rfl rfl (run_index53 w b o len1 cap1 m hlt)) hH ?_
            simp only [Act.put, List.setIfInBounds_toArray, List.set_cons_zero, List.set_cons_succ]
            refine take_to 4 69 (.int .i64 (z1.getD m 0)) rfl (by kernel_rfl) (by kernel_rfl) (by kernel_rfl) (fun _ _ _ h => h) rfl (by rfl) (fun w hw => op_load _ _ 3 (.tmp 68) rfl (.pointer (some ⟨b, o + m, none⟩)) _ rfl (run_load3 w b (o + m) _ hw)) hH ?_
            simp only [Act.put, List.setIfInBounds_toArray, List.set_cons_zero, List.set_cons_succ]
            refine take_to 5 70 (.int .i64 (z1.getD m 0 % 8)) rfl (by kernel_rfl) (by kernel_rfl) (by kernel_rfl) (fun _ _ _ h => h) rfl (by rfl) (fun w _ => op_and7 _ _ (.tmp 69) 3 rfl rfl _ rfl) hH ?_
            simp only [Act.put, List.setIfInBounds_toArray, List.set_cons_zero, List.set_cons_succ]
            refine take_to 6 71 (.int .i64 (m : Int)) rfl (by kernel_rfl) (by kernel_rfl) (by kernel_rfl) (fun _ _ _ h => h) rfl (by rfl) (fun w _ => by rfl) hH ?_
            simp only [Act.put, List.setIfInBounds_toArray, List.set_cons_zero, List.set_cons_succ]
            refine step_call2_to 7 72 10 rfl (by kernel_rfl) rfl (by rfl) (.const (.int .i64 3)) (.tmp 71) _ rfl _ _ rfl rfl Try.enters10 (sector_dev 3 (m : Int) wr.drew) ?_
            rintro e w3 ⟨rfl, hq3, hB3⟩
            refine ⟨_, rfl, (hB3.cell (p := ⟨b, o + m, none⟩) hbw).trans hcr, ?_⟩
            simp only [Act.put, List.setIfInBounds_toArray, List.set_cons_zero, List.set_cons_succ]
            have hBd : Below wr.heap.size wr w3 := ((Below.refl _ wr).drew).trans hB3
            have hD3 := hC.below hBd
            have hqn : wr.drew.heap.size ∉ fc := notin_fp (w := wr) hC
            obtain ⟨r1, r2, r3⟩ := inv_write HC.out (z1.getD m 0 % 8) (sec 3 m) (by omega) (by omega) (length_sec _ _)
            refine step_call3_to 8 73 11 rfl (by kernel_rfl) rfl (by rfl) (.tmp 65) (.tmp 70) (.tmp 72) _ rfl _ _ _ rfl rfl rfl Try.enters11 (write_sec g1 (z1.getD m 0 % 8) wr.drew.heap.size 128 3 m 5 (0, 0) w3 fc C hD3 (by have := HC.out.few; omega) hq3 hqn) ?_
            rintro e w4 ⟨rfl, f4, hD4, hO4, hF4⟩
            have hbf : b ∉ fc := fun hm => by have := HF.out b hm; omega
            refine ⟨_, rfl, (World.cell?_of_block (hO4.block b (Nat.lt_of_lt_of_le hbw hBd.size) hbf)).trans ((hB3.cell (p := ⟨b, o + m, none⟩) hbw).trans hcr), ?_⟩
            simp only [Act.put, List.setIfInBounds_toArray, List.set_cons_zero, List.set_cons_succ]
            refine wpAnyH_done (by kernel_rfl) ?_ _
            have hB4 : Below w.heap.size w w4 := (hB.trans (hBd.mono hB.size)).trans (hO4.below (Nat.le_trans hB.size hBd.size) HF.out)
            have hF5 : ∀ j ∈ f4, w.heap.size ≤ j := fun j hj => by
              rcases hF4 j hj with h | h
              · exact HF.out j h
              · exact Nat.le_trans (Nat.le_trans hB.size hBd.size) h
            have hDn := (hD.below hBd).apart hO4 (fun j hj hm => (HA.out j hm).1 hj)
            have hEn := (hE.below hBd).apart hO4 (fun j hj hm => (HA.out j hm).2 hj)
            have hAn : ∀ j ∈ f4, j ∉ fq ∧ j ∉ f2 := fun j hj => by
              rcases hF4 j hj with h | h
              · exact HA.out j h
              · have := hBd.size
                exact ⟨fun hm => by have := fp_lt hD j hm; omega, fun hm => by have := fp_lt hE j hm; omega⟩
            have H3 := hide r3
            have HF5 := hide hF5
            have HAn := hide hAn
            clear r1 r2 r3 hF4 hO4 hq3 hqn hD3 hBd hB3 hcr hH hF5 hAn
            go_wp2_with fail
            go_roundw
            case rel => exact ⟨m + 1, f4, _, by omega, by go_num, hD4, hDn, hEn, hB4, HF5.out, HAn.out, by rw [← Nat.add_assoc]; exact H3.out⟩
            case measure => simp [intOf]; omega
          · by_cases hq0 : m < len1
            have hq1 : decide ((m : Int) < 30) = false := by simp; omega
            rotate_left
            have hq1 : decide ((m : Int) < (len1 : Int)) = false := by simp; omega
            all_goals
              clear hgo W1
              have hcf : C.W.length < 1000000 := by have := HC.out.few; omega
              have hcd : C.dead = false := minus_live HC.out
              go_wp2_with fail
              refine (fuse_dev g1 0 wr fc C hC (by omega) (by omega)).mono ?_
              rintro e w5 ⟨rfl, hC5, hO5⟩
              have hD5 := hD.apart hO5 (fun j hj hm => (HA.out j hm).1 hj)
              have hE5 := hE.apart hO5 (fun j hj hm => (HA.out j hm).2 hj)
              have hB5 : Below w.heap.size w w5 := hB.trans (hO5.below hB.size HF.out)
              go_wp2_with fail
              refine (sync_burnt g1 w5 fc _ hC5 hcd rfl).mono ?_
              rintro e w6 ⟨rfl, hC6, hO6⟩
              have hD6 := hD5.apart hO6 (fun j hj hm => (HA.out j hm).1 hj)
              have hE6 := hE5.apart hO6 (fun j hj hm => (HA.out j hm).2 hj)
              have hB6 : Below w.heap.size w w6 := hB5.trans (hO6.below hB5.size HF.out)
              have HDD := hide (minus_live HI.out)
              have HD8 := hide HI.out.eight
              clear hcd hcf hC5 hD5 hE5 hB5 hO5 hO6 hB hD hE hC
              go_wp2_with fail
              go_loopw [11] (fun i wx => ∃ (s : Nat) (c1 c2 : Int), s ≤ 8 ∧ i = .int .i64 s ∧ DevAt wx p fq { D with calls := c1 } ∧ DevAt wx g2 f2 { D with calls := c2 } ∧ DevAt wx g1 fc { C with fuse := 0, dead := true } ∧ Below w.heap.size w wx) (fun i _ => 8 - (intOf i).toNat)
              case atStart => exact ⟨0, D.calls, D.calls, Nat.zero_le _, rfl, hD6, hE6, hC6, hB6⟩
              case round =>
                clear hD6 hE6 hC6 hB6
                obtain ⟨s, c1, c2, hs, rfl, hD, hE, hC, hB⟩ := hrel
                by_cases hs8 : s < 8
                · go_wp2_with fail
                  refine (read_ok p s wr fq _ hD HDD.out (by show s < D.L.length; rw [HD8.out]; exact hs8) hfew).mono ?_
                  rintro e w7 ⟨x7, rfl, hx7, hc7, hD7, hO7⟩
                  have hE7 := hE.apart hO7 (fun j hj hm => HA2.out j hm hj)
                  have hC7 := hC.apart hO7 (fun j hj hm => (HA.out j hj).1 hm)
                  have hB7 : Below w.heap.size w w7 := hB.trans (hO7.below hB.size HF0.out)
                  go_wp2_with fail
                  refine (read_ok g2 s w7 f2 _ hE7 HDD.out (by show s < D.L.length; rw [HD8.out]; exact hs8) hfew).mono ?_
                  rintro e w8 ⟨y8, rfl, hy8, hc8, hE8, hO8⟩
                  have hD8 := hD7.apart hO8 (fun j hj hm => HA2.out j hj hm)
                  have hC8 := hC7.apart hO8 (fun j hj hm => (HA.out j hj).2 hm)
                  have hB8 : Below w.heap.size w w8 := hB7.trans (hO8.below hB7.size HF2.out)
                  have hxl : x7 < w7.heap.size := (Array.getElem?_eq_some_iff.1 hc7).1
                  have hc7' : w8.heap[x7]? = some (.cells (secCells (D.newest s)).toArray 5 (0, 0)) := (hO8.block x7 hxl (fun hm => by have := fp_lt hE x7 hm; omega)).trans hc7
                  have hnl : (D.newest s).length = 128 := by
                    obtain ⟨_, _, _, hx⟩ := hD8
                    exact length_newest D ⟨hx.wf.pos, hx.wf.max, hx.wf.sec, hx.wf.ent, hx.wf.lo, hx.wf.hi⟩ s (by rw [HD8.out]; exact hs8)
                  have sx := run_str w8 x7 128 (D.newest s) hnl hc7'
                  have sy := run_str w8 y8 128 (D.newest s) hnl hc8
                  have HB := hide hB8
                  clear hB8 hc7 hc8 hc7' hB7 hE7 hC7 hD7 hO7 hO8 hB hD hE hC hnl
                  go_wp2_with fail
                  go_roundw
                  case rel => exact ⟨s + 1, _, _, by omega, by go_num, hD8, hE8, hC8, HB.out⟩
                  case measure => simp [intOf]; omega
                · have hdc := dead_dev g1 wr fc _ hC
                  have hdd := dead_dev p wr fq _ hD
                  rw [show (({ D with calls := c1 } : Dv).dead) = false from HDD.out] at hdd
                  have hpd := pending_dev p wr fq _ hD
                  have hpe := pending_dev g2 wr f2 _ hE
                  have X1 := hide hdc
                  have X2 := hide hdd
                  have X3 := hide hpd
                  have X4 := hide hpe
                  clear hdc hdd hpd hpe
                  go_wp2_with fail
                  refine X1.out.mono ?_
                  rintro e w9 ⟨rfl, hw9⟩
                  have hw9 := hw9.symm
                  subst hw9
                  go_wp2_with fail
                  refine X2.out.mono ?_
                  rintro e w9 ⟨rfl, hw9⟩
                  have hw9 := hw9.symm
                  subst hw9
                  go_wp2_with fail
                  refine X3.out.mono ?_
                  rintro e w9 ⟨rfl, hw9⟩
                  have hw9 := hw9.symm
                  subst hw9
                  go_wp2_with fail
                  refine X4.out.mono ?_
                  rintro e w9 ⟨rfl, hw9⟩
                  have hw9 := hw9.symm
                  subst hw9
                  go_wp2_with fail
                  refine (awake_true wr).mono ?_
                  rintro e w12 ⟨rfl, hB12⟩
                  go_wp2_with fail
                  go_ret
                  exact ⟨rfl, hB.trans (hB12.mono hB.size)⟩
end Go.Proofs.Ytohhcgcifceklaa
