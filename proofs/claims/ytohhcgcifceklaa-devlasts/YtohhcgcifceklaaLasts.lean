/- The walk of the law DevLasts: it returns true and writes nothing that was there. -/
import Derived.Test.YtohhcgcifceklaaLastsOps
import Derived.Test.YtohhcgcifceklaaApart
import Derived.Deep.CutBlock
import Derived.Deep.DeepCutAuto
namespace Go.Proofs.Ytohhcgcifceklaa
open Go.RowKit
set_option linter.unusedVariables false
set_option linter.unusedSimpArgs false

theorem live_fresh : Dv.fresh 8 = liveDev (List.replicate 8 zeros) [] 0 := rfl

set_option maxHeartbeats 4000000 in
set_option maxRecDepth 100000 in
theorem lasts_walk (a0 : Option Addr) (len0 cap0 : Nat) (z0 : List Int) (a1 : Option Addr) (len1 cap1 : Nat) (z1 : List Int) (a2 : Option Addr) (len2 cap2 : Nat) (z2 : List Bool) (w : World) (w0 : IsInts w a0 len0 cap0 z0) (w1 : IsInts w a1 len1 cap1 z1) (w2 : IsBools w a2 len2 cap2 z2) :
    Calls Try.prog 4 #[.slice a0 len0 cap0, .slice a1 len1 cap1, .slice a2 len2 cap2] w fun e w' => e = .returned (.bool true) ∧ Below w.heap.size w w' := by
  have hm0 := ints_len w0
  have hm1 := ints_len w1
  have W0 := hide w0
  have W1 := hide w1
  have W2 := hide w2
  clear w0 w1 w2
  go_enter Try.func4, Try.ntmps4
  go_wp2_with fail
  refine (new_dev 8 w (by omega) (by omega)).mono ?_
  rintro e w1 ⟨rfl, hD1, hB1⟩
  obtain ⟨p, hp⟩ : ∃ p, w.heap.size + 1 = p := ⟨_, rfl⟩
  have HL : Hid (∀ k ∈ [w.heap.size, p], w.heap.size ≤ k) := by show ∀ k ∈ _, _; simp; omega
  rw [hp] at hD1 ⊢
  generalize [w.heap.size, p] = fp at *
  clear hp
  go_upto_block 0 with fail
  rw [← lastArr_zero z0]
  generalize hx1 : w1.alloc _ = x1
  have hq1 : x1.heap[w1.heap.size]? = some (.cells (lastArr z0 0) 54 (0, 0)) := by rw [← hx1]; exact heap_alloc_new _ _
  have hBx : Below w1.heap.size w1 x1 := by rw [← hx1]; exact (Below.refl _ _).alloc (Nat.le_refl _) _
  have hDx := hD1.below hBx
  have hB2 : Below w.heap.size w x1 := hB1.trans (hBx.mono hB1.size)
  have hqf : w1.heap.size ∉ fp := notin_fp hD1
  have hqw : w.heap.size ≤ w1.heap.size := hB1.size
  clear hx1 hBx hB1 hD1
  generalize w1.heap.size = q at *
  rw [live_fresh] at hDx
  go_cut [10] (fun i wx => ∃ (k : Nat) (fq : List Nat) (c : Int), k ≤ 40 ∧ DevAt wx p fq (liveDev (List.replicate 8 zeros) (wr1 z0 k) c) ∧ wx.heap[q]? = some (.cells (lastArr z0 k) 54 (0, 0)) ∧ q ∉ fq ∧ Below w.heap.size w wx ∧ ∀ j ∈ fq, w.heap.size ≤ j)
  case first =>
    go_wp2_with fail
    go_loopw [10] (fun i wx => ∃ (k : Nat) (fq : List Nat) (c : Int), k ≤ 40 ∧ i = .int .i64 k ∧ DevAt wx p fq (liveDev (List.replicate 8 zeros) (wr1 z0 k) c) ∧ wx.heap[q]? = some (.cells (lastArr z0 k) 54 (0, 0)) ∧ q ∉ fq ∧ Below w.heap.size w wx ∧ ∀ j ∈ fq, w.heap.size ≤ j) (fun i _ => 40 - (intOf i).toNat)
    case atStart => exact ⟨0, fp, 0, Nat.zero_le _, rfl, hDx, hq1, hqf, hB2, HL.out⟩
    case round =>
      clear hDx hq1 hqf hB2 HL
      obtain ⟨k, fq, c, hk, rfl, hD, hq, hqn, hB, hF⟩ := hrel
      have HF := hide hF
      clear hF
      by_cases hgo : k < len0 ∧ k < 40
      · obtain ⟨hlt, hk40⟩ := hgo
        obtain ⟨b, o, hab, hbs, hcell⟩ := ints_in W0.out k hlt
        subst hab
        generalize hz : z0.getD k 0 = z at hcell
        have HZ := hide hz
        clear hz
        have hcr : wr.cell? ⟨b, o + k, none⟩ = some (.int .i64 z) := (hB.cell (p := ⟨b, o + k, none⟩) hbs).trans hcell
        have hbw : b < wr.heap.size := Nat.lt_of_lt_of_le hbs hB.size
        clear hcell
        have hqb : q ≠ b := fun e => by omega
        go_wp2_with fail
        refine wp_region_held_drew (S := fun w' => w'.cell? ⟨b, o + k, none⟩ = some (.int .i64 z)) (by kernel_rfl) hcr (fun hH => ?_)
        refine take_to 0 38 (.pointer (some ⟨p, 0, none⟩)) rfl (by kernel_rfl) (by kernel_rfl) (by kernel_rfl) (fun _ _ _ h => h) rfl (by rfl) (fun w _ => by rfl) hH ?_
        simp only [Act.put, List.setIfInBounds_toArray, List.set_cons_zero, List.set_cons_succ]
        refine take_to 1 39 (.slice (some ⟨b, o, none⟩) len0 cap0) rfl (by kernel_rfl) (by kernel_rfl) (by kernel_rfl) (fun _ _ _ h => h) rfl (by rfl) (fun w _ => by rfl) hH ?_
        simp only [Act.put, List.setIfInBounds_toArray, List.set_cons_zero, List.set_cons_succ]
        refine take_to 2 40 (.int .i64 (k : Int)) rfl (by kernel_rfl) (by kernel_rfl) (by kernel_rfl) (fun _ _ _ h => h) rfl (by rfl) (fun w _ => by rfl) hH ?_
        simp only [Act.put, List.setIfInBounds_toArray, List.set_cons_zero, List.set_cons_succ]
        refine take_to 3 41 (.pointer (some ⟨b, o + k, none⟩)) rfl (by kernel_rfl) (by kernel_rfl) (by kernel_rfl) (fun _ _ _ h => h) rfl (by rfl) (fun w _ => op_index _ _ 53 (.tmp 39) (.tmp 40) rfl _ _ _ rfl rfl (run_index53 w b o len0 cap0 k hlt)) hH ?_
        simp only [Act.put, List.setIfInBounds_toArray, List.set_cons_zero, List.set_cons_succ]
        refine take_to 4 42 (.int .i64 z) rfl (by kernel_rfl) (by kernel_rfl) (by kernel_rfl) (fun _ _ _ h => h) rfl (by rfl) (fun w hw => op_load _ _ 3 (.tmp 41) rfl (.pointer (some ⟨b, o + k, none⟩)) _ rfl (run_load3 w b (o + k) _ hw)) hH ?_
        simp only [Act.put, List.setIfInBounds_toArray, List.set_cons_zero, List.set_cons_succ]
        refine take_to 5 43 (.int .i64 (z % 8)) rfl (by kernel_rfl) (by kernel_rfl) (by kernel_rfl) (fun _ _ _ h => h) rfl (by rfl) (fun w _ => op_and7 _ _ (.tmp 42) 3 rfl rfl _ rfl) hH ?_
        simp only [Act.put, List.setIfInBounds_toArray, List.set_cons_zero, List.set_cons_succ]
        refine take_to 6 44 (.int .i64 (k : Int)) rfl (by kernel_rfl) (by kernel_rfl) (by kernel_rfl) (fun _ _ _ h => h) rfl (by rfl) (fun w _ => by rfl) hH ?_
        simp only [Act.put, List.setIfInBounds_toArray, List.set_cons_zero, List.set_cons_succ]
        refine take_to 7 45 (.int .i64 ((k : Int) + 1)) rfl (by kernel_rfl) (by kernel_rfl) (by kernel_rfl) (fun _ _ _ h => h) rfl (by rfl) (fun w _ => op_add1 _ _ (.tmp 44) 3 rfl rfl _ rfl (by omega) (by omega)) hH ?_
        simp only [Act.put, List.setIfInBounds_toArray, List.set_cons_zero, List.set_cons_succ]
        refine step_call2_to 8 46 10 rfl (by kernel_rfl) rfl (by rfl) (.const (.int .i64 1)) (.tmp 45) _ rfl _ _ rfl rfl Try.enters10 (sector_dev 1 ((k : Int) + 1) wr.drew) ?_
        rintro e w3 ⟨rfl, hq3, hB3⟩
        refine ⟨_, rfl, (hB3.cell (p := ⟨b, o + k, none⟩) hbw).trans hcr, ?_⟩
        simp only [Act.put, List.setIfInBounds_toArray, List.set_cons_zero, List.set_cons_succ]
        have hBd : Below wr.heap.size wr w3 := ((Below.refl _ wr).drew).trans hB3
        have hD3 := hD.below hBd
        have hqd : wr.drew.heap.size ∉ fq := notin_fp (w := wr) hD
        have hz8 := mod8 z
        refine step_call3_to 9 47 11 rfl (by kernel_rfl) rfl (by rfl) (.tmp 38) (.tmp 43) (.tmp 46) _ rfl _ _ _ rfl rfl rfl Try.enters11 (write_sec p (z % 8) wr.drew.heap.size 128 1 ((k : Int) + 1) 5 (0, 0) w3 fq _ hD3 (by show (wr1 z0 k).length < _; rw [length_wr1]; omega) hq3 hqd) ?_
        rw [live_write _ _ _ _ _ (by omega) (by simp; omega) (length_sec _ _)]
        rintro e w4 ⟨rfl, f4, hD4, hO4, hF4⟩
        have hbf : b ∉ fq := fun hm => by have := HF.out b hm; omega
        have hcr4 : w4.cell? ⟨b, o + k, none⟩ = some (.int .i64 z) := (World.cell?_of_block (hO4.block b (Nat.lt_of_lt_of_le hbw hBd.size) hbf)).trans ((hB3.cell (p := ⟨b, o + k, none⟩) hbw).trans hcr)
        refine ⟨_, rfl, hcr4, ?_⟩
        simp only [Act.put, List.setIfInBounds_toArray, List.set_cons_zero, List.set_cons_succ]
        refine wpAnyH_done (by kernel_rfl) ?_ _
        have hB4 : Below w.heap.size w w4 := (hB.trans (hBd.mono hB.size)).trans (hO4.below (Nat.le_trans hB.size hBd.size) HF.out)
        have hF5 : ∀ j ∈ f4, w.heap.size ≤ j := fun j hj => by
          rcases hF4 j hj with h | h
          · exact HF.out j h
          · exact Nat.le_trans (Nat.le_trans hB.size hBd.size) h
        have hqs : q < wr.heap.size := (Array.getElem?_eq_some_iff.1 hq).1
        have hq4 : w4.heap[q]? = some (.cells (lastArr z0 k) 54 (0, 0)) := (hO4.block q (Nat.lt_of_lt_of_le hqs hBd.size) hqn).trans ((hBd.block q hqs).trans hq)
        have hqn4 : q ∉ f4 := fun hm => by
          rcases hF4 q hm with h | h
          · exact hqn h
          · have := hBd.size; omega
        obtain ⟨n, hn⟩ : ∃ n, (z % 8).toNat = n := ⟨_, rfl⟩
        have hn8 : n < 8 := by omega
        have h7 : bits BinOp.and IntKind.i64 z 7 = (n : Int) := by rw [and7]; omega
        have HN : Hid ((z0.getD k 0 % 8).toNat = n) := by show _ = _; rw [HZ.out]; exact hn
        have kq : w4.cell? ⟨q, n, none⟩ = some (.int .i64 (lastOf z0 k n : Int)) := by rw [cell_of_row _ _ _ _ _ _ hq4]; exact lastArr_at z0 k n hn8
        have fq4 : w4.frozen? ⟨q, n, none⟩ = false := frozen_of_row _ _ _ _ _ hq4
        have hq5 : (w4.setCell ⟨q, n, none⟩ (.int .i64 ((k : Int) + 1))).heap[q]? = some (.cells (lastArr z0 (k + 1)) 54 (0, 0)) := by
          rw [heap_setCell_same _ _ _ _ _ _ hq4, lastArr_succ z0 k n HN.out]
        have hD5 : DevAt (w4.setCell ⟨q, n, none⟩ (.int .i64 ((k : Int) + 1))) p f4 (liveDev (List.replicate 8 zeros) (wr1 z0 (k + 1)) (wrap64 (c + 1))) := by
          rw [wr1_succ, HZ.out]
          exact hD4.apart ((Off.refl [q] w4).setCell _ _ (.inl (by simp))) (fun j hj hm => by
            obtain rfl : j = q := by simpa using hm
            exact hqn4 hj)
        have hB5 : Below w.heap.size w (w4.setCell ⟨q, n, none⟩ (.int .i64 ((k : Int) + 1))) := hB4.setCell hqw _
        have HQ5 := hide hq5
        have HD5 := hide hD5
        have HF5 := hide hF5
        clear hq5 hD5 hF5 hn hz8 hF4 hO4 hq3 hqd hD3 hBd hB3 hcr hH hD4 hq4 hq hD
        go_wp2_with fail
        go_roundw
        case rel => exact ⟨k + 1, f4, _, by omega, by go_num, HD5.out, HQ5.out, hqn4, hB5, HF5.out⟩
        case measure => simp [intOf]; omega
      · by_cases hl0 : k < len0
        · have hl1 : decide ((k : Int) < 40) = false := by simp; omega
          clear hgo
          go_wp2_with fail
          go_meet
          case rel => exact ⟨k, fq, c, hk, hD, hq, hqn, hB, HF.out⟩
        · have hl1 : decide ((k : Int) < (len0 : Int)) = false := by simp; omega
          clear hgo
          go_wp2_with fail
          go_meet
          case rel => exact ⟨k, fq, c, hk, hD, hq, hqn, hB, HF.out⟩
  case rest =>
    clear HL hDx hq1 hqf hB2 x1 W0
    obtain ⟨k, fq, c, hk, hD, hq, hqn, hB, hF⟩ := hcut
    have HF := hide hF
    clear hF
    go_wp2_with fail
    refine (sync_dev p wc fq _ hD (by show (wr1 z0 k).length < _; rw [length_wr1]; omega)).mono ?_
    rw [live_sync]
    rintro e w5 ⟨rfl, hD5, hO5⟩
    have hqs : q < wc.heap.size := (Array.getElem?_eq_some_iff.1 hq).1
    have hq5 : w5.heap[q]? = some (.cells (lastArr z0 k) 54 (0, 0)) := (hO5.block q hqs hqn).trans hq
    have hB5 : Below w.heap.size w w5 := hB.trans (hO5.below hB.size HF.out)
    have hL8 : (laidOver (List.replicate 8 zeros) (wr1 z0 k)).length = 8 := by rw [length_laidOver]; simp
    have HL8 := hide hL8
    obtain ⟨L1, hL1⟩ : ∃ L1, laidOver (List.replicate 8 zeros) (wr1 z0 k) = L1 := ⟨_, rfl⟩
    rw [hL1] at hD5 HL8
    have HL1 := hide hL1
    clear hD hq hB hO5 hL8 hL1
    go_upto_block 2 with fail
    go_cut [11] (fun i wx => ∃ (m : Nat) (fq : List Nat) (c : Int), ¬ (m < len1 ∧ m < 40) ∧ m ≤ 40 ∧ m ≤ len1 ∧ DevAt wx p fq (liveDev L1 (wr2 z1 m) c) ∧ wx.heap[q]? = some (.cells (lastArr z0 k) 54 (0, 0)) ∧ q ∉ fq ∧ Below w.heap.size w wx ∧ ∀ j ∈ fq, w.heap.size ≤ j)
    case first =>
      go_wp2_with fail
      go_loopw [11] (fun i wx => ∃ (m : Nat) (fq : List Nat) (c : Int), i = .int .i64 m ∧ m ≤ 40 ∧ m ≤ len1 ∧ DevAt wx p fq (liveDev L1 (wr2 z1 m) c) ∧ wx.heap[q]? = some (.cells (lastArr z0 k) 54 (0, 0)) ∧ q ∉ fq ∧ Below w.heap.size w wx ∧ ∀ j ∈ fq, w.heap.size ≤ j) (fun i _ => 40 - (intOf i).toNat)
      case atStart => exact ⟨0, fq, _, rfl, Nat.zero_le _, Nat.zero_le _, hD5, hq5, hqn, hB5, HF.out⟩
      case round =>
        clear hD5 hq5 hqn hB5 HF
        obtain ⟨m, fq, c, rfl, hm, hml, hD, hq, hqn, hB, hF⟩ := hrel
        have HF := hide hF
        clear hF
        by_cases hgo : m < len1 ∧ m < 40
        · obtain ⟨hlt, hm40⟩ := hgo
          obtain ⟨b, o, hab, hbs, hcell⟩ := ints_in W1.out m hlt
          subst hab
          have hcr : wr.cell? ⟨b, o + m, none⟩ = some (.int .i64 (z1.getD m 0)) := (hB.cell (p := ⟨b, o + m, none⟩) hbs).trans hcell
          have hbw : b < wr.heap.size := Nat.lt_of_lt_of_le hbs hB.size
          clear hcell
          go_wp2_with fail
          refine wp_region_held_drew (S := fun w' => w'.cell? ⟨b, o + m, none⟩ = some (.int .i64 (z1.getD m 0))) (by kernel_rfl) hcr (fun hH => ?_)
          refine take_to 0 69 (.pointer (some ⟨p, 0, none⟩)) rfl (by kernel_rfl) (by kernel_rfl) (by kernel_rfl) (fun _ _ _ h => h) rfl (by rfl) (fun w _ => by rfl) hH ?_
          simp only [Act.put, List.setIfInBounds_toArray, List.set_cons_zero, List.set_cons_succ]
          refine take_to 1 70 (.slice (some ⟨b, o, none⟩) len1 cap1) rfl (by kernel_rfl) (by kernel_rfl) (by kernel_rfl) (fun _ _ _ h => h) rfl (by rfl) (fun w _ => by rfl) hH ?_
          simp only [Act.put, List.setIfInBounds_toArray, List.set_cons_zero, List.set_cons_succ]
          refine take_to 2 71 (.int .i64 (m : Int)) rfl (by kernel_rfl) (by kernel_rfl) (by kernel_rfl) (fun _ _ _ h => h) rfl (by rfl) (fun w _ => by rfl) hH ?_
          simp only [Act.put, List.setIfInBounds_toArray, List.set_cons_zero, List.set_cons_succ]
          refine take_to 3 72 (.pointer (some ⟨b, o + m, none⟩)) rfl (by kernel_rfl) (by kernel_rfl) (by kernel_rfl) (fun _ _ _ h => h) rfl (by rfl) (fun w _ => op_index _ _ 53 (.tmp 70) (.tmp 71) rfl _ _ _ rfl rfl (run_index53 w b o len1 cap1 m hlt)) hH ?_
          simp only [Act.put, List.setIfInBounds_toArray, List.set_cons_zero, List.set_cons_succ]
          refine take_to 4 73 (.int .i64 (z1.getD m 0)) rfl (by kernel_rfl) (by kernel_rfl) (by kernel_rfl) (fun _ _ _ h => h) rfl (by rfl) (fun w hw => op_load _ _ 3 (.tmp 72) rfl (.pointer (some ⟨b, o + m, none⟩)) _ rfl (run_load3 w b (o + m) _ hw)) hH ?_
          simp only [Act.put, List.setIfInBounds_toArray, List.set_cons_zero, List.set_cons_succ]
          refine take_to 5 74 (.int .i64 (z1.getD m 0 % 8)) rfl (by kernel_rfl) (by kernel_rfl) (by kernel_rfl) (fun _ _ _ h => h) rfl (by rfl) (fun w _ => op_and7 _ _ (.tmp 73) 3 rfl rfl _ rfl) hH ?_
          simp only [Act.put, List.setIfInBounds_toArray, List.set_cons_zero, List.set_cons_succ]
          refine take_to 6 75 (.int .i64 (m : Int)) rfl (by kernel_rfl) (by kernel_rfl) (by kernel_rfl) (fun _ _ _ h => h) rfl (by rfl) (fun w _ => by rfl) hH ?_
          simp only [Act.put, List.setIfInBounds_toArray, List.set_cons_zero, List.set_cons_succ]
          refine step_call2_to 7 76 10 rfl (by kernel_rfl) rfl (by rfl) (.const (.int .i64 2)) (.tmp 75) _ rfl _ _ rfl rfl Try.enters10 (sector_dev 2 (m : Int) wr.drew) ?_
          rintro e w3 ⟨rfl, hq3, hB3⟩
          refine ⟨_, rfl, (hB3.cell (p := ⟨b, o + m, none⟩) hbw).trans hcr, ?_⟩
          simp only [Act.put, List.setIfInBounds_toArray, List.set_cons_zero, List.set_cons_succ]
          have hBd : Below wr.heap.size wr w3 := ((Below.refl _ wr).drew).trans hB3
          have hD3 := hD.below hBd
          have hqd : wr.drew.heap.size ∉ fq := notin_fp (w := wr) hD
          have hz8 := mod8 (z1.getD m 0)
          refine step_call3_to 8 77 11 rfl (by kernel_rfl) rfl (by rfl) (.tmp 69) (.tmp 74) (.tmp 76) _ rfl _ _ _ rfl rfl rfl Try.enters11 (write_sec p (z1.getD m 0 % 8) wr.drew.heap.size 128 2 (m : Int) 5 (0, 0) w3 fq _ hD3 (by show (wr2 z1 m).length < _; rw [length_wr2]; omega) hq3 hqd) ?_
          rw [live_write _ _ _ _ _ (by omega) (by rw [HL8.out]; omega) (length_sec _ _)]
          rintro e w4 ⟨rfl, f4, hD4, hO4, hF4⟩
          have hbf : b ∉ fq := fun hm => by have := HF.out b hm; omega
          have hcr4 : w4.cell? ⟨b, o + m, none⟩ = some (.int .i64 (z1.getD m 0)) := (World.cell?_of_block (hO4.block b (Nat.lt_of_lt_of_le hbw hBd.size) hbf)).trans ((hB3.cell (p := ⟨b, o + m, none⟩) hbw).trans hcr)
          refine ⟨_, rfl, hcr4, ?_⟩
          simp only [Act.put, List.setIfInBounds_toArray, List.set_cons_zero, List.set_cons_succ]
          refine wpAnyH_done (by kernel_rfl) ?_ _
          have hB4 : Below w.heap.size w w4 := (hB.trans (hBd.mono hB.size)).trans (hO4.below (Nat.le_trans hB.size hBd.size) HF.out)
          have hF5 : ∀ j ∈ f4, w.heap.size ≤ j := fun j hj => by
            rcases hF4 j hj with h | h
            · exact HF.out j h
            · exact Nat.le_trans (Nat.le_trans hB.size hBd.size) h
          have hqs : q < wr.heap.size := (Array.getElem?_eq_some_iff.1 hq).1
          have hq4 : w4.heap[q]? = some (.cells (lastArr z0 k) 54 (0, 0)) := (hO4.block q (Nat.lt_of_lt_of_le hqs hBd.size) hqn).trans ((hBd.block q hqs).trans hq)
          have hqn4 : q ∉ f4 := fun hm => by
            rcases hF4 q hm with h | h
            · exact hqn h
            · have := hBd.size; omega
          rw [← wr2_succ] at hD4
          have HQ4 := hide hq4
          have HF5 := hide hF5
          clear hF5 hz8 hF4 hO4 hq3 hqd hD3 hBd hB3 hcr hH hq4 hq hD hcr4
          go_wp2_with fail
          go_roundw
          case rel => exact ⟨m + 1, f4, _, by go_num, by omega, by omega, hD4, HQ4.out, hqn4, hB4, HF5.out⟩
          case measure => simp [intOf]; omega
        · have HG := hide hgo
          by_cases hl0 : m < len1
          · have hl1 : decide ((m : Int) < 40) = false := by simp; omega
            clear hgo
            go_wp2_with fail
            go_meet
            case rel => exact ⟨m, fq, c, HG.out, hm, hml, hD, hq, hqn, hB, HF.out⟩
          · have hl1 : decide ((m : Int) < (len1 : Int)) = false := by simp; omega
            clear hgo
            go_wp2_with fail
            go_meet
            case rel => exact ⟨m, fq, c, HG.out, hm, hml, hD, hq, hqn, hB, HF.out⟩
    case rest =>
      clear hD5 hq5 hqn hB5 HF
      obtain ⟨m, fq, c, hend, hm, hml, hD, hq, hqn, hB, hF⟩ := hcut
      have HF := hide hF
      have HEND := hide hend
      clear hF hend
      obtain ⟨ks, hks, hkz⟩ : ∃ ks : List Bool, ks.length = len2 ∧ ∀ j, j < len2 → ks.getD j false = z2.getD j false := by
        refine ⟨z2.take len2, ?_, fun j hj => ?_⟩
        · rcases W2.out with ⟨_, h, _, h2⟩ | ⟨x, _, h1, _, h3, _⟩
          · rw [h2, h]; rfl
          · rw [List.length_take, h3]; omega
        · simp [List.getD_eq_getElem?_getD, List.getElem?_take, hj]
      have hkeep : KeepAt wc fq a2 ks := fun j hj => by
        obtain ⟨b, o, hab, hbs, hcell⟩ := bools_at W2.out j (by omega)
        refine ⟨b, o, hab, fun hm => by have := HF.out b hm; omega, Nat.lt_of_lt_of_le hbs hB.size, ?_⟩
        rw [hkz j (by omega)]
        exact (hB.cell (p := ⟨b, o + j, none⟩) hbs).trans hcell
      have hl2 : len2 ≤ 9223372036854775807 := by
        rcases W2.out with ⟨_, h, _, _⟩ | ⟨x, _, h1, h2, _⟩
        · omega
        · simp only [maxLen] at h2; omega
      have hcr := crash_ok p a2 cap2 ks wc fq _ hD (by show (wr2 z1 m).length < _; rw [length_wr2]; omega) (by omega) hkeep
      rw [hks, live_crash, length_wr2] at hcr
      have HC := hide hcr
      have HKS := hide hks
      have HKZ := hide hkz
      clear hcr hkeep hks hkz
      go_wp2_with fail
      refine HC.out.mono ?_
      rintro e w6 ⟨rfl, hD6, hO6⟩
      have hqs : q < wc.heap.size := (Array.getElem?_eq_some_iff.1 hq).1
      have hq6 : w6.heap[q]? = some (.cells (lastArr z0 k) 54 (0, 0)) := (hO6.block q hqs hqn).trans hq
      have hB6 : Below w.heap.size w w6 := hB.trans (hO6.below hB.size HF.out)
      obtain ⟨L2, hL2⟩ : ∃ L2, laidOver L1 (kept (wr2 z1 m) ks m) = L2 := ⟨_, rfl⟩
      have HL28 : Hid (L2.length = 8) := by show _ = _; rw [← hL2, length_laidOver]; exact HL8.out
      rw [hL2] at hD6
      have HL2 := hide hL2
      clear HC hL2 hD hB hq hO6
      have HQN := hide hqn
      clear hqn
      go_wp2_with fail
      go_loopw [12] (fun i wx => ∃ (s : Nat) (c : Int), s ≤ 8 ∧ i = .int .i64 s ∧ DevAt wx p fq (liveDev L2 [] c) ∧ wx.heap[q]? = some (.cells (lastArr z0 k) 54 (0, 0)) ∧ Below w.heap.size w wx) (fun i _ => 8 - (intOf i).toNat)
      case atStart => exact ⟨0, _, Nat.zero_le _, rfl, hD6, hq6, hB6⟩
      case round =>
        clear hD6 hq6 hB6 c
        obtain ⟨s, c, hs, rfl, hD, hq, hB⟩ := hrel
        by_cases hs8 : s < 8
        · go_wp2_with fail
          refine (read_ok p s wr fq _ hD rfl (by show s < L2.length; rw [HL28.out]; exact hs8) (by simp [liveDev])).mono ?_
          rw [live_newest]
          rintro e w7 ⟨gx, rfl, hgx, hcx, hD7, hO7⟩
          have hqs : q < wr.heap.size := (Array.getElem?_eq_some_iff.1 hq).1
          have hq7 : w7.heap[q]? = some (.cells (lastArr z0 k) 54 (0, 0)) := (hO7.block q hqs HQN.out).trans hq
          have hB7 : Below w.heap.size w w7 := hB.trans (hO7.below hB.size HF.out)
          have hD7' : DevAt w7 p fq (liveDev L2 [] (wrap64 (c + 1))) := hD7
          have hxl : (L2.getD s []).length = 128 := by
            obtain ⟨_, _, _, hx⟩ := hD7'
            have hsl : s < L2.length := by rw [HL28.out]; exact hs8
            have := hx.wf.sec (L2.getD s []) (by rw [List.getD_eq_getElem?_getD, List.getElem?_eq_getElem hsl]; exact List.getElem_mem hsl)
            exact this
          obtain ⟨x, hx⟩ : ∃ x, L2.getD s [] = x := ⟨_, rfl⟩
          rw [hx] at hcx hxl
          have HXL := hide hxl
          have HXX := hide hx
          clear hx
          have hmk := make128
          obtain ⟨W8, hW8⟩ : ∃ W8, w7.alloc (.cells (secPart 0 0 0) 5) = W8 := ⟨_, rfl⟩
          have hB78 : Below w7.heap.size w7 W8 := by rw [← hW8]; exact (Below.refl _ _).alloc (Nat.le_refl _) _
          have hg8 : W8.heap[w7.heap.size]? = some (.cells (secCells zeros).toArray 5 (0, 0)) := by
            rw [← hW8, heap_alloc_new, secPart_zero]; rfl
          have hD8 := hD7'.below hB78
          have hq8 : W8.heap[q]? = some (.cells (lastArr z0 k) 54 (0, 0)) := (hB78.block q (Array.getElem?_eq_some_iff.1 hq7).1).trans hq7
          have hx8 : W8.heap[gx]? = some (.cells (secCells x).toArray 5 (0, 0)) := (hB78.block gx (Array.getElem?_eq_some_iff.1 hcx).1).trans hcx
          have hB8 : Below w.heap.size w W8 := hB7.trans (hB78.mono hB7.size)
          have kq : W8.cell? ⟨q, s, none⟩ = some (.int .i64 (lastOf z0 k s : Int)) := by rw [cell_of_row _ _ _ _ _ _ hq8]; exact lastArr_at z0 k s hs8
          clear hxl hD7 hD7' hO7 hcx hgx hB hq hD hqs hB78 hq7 hB7
          go_upto_if 97 with fail
          go_cut [15] (fun v wx => ∃ g, v = .slice (some ⟨g, 0, none⟩) 128 128 ∧ wx.heap[g]? = some (.cells (secCells (oldOf z0 k s)).toArray 5 (0, 0)) ∧ DevAt wx p fq (liveDev L2 [] (wrap64 (c + 1))) ∧ wx.heap[q]? = some (.cells (lastArr z0 k) 54 (0, 0)) ∧ wx.heap[gx]? = some (.cells (secCells x).toArray 5 (0, 0)) ∧ Below w.heap.size w wx)
          case first =>
            by_cases hpos : 0 < lastOf z0 k s
            · have hpd : decide ((0 : Int) < (lastOf z0 k s : Int)) = true := by simpa using hpos
              go_wp2_with fail
              refine (sector_dev 1 (lastOf z0 k s : Int) W8).mono ?_
              rintro e w9 ⟨rfl, hq9, hB9⟩
              have r1 := hD8.below hB9
              have r2 := (hB9.block q (Array.getElem?_eq_some_iff.1 hq8).1).trans hq8
              have r3 := (hB9.block gx (Array.getElem?_eq_some_iff.1 hx8).1).trans hx8
              have r4 : Below w.heap.size w w9 := hB8.trans (hB9.mono hB8.size)
              go_wp2_with fail
              go_meet
              case rel => exact ⟨_, rfl, by rw [oldOf, if_pos hpos]; exact hq9, r1, r2, r3, r4⟩
            · have hpd : decide ((0 : Int) < (lastOf z0 k s : Int)) = false := by simp; omega
              go_wp2_with fail
              go_meet
              case rel => exact ⟨_, rfl, by rw [oldOf, if_neg hpos]; exact hg8, hD8, hq8, hx8, hB8⟩
          case rest =>
            clear hD8 hq8 hx8 hB8 kq hg8 hW8 hmk W8
            obtain ⟨g, rfl, hgo, hD, hq, hgx, hB⟩ := hcut
            have sx := run_str wc gx 128 x HXL.out hgx
            have sy := run_str wc g 128 (oldOf z0 k s) (length_oldOf z0 k s) hgo
            have hb0 := beq_str x (oldOf z0 k s)
            go_upto_block 6 with fail
            clear sx sy
            go_cut [16, 17] (fun v i wx => v = .bool true ∧ DevAt wx p fq (liveDev L2 [] (wrap64 (c + 1))) ∧ wx.heap[q]? = some (.cells (lastArr z0 k) 54 (0, 0)) ∧ wx.heap[gx]? = some (.cells (secCells x).toArray 5 (0, 0)) ∧ Below w.heap.size w wx)
            case first =>
              go_wp2_with fail
              go_loopw [16, 17] (fun v t wx => ∃ i : Nat, i ≤ m ∧ v = .bool (hitTo z1 ks s x (oldOf z0 k s) i) ∧ t = .int .i64 i ∧ wx.heap[g]? = some (.cells (secCells (oldOf z0 k s)).toArray 5 (0, 0)) ∧ DevAt wx p fq (liveDev L2 [] (wrap64 (c + 1))) ∧ wx.heap[q]? = some (.cells (lastArr z0 k) 54 (0, 0)) ∧ wx.heap[gx]? = some (.cells (secCells x).toArray 5 (0, 0)) ∧ Below w.heap.size w wx) (fun _ t _ => 40 - (intOf t).toNat)
              case atStart => exact ⟨0, Nat.zero_le _, by simp [hitTo], rfl, hgo, hD, hq, hgx, hB⟩
              case round =>
                clear hgo hD hq hgx hB hb0
                obtain ⟨i, him, rfl, rfl, hgo2, hD, hq, hgx, hB⟩ := hrel
                have hqw9 : q < wr.heap.size := (Array.getElem?_eq_some_iff.1 hq).1
                have hgw : gx < wr.heap.size := (Array.getElem?_eq_some_iff.1 hgx).1
                have hgg : g < wr.heap.size := (Array.getElem?_eq_some_iff.1 hgo2).1
                by_cases him2 : i < m
                · have hlt : i < len1 := by omega
                  have hi40 : i < 40 := by omega
                  obtain ⟨b, o, hab, hbs, hcell⟩ := ints_in W1.out i hlt
                  subst hab
                  generalize hz : z1.getD i 0 = z at hcell
                  have HZ := hide hz
                  clear hz
                  have hcr : wr.cell? ⟨b, o + i, none⟩ = some (.int .i64 z) := (hB.cell (p := ⟨b, o + i, none⟩) hbs).trans hcell
                  have hbw : b < wr.heap.size := Nat.lt_of_lt_of_le hbs hB.size
                  clear hcell
                  cases hok : hitTo z1 ks s x (oldOf z0 k s) i
                  · have HOK := hide hok
                    clear hok
                    by_cases hz8 : z % 8 = (s : Int)
                    · have hc1 : (z % 8 == (s : Int)) = true := by simpa using hz8
                      by_cases hi2 : i < len2
                      · have hc2 : decide ((i : Int) < (len2 : Int)) = true := by simpa using hi2
                        obtain ⟨kb, ko, hkab, hkbs, hkcell⟩ := bools_at W2.out i hi2
                        subst hkab
                        have hkw : kb < wr.heap.size := Nat.lt_of_lt_of_le hkbs hB.size
                        have hkr0 : wr.cell? ⟨kb, ko + i, none⟩ = some (.bool (z2.getD i false)) := (hB.cell (p := ⟨kb, ko + i, none⟩) hkbs).trans hkcell
                        cases hkv : z2.getD i false
                        · have hkr : wr.cell? ⟨kb, ko + i, none⟩ = some (.bool false) := by rw [hkr0, hkv]
                          have HV : Hid ((decide (z1.getD i 0 % 8 = (s : Int)) && decide (i < ks.length) && ks.getD i false && decide (x = sec 2 (i : Int))) = false) := by
                            show _ = _; rw [HKZ.out i hi2, hkv]; simp
                          clear hz8 hkr0 hkcell hkv
                          go_wp2_with fail
                          refine wp_region_held_drew (S := fun w' => w'.cell? ⟨b, o + i, none⟩ = some (.int .i64 z) ∧ w'.cell? ⟨kb, ko + i, none⟩ = some (.bool false) ∧ True) (by kernel_rfl) ⟨hcr, hkr, trivial⟩ (fun hH => ?_)
                          refine take_to 0 117 (.bool false) rfl (by kernel_rfl) (by kernel_rfl) (by kernel_rfl) (fun _ _ _ h => h) rfl (by rfl) (fun w _ => by rfl) hH ?_
                          simp only [Act.put, List.setIfInBounds_toArray, List.set_cons_zero, List.set_cons_succ]
                          refine take_to 1 118 (.bool false) rfl (by kernel_rfl) (by kernel_rfl) (by kernel_rfl) (fun _ _ _ h => h) rfl (by rfl) (fun w _ => by rfl) hH ?_
                          simp only [Act.put, List.setIfInBounds_toArray, List.set_cons_zero, List.set_cons_succ]
                          refine take_to 2 119 (.slice (some ⟨b, o, none⟩) len1 cap1) rfl (by kernel_rfl) (by kernel_rfl) (by kernel_rfl) (fun _ _ _ h => h) rfl (by rfl) (fun w _ => by rfl) hH ?_
                          simp only [Act.put, List.setIfInBounds_toArray, List.set_cons_zero, List.set_cons_succ]
                          refine take_to 3 120 (.int .i64 (i : Int)) rfl (by kernel_rfl) (by kernel_rfl) (by kernel_rfl) (fun _ _ _ h => h) rfl (by rfl) (fun w _ => by rfl) hH ?_
                          simp only [Act.put, List.setIfInBounds_toArray, List.set_cons_zero, List.set_cons_succ]
                          refine take_to 4 121 (.pointer (some ⟨b, o + i, none⟩)) rfl (by kernel_rfl) (by kernel_rfl) (by kernel_rfl) (fun _ _ _ h => h) rfl (by rfl) (fun w _ => op_index _ _ 53 (.tmp 119) (.tmp 120) rfl _ _ _ rfl rfl (run_index53 w b o len1 cap1 i hlt)) hH ?_
                          simp only [Act.put, List.setIfInBounds_toArray, List.set_cons_zero, List.set_cons_succ]
                          refine take_to 5 122 (.int .i64 z) rfl (by kernel_rfl) (by kernel_rfl) (by kernel_rfl) (fun _ _ _ h => h) rfl (by rfl) (fun w hw => op_load _ _ 3 (.tmp 121) rfl (.pointer (some ⟨b, o + i, none⟩)) _ rfl (run_load3 w b (o + i) _ hw.1)) hH ?_
                          simp only [Act.put, List.setIfInBounds_toArray, List.set_cons_zero, List.set_cons_succ]
                          refine take_to 6 123 (.int .i64 (z % 8)) rfl (by kernel_rfl) (by kernel_rfl) (by kernel_rfl) (fun _ _ _ h => h) rfl (by rfl) (fun w _ => op_and7 _ _ (.tmp 122) 3 rfl rfl _ rfl) hH ?_
                          simp only [Act.put, List.setIfInBounds_toArray, List.set_cons_zero, List.set_cons_succ]
                          refine take_to 7 124 (.int .i64 (s : Int)) rfl (by kernel_rfl) (by kernel_rfl) (by kernel_rfl) (fun _ _ _ h => h) rfl (by rfl) (fun w _ => by rfl) hH ?_
                          simp only [Act.put, List.setIfInBounds_toArray, List.set_cons_zero, List.set_cons_succ]
                          refine take_to 8 125 (.bool true) rfl (by kernel_rfl) (by kernel_rfl) (by kernel_rfl) (fun _ _ _ h => h) rfl (by rfl) (fun w _ => op_eql3 _ _ (.tmp 123) (.tmp 124) 3 rfl _ _ rfl rfl _ hc1) hH ?_
                          simp only [Act.put, List.setIfInBounds_toArray, List.set_cons_zero, List.set_cons_succ]
                          refine take_to 9 126 (.bool true) rfl (by kernel_rfl) (by kernel_rfl) (by kernel_rfl) (fun _ _ _ h => h) rfl (by rfl) (fun w _ => by rfl) hH ?_
                          simp only [Act.put, List.setIfInBounds_toArray, List.set_cons_zero, List.set_cons_succ]
                          refine take_to 10 127 (.int .i64 (i : Int)) rfl (by kernel_rfl) (by kernel_rfl) (by kernel_rfl) (fun _ _ _ h => h) rfl (by rfl) (fun w _ => by rfl) hH ?_
                          simp only [Act.put, List.setIfInBounds_toArray, List.set_cons_zero, List.set_cons_succ]
                          refine take_to 11 128 (.slice (some ⟨kb, ko, none⟩) len2 cap2) rfl (by kernel_rfl) (by kernel_rfl) (by kernel_rfl) (fun _ _ _ h => h) rfl (by rfl) (fun w _ => by rfl) hH ?_
                          simp only [Act.put, List.setIfInBounds_toArray, List.set_cons_zero, List.set_cons_succ]
                          refine take_to 12 129 (.int .i64 (len2 : Int)) rfl (by kernel_rfl) (by kernel_rfl) (by kernel_rfl) (fun _ _ _ h => h) rfl (by rfl) (fun w _ => op_len _ _ (.tmp 128) 31 4 Try.underlying31 rfl (some ⟨kb, ko, none⟩) len2 cap2 rfl) hH ?_
                          simp only [Act.put, List.setIfInBounds_toArray, List.set_cons_zero, List.set_cons_succ]
                          refine take_to 13 130 (.bool true) rfl (by kernel_rfl) (by kernel_rfl) (by kernel_rfl) (fun _ _ _ h => h) rfl (by rfl) (fun w _ => op_lss3 _ _ (.tmp 127) (.tmp 129) 3 rfl _ _ rfl rfl _ hc2) hH ?_
                          simp only [Act.put, List.setIfInBounds_toArray, List.set_cons_zero, List.set_cons_succ]
                          refine take_to 14 131 (.bool true) rfl (by kernel_rfl) (by kernel_rfl) (by kernel_rfl) (fun _ _ _ h => h) rfl (by rfl) (fun w _ => by rfl) hH ?_
                          simp only [Act.put, List.setIfInBounds_toArray, List.set_cons_zero, List.set_cons_succ]
                          refine take_to 15 132 (.bool true) rfl (by kernel_rfl) (by kernel_rfl) (by kernel_rfl) (fun _ _ _ h => h) rfl (by rfl) (fun w _ => by rfl) hH ?_
                          simp only [Act.put, List.setIfInBounds_toArray, List.set_cons_zero, List.set_cons_succ]
                          refine take_to 16 133 (.slice (some ⟨kb, ko, none⟩) len2 cap2) rfl (by kernel_rfl) (by kernel_rfl) (by kernel_rfl) (fun _ _ _ h => h) rfl (by rfl) (fun w _ => by rfl) hH ?_
                          simp only [Act.put, List.setIfInBounds_toArray, List.set_cons_zero, List.set_cons_succ]
                          refine take_to 17 134 (.int .i64 (i : Int)) rfl (by kernel_rfl) (by kernel_rfl) (by kernel_rfl) (fun _ _ _ h => h) rfl (by rfl) (fun w _ => by rfl) hH ?_
                          simp only [Act.put, List.setIfInBounds_toArray, List.set_cons_zero, List.set_cons_succ]
                          refine take_to 18 135 (.pointer (some ⟨kb, ko + i, none⟩)) rfl (by kernel_rfl) (by kernel_rfl) (by kernel_rfl) (fun _ _ _ h => h) rfl (by rfl) (fun w _ => op_index _ _ 31 (.tmp 133) (.tmp 134) rfl _ _ _ rfl rfl (run_index31 w kb ko len2 cap2 i hi2)) hH ?_
                          simp only [Act.put, List.setIfInBounds_toArray, List.set_cons_zero, List.set_cons_succ]
                          refine take_to 19 136 (.bool false) rfl (by kernel_rfl) (by kernel_rfl) (by kernel_rfl) (fun _ _ _ h => h) rfl (by rfl) (fun w hw => op_load _ _ 4 (.tmp 135) rfl (.pointer (some ⟨kb, ko + i, none⟩)) _ rfl (run_load4 w kb (ko + i) _ hw.2.1)) hH ?_
                          simp only [Act.put, List.setIfInBounds_toArray, List.set_cons_zero, List.set_cons_succ]
                          refine take_to 20 137 (.bool false) rfl (by kernel_rfl) (by kernel_rfl) (by kernel_rfl) (fun _ _ _ h => h) rfl (by rfl) (fun w _ => by rfl) hH ?_
                          simp only [Act.put, List.setIfInBounds_toArray, List.set_cons_zero, List.set_cons_succ]
                          refine take_to 21 138 (.bool false) rfl (by kernel_rfl) (by kernel_rfl) (by kernel_rfl) (fun _ _ _ h => h) rfl (by rfl) (fun w _ => by rfl) hH ?_
                          simp only [Act.put, List.setIfInBounds_toArray, List.set_cons_zero, List.set_cons_succ]
                          refine skip_to 22 139 rfl (by kernel_rfl) (by kernel_rfl) (by kernel_rfl) (fun _ _ _ h => h) rfl (by rfl) hH ?_
                          simp only [Act.put, List.setIfInBounds_toArray, List.set_cons_zero, List.set_cons_succ]
                          refine skip_to 23 140 rfl (by kernel_rfl) (by kernel_rfl) (by kernel_rfl) (fun _ _ _ h => h) rfl (by rfl) hH ?_
                          simp only [Act.put, List.setIfInBounds_toArray, List.set_cons_zero, List.set_cons_succ]
                          refine skip_to 24 141 rfl (by kernel_rfl) (by kernel_rfl) (by kernel_rfl) (fun _ _ _ h => h) rfl (by rfl) hH ?_
                          simp only [Act.put, List.setIfInBounds_toArray, List.set_cons_zero, List.set_cons_succ]
                          refine skip_to 25 142 rfl (by kernel_rfl) (by kernel_rfl) (by kernel_rfl) (fun _ _ _ h => h) rfl (by rfl) hH ?_
                          simp only [Act.put, List.setIfInBounds_toArray, List.set_cons_zero, List.set_cons_succ]
                          refine skip_to 26 143 rfl (by kernel_rfl) (by kernel_rfl) (by kernel_rfl) (fun _ _ _ h => h) rfl (by rfl) hH ?_
                          simp only [Act.put, List.setIfInBounds_toArray, List.set_cons_zero, List.set_cons_succ]
                          refine skip_to 27 144 rfl (by kernel_rfl) (by kernel_rfl) (by kernel_rfl) (fun _ _ _ h => h) rfl (by rfl) hH ?_
                          simp only [Act.put, List.setIfInBounds_toArray, List.set_cons_zero, List.set_cons_succ]
                          refine take_to 28 145 (.bool false) rfl (by kernel_rfl) (by kernel_rfl) (by kernel_rfl) (fun _ _ _ h => h) rfl (by rfl) (fun w _ => by rfl) hH ?_
                          simp only [Act.put, List.setIfInBounds_toArray, List.set_cons_zero, List.set_cons_succ]
                          refine take_to 29 146 (.bool false) rfl (by kernel_rfl) (by kernel_rfl) (by kernel_rfl) (fun _ _ _ h => h) rfl (by rfl) (fun w _ => by rfl) hH ?_
                          simp only [Act.put, List.setIfInBounds_toArray, List.set_cons_zero, List.set_cons_succ]
                          refine step_to 30 16 (.bool false) wr.drew rfl (by kernel_rfl) rfl (by rfl) rfl hH ?_
                          simp only [Act.put, List.setIfInBounds_toArray, List.set_cons_zero, List.set_cons_succ]
                          refine wpAnyH_done (by kernel_rfl) ?_ _
                          have r1 := hD.below ((Below.refl _ wr).drew)
                          have r4 : Below w.heap.size w wr.drew := hB.drew
                          clear hH hcr
                          go_wp2_with fail
                          go_roundw
                          case rel => exact ⟨i + 1, by omega, by rw [hitTo_succ, HOK.out, HV.out]; rfl, by go_num, hgo2, r1, hq, hgx, r4⟩
                          case measure => simp [intOf]; omega
                        · have hkr : wr.cell? ⟨kb, ko + i, none⟩ = some (.bool true) := by rw [hkr0, hkv]
                          have HV : Hid ((decide (z1.getD i 0 % 8 = (s : Int)) && decide (i < ks.length) && ks.getD i false && decide (x = sec 2 (i : Int))) = decide (x = sec 2 (i : Int))) := by
                            show _ = _; rw [HKZ.out i hi2, hkv, HZ.out, HKS.out]; simp [hz8, hi2]
                          clear hz8 hkr0 hkcell hkv
                          go_wp2_with fail
                          refine wp_region_held_drew (S := fun w' => w'.cell? ⟨b, o + i, none⟩ = some (.int .i64 z) ∧ w'.cell? ⟨kb, ko + i, none⟩ = some (.bool true) ∧ w'.heap[gx]? = some (.cells (secCells x).toArray 5 (0, 0))) (by kernel_rfl) ⟨hcr, hkr, hgx⟩ (fun hH => ?_)
                          refine take_to 0 117 (.bool false) rfl (by kernel_rfl) (by kernel_rfl) (by kernel_rfl) (fun _ _ _ h => h) rfl (by rfl) (fun w _ => by rfl) hH ?_
                          simp only [Act.put, List.setIfInBounds_toArray, List.set_cons_zero, List.set_cons_succ]
                          refine take_to 1 118 (.bool false) rfl (by kernel_rfl) (by kernel_rfl) (by kernel_rfl) (fun _ _ _ h => h) rfl (by rfl) (fun w _ => by rfl) hH ?_
                          simp only [Act.put, List.setIfInBounds_toArray, List.set_cons_zero, List.set_cons_succ]
                          refine take_to 2 119 (.slice (some ⟨b, o, none⟩) len1 cap1) rfl (by kernel_rfl) (by kernel_rfl) (by kernel_rfl) (fun _ _ _ h => h) rfl (by rfl) (fun w _ => by rfl) hH ?_
                          simp only [Act.put, List.setIfInBounds_toArray, List.set_cons_zero, List.set_cons_succ]
                          refine take_to 3 120 (.int .i64 (i : Int)) rfl (by kernel_rfl) (by kernel_rfl) (by kernel_rfl) (fun _ _ _ h => h) rfl (by rfl) (fun w _ => by rfl) hH ?_
                          simp only [Act.put, List.setIfInBounds_toArray, List.set_cons_zero, List.set_cons_succ]
                          refine take_to 4 121 (.pointer (some ⟨b, o + i, none⟩)) rfl (by kernel_rfl) (by kernel_rfl) (by kernel_rfl) (fun _ _ _ h => h) rfl (by rfl) (fun w _ => op_index _ _ 53 (.tmp 119) (.tmp 120) rfl _ _ _ rfl rfl (run_index53 w b o len1 cap1 i hlt)) hH ?_
                          simp only [Act.put, List.setIfInBounds_toArray, List.set_cons_zero, List.set_cons_succ]
                          refine take_to 5 122 (.int .i64 z) rfl (by kernel_rfl) (by kernel_rfl) (by kernel_rfl) (fun _ _ _ h => h) rfl (by rfl) (fun w hw => op_load _ _ 3 (.tmp 121) rfl (.pointer (some ⟨b, o + i, none⟩)) _ rfl (run_load3 w b (o + i) _ hw.1)) hH ?_
                          simp only [Act.put, List.setIfInBounds_toArray, List.set_cons_zero, List.set_cons_succ]
                          refine take_to 6 123 (.int .i64 (z % 8)) rfl (by kernel_rfl) (by kernel_rfl) (by kernel_rfl) (fun _ _ _ h => h) rfl (by rfl) (fun w _ => op_and7 _ _ (.tmp 122) 3 rfl rfl _ rfl) hH ?_
                          simp only [Act.put, List.setIfInBounds_toArray, List.set_cons_zero, List.set_cons_succ]
                          refine take_to 7 124 (.int .i64 (s : Int)) rfl (by kernel_rfl) (by kernel_rfl) (by kernel_rfl) (fun _ _ _ h => h) rfl (by rfl) (fun w _ => by rfl) hH ?_
                          simp only [Act.put, List.setIfInBounds_toArray, List.set_cons_zero, List.set_cons_succ]
                          refine take_to 8 125 (.bool true) rfl (by kernel_rfl) (by kernel_rfl) (by kernel_rfl) (fun _ _ _ h => h) rfl (by rfl) (fun w _ => op_eql3 _ _ (.tmp 123) (.tmp 124) 3 rfl _ _ rfl rfl _ hc1) hH ?_
                          simp only [Act.put, List.setIfInBounds_toArray, List.set_cons_zero, List.set_cons_succ]
                          refine take_to 9 126 (.bool true) rfl (by kernel_rfl) (by kernel_rfl) (by kernel_rfl) (fun _ _ _ h => h) rfl (by rfl) (fun w _ => by rfl) hH ?_
                          simp only [Act.put, List.setIfInBounds_toArray, List.set_cons_zero, List.set_cons_succ]
                          refine take_to 10 127 (.int .i64 (i : Int)) rfl (by kernel_rfl) (by kernel_rfl) (by kernel_rfl) (fun _ _ _ h => h) rfl (by rfl) (fun w _ => by rfl) hH ?_
                          simp only [Act.put, List.setIfInBounds_toArray, List.set_cons_zero, List.set_cons_succ]
                          refine take_to 11 128 (.slice (some ⟨kb, ko, none⟩) len2 cap2) rfl (by kernel_rfl) (by kernel_rfl) (by kernel_rfl) (fun _ _ _ h => h) rfl (by rfl) (fun w _ => by rfl) hH ?_
                          simp only [Act.put, List.setIfInBounds_toArray, List.set_cons_zero, List.set_cons_succ]
                          refine take_to 12 129 (.int .i64 (len2 : Int)) rfl (by kernel_rfl) (by kernel_rfl) (by kernel_rfl) (fun _ _ _ h => h) rfl (by rfl) (fun w _ => op_len _ _ (.tmp 128) 31 4 Try.underlying31 rfl (some ⟨kb, ko, none⟩) len2 cap2 rfl) hH ?_
                          simp only [Act.put, List.setIfInBounds_toArray, List.set_cons_zero, List.set_cons_succ]
                          refine take_to 13 130 (.bool true) rfl (by kernel_rfl) (by kernel_rfl) (by kernel_rfl) (fun _ _ _ h => h) rfl (by rfl) (fun w _ => op_lss3 _ _ (.tmp 127) (.tmp 129) 3 rfl _ _ rfl rfl _ hc2) hH ?_
                          simp only [Act.put, List.setIfInBounds_toArray, List.set_cons_zero, List.set_cons_succ]
                          refine take_to 14 131 (.bool true) rfl (by kernel_rfl) (by kernel_rfl) (by kernel_rfl) (fun _ _ _ h => h) rfl (by rfl) (fun w _ => by rfl) hH ?_
                          simp only [Act.put, List.setIfInBounds_toArray, List.set_cons_zero, List.set_cons_succ]
                          refine take_to 15 132 (.bool true) rfl (by kernel_rfl) (by kernel_rfl) (by kernel_rfl) (fun _ _ _ h => h) rfl (by rfl) (fun w _ => by rfl) hH ?_
                          simp only [Act.put, List.setIfInBounds_toArray, List.set_cons_zero, List.set_cons_succ]
                          refine take_to 16 133 (.slice (some ⟨kb, ko, none⟩) len2 cap2) rfl (by kernel_rfl) (by kernel_rfl) (by kernel_rfl) (fun _ _ _ h => h) rfl (by rfl) (fun w _ => by rfl) hH ?_
                          simp only [Act.put, List.setIfInBounds_toArray, List.set_cons_zero, List.set_cons_succ]
                          refine take_to 17 134 (.int .i64 (i : Int)) rfl (by kernel_rfl) (by kernel_rfl) (by kernel_rfl) (fun _ _ _ h => h) rfl (by rfl) (fun w _ => by rfl) hH ?_
                          simp only [Act.put, List.setIfInBounds_toArray, List.set_cons_zero, List.set_cons_succ]
                          refine take_to 18 135 (.pointer (some ⟨kb, ko + i, none⟩)) rfl (by kernel_rfl) (by kernel_rfl) (by kernel_rfl) (fun _ _ _ h => h) rfl (by rfl) (fun w _ => op_index _ _ 31 (.tmp 133) (.tmp 134) rfl _ _ _ rfl rfl (run_index31 w kb ko len2 cap2 i hi2)) hH ?_
                          simp only [Act.put, List.setIfInBounds_toArray, List.set_cons_zero, List.set_cons_succ]
                          refine take_to 19 136 (.bool true) rfl (by kernel_rfl) (by kernel_rfl) (by kernel_rfl) (fun _ _ _ h => h) rfl (by rfl) (fun w hw => op_load _ _ 4 (.tmp 135) rfl (.pointer (some ⟨kb, ko + i, none⟩)) _ rfl (run_load4 w kb (ko + i) _ hw.2.1)) hH ?_
                          simp only [Act.put, List.setIfInBounds_toArray, List.set_cons_zero, List.set_cons_succ]
                          refine take_to 20 137 (.bool true) rfl (by kernel_rfl) (by kernel_rfl) (by kernel_rfl) (fun _ _ _ h => h) rfl (by rfl) (fun w _ => by rfl) hH ?_
                          simp only [Act.put, List.setIfInBounds_toArray, List.set_cons_zero, List.set_cons_succ]
                          refine take_to 21 138 (.bool true) rfl (by kernel_rfl) (by kernel_rfl) (by kernel_rfl) (fun _ _ _ h => h) rfl (by rfl) (fun w _ => by rfl) hH ?_
                          simp only [Act.put, List.setIfInBounds_toArray, List.set_cons_zero, List.set_cons_succ]
                          refine take_to 22 139 (.slice (some ⟨gx, 0, none⟩) 128 128) rfl (by kernel_rfl) (by kernel_rfl) (by kernel_rfl) (fun _ _ _ h => h) rfl (by rfl) (fun w _ => by rfl) hH ?_
                          simp only [Act.put, List.setIfInBounds_toArray, List.set_cons_zero, List.set_cons_succ]
                          refine take_to 23 140 (.string (strOf x)) rfl (by kernel_rfl) (by kernel_rfl) (by kernel_rfl) (fun _ _ _ h => h) rfl (by rfl) (fun w hw => op_conv _ _ 34 9 (.tmp 139) rfl _ _ rfl (run_str w gx 128 x HXL.out hw.2.2)) hH ?_
                          simp only [Act.put, List.setIfInBounds_toArray, List.set_cons_zero, List.set_cons_succ]
                          refine take_to 24 141 (.int .i64 (i : Int)) rfl (by kernel_rfl) (by kernel_rfl) (by kernel_rfl) (fun _ _ _ h => h) rfl (by rfl) (fun w _ => by rfl) hH ?_
                          simp only [Act.put, List.setIfInBounds_toArray, List.set_cons_zero, List.set_cons_succ]
                          refine step_call2_to 25 142 10 rfl (by kernel_rfl) rfl (by rfl) (.const (.int .i64 2)) (.tmp 141) _ rfl _ _ rfl rfl Try.enters10 (sector_dev 2 (i : Int) wr.drew) ?_
                          rintro e w9 ⟨rfl, hq9, hB9⟩
                          have hS9 : w9.cell? ⟨b, o + i, none⟩ = some (.int .i64 z) ∧ w9.cell? ⟨kb, ko + i, none⟩ = some (.bool true) ∧ w9.heap[gx]? = some (.cells (secCells x).toArray 5 (0, 0)) :=
                            ⟨(hB9.cell (p := ⟨b, o + i, none⟩) hbw).trans hcr, (hB9.cell (p := ⟨kb, ko + i, none⟩) hkw).trans hkr, (hB9.block gx hgw).trans hgx⟩
                          refine ⟨_, rfl, hS9, ?_⟩
                          simp only [Act.put, List.setIfInBounds_toArray, List.set_cons_zero, List.set_cons_succ]
                          refine step_to 26 143 (.string (strOf (sec 2 (i : Int)))) w9 rfl (by kernel_rfl) rfl (by rfl) (op_conv _ _ 34 9 (.tmp 142) rfl _ _ rfl (run_str w9 wr.drew.heap.size 128 _ (length_sec _ _) hq9)) hS9 ?_
                          simp only [Act.put, List.setIfInBounds_toArray, List.set_cons_zero, List.set_cons_succ]
                          refine step_to 27 144 (.bool (decide (x = sec 2 (i : Int)))) w9 rfl (by kernel_rfl) rfl (by rfl) (op_eqlstr _ _ (.tmp 140) (.tmp 143) 9 rfl _ _ rfl rfl) hS9 ?_
                          simp only [Act.put, List.setIfInBounds_toArray, List.set_cons_zero, List.set_cons_succ]
                          refine step_to 28 145 (.bool (decide (x = sec 2 (i : Int)))) w9 rfl (by kernel_rfl) rfl (by rfl) rfl hS9 ?_
                          simp only [Act.put, List.setIfInBounds_toArray, List.set_cons_zero, List.set_cons_succ]
                          refine step_to 29 146 (.bool (decide (x = sec 2 (i : Int)))) w9 rfl (by kernel_rfl) rfl (by rfl) rfl hS9 ?_
                          simp only [Act.put, List.setIfInBounds_toArray, List.set_cons_zero, List.set_cons_succ]
                          refine step_to 30 16 (.bool (decide (x = sec 2 (i : Int)))) w9 rfl (by kernel_rfl) rfl (by rfl) rfl hS9 ?_
                          simp only [Act.put, List.setIfInBounds_toArray, List.set_cons_zero, List.set_cons_succ]
                          refine wpAnyH_done (by kernel_rfl) ?_ _
                          have r1 := hD.below (((Below.refl _ wr).drew).trans hB9)
                          have r2 := (hB9.block q hqw9).trans hq
                          have r3 := (hB9.block gx hgw).trans hgx
                          have r5 := (hB9.block g hgg).trans hgo2
                          have r4 : Below w.heap.size w w9 := hB.trans ((((Below.refl _ wr).drew).trans hB9).mono hB.size)
                          clear hH hcr
                          go_wp2_with fail
                          go_roundw
                          case rel => exact ⟨i + 1, by omega, by rw [hitTo_succ, HOK.out, HV.out]; rfl, by go_num, r5, r1, r2, r3, r4⟩
                          case measure => simp [intOf]; omega
                      · have hc2 : decide ((i : Int) < (len2 : Int)) = false := by simp; omega
                        have HV : Hid ((decide (z1.getD i 0 % 8 = (s : Int)) && decide (i < ks.length) && ks.getD i false && decide (x = sec 2 (i : Int))) = false) := by
                          show _ = _; rw [HKS.out]; simp [hi2]
                        clear hz8
                        go_wp2_with fail
                        refine wp_region_held_drew (S := fun w' => w'.cell? ⟨b, o + i, none⟩ = some (.int .i64 z) ∧ True) (by kernel_rfl) ⟨hcr, trivial⟩ (fun hH => ?_)
                        refine take_to 0 117 (.bool false) rfl (by kernel_rfl) (by kernel_rfl) (by kernel_rfl) (fun _ _ _ h => h) rfl (by rfl) (fun w _ => by rfl) hH ?_
                        simp only [Act.put, List.setIfInBounds_toArray, List.set_cons_zero, List.set_cons_succ]
                        refine take_to 1 118 (.bool false) rfl (by kernel_rfl) (by kernel_rfl) (by kernel_rfl) (fun _ _ _ h => h) rfl (by rfl) (fun w _ => by rfl) hH ?_
                        simp only [Act.put, List.setIfInBounds_toArray, List.set_cons_zero, List.set_cons_succ]
                        refine take_to 2 119 (.slice (some ⟨b, o, none⟩) len1 cap1) rfl (by kernel_rfl) (by kernel_rfl) (by kernel_rfl) (fun _ _ _ h => h) rfl (by rfl) (fun w _ => by rfl) hH ?_
                        simp only [Act.put, List.setIfInBounds_toArray, List.set_cons_zero, List.set_cons_succ]
                        refine take_to 3 120 (.int .i64 (i : Int)) rfl (by kernel_rfl) (by kernel_rfl) (by kernel_rfl) (fun _ _ _ h => h) rfl (by rfl) (fun w _ => by rfl) hH ?_
                        simp only [Act.put, List.setIfInBounds_toArray, List.set_cons_zero, List.set_cons_succ]
                        refine take_to 4 121 (.pointer (some ⟨b, o + i, none⟩)) rfl (by kernel_rfl) (by kernel_rfl) (by kernel_rfl) (fun _ _ _ h => h) rfl (by rfl) (fun w _ => op_index _ _ 53 (.tmp 119) (.tmp 120) rfl _ _ _ rfl rfl (run_index53 w b o len1 cap1 i hlt)) hH ?_
                        simp only [Act.put, List.setIfInBounds_toArray, List.set_cons_zero, List.set_cons_succ]
                        refine take_to 5 122 (.int .i64 z) rfl (by kernel_rfl) (by kernel_rfl) (by kernel_rfl) (fun _ _ _ h => h) rfl (by rfl) (fun w hw => op_load _ _ 3 (.tmp 121) rfl (.pointer (some ⟨b, o + i, none⟩)) _ rfl (run_load3 w b (o + i) _ hw.1)) hH ?_
                        simp only [Act.put, List.setIfInBounds_toArray, List.set_cons_zero, List.set_cons_succ]
                        refine take_to 6 123 (.int .i64 (z % 8)) rfl (by kernel_rfl) (by kernel_rfl) (by kernel_rfl) (fun _ _ _ h => h) rfl (by rfl) (fun w _ => op_and7 _ _ (.tmp 122) 3 rfl rfl _ rfl) hH ?_
                        simp only [Act.put, List.setIfInBounds_toArray, List.set_cons_zero, List.set_cons_succ]
                        refine take_to 7 124 (.int .i64 (s : Int)) rfl (by kernel_rfl) (by kernel_rfl) (by kernel_rfl) (fun _ _ _ h => h) rfl (by rfl) (fun w _ => by rfl) hH ?_
                        simp only [Act.put, List.setIfInBounds_toArray, List.set_cons_zero, List.set_cons_succ]
                        refine take_to 8 125 (.bool true) rfl (by kernel_rfl) (by kernel_rfl) (by kernel_rfl) (fun _ _ _ h => h) rfl (by rfl) (fun w _ => op_eql3 _ _ (.tmp 123) (.tmp 124) 3 rfl _ _ rfl rfl _ hc1) hH ?_
                        simp only [Act.put, List.setIfInBounds_toArray, List.set_cons_zero, List.set_cons_succ]
                        refine take_to 9 126 (.bool true) rfl (by kernel_rfl) (by kernel_rfl) (by kernel_rfl) (fun _ _ _ h => h) rfl (by rfl) (fun w _ => by rfl) hH ?_
                        simp only [Act.put, List.setIfInBounds_toArray, List.set_cons_zero, List.set_cons_succ]
                        refine take_to 10 127 (.int .i64 (i : Int)) rfl (by kernel_rfl) (by kernel_rfl) (by kernel_rfl) (fun _ _ _ h => h) rfl (by rfl) (fun w _ => by rfl) hH ?_
                        simp only [Act.put, List.setIfInBounds_toArray, List.set_cons_zero, List.set_cons_succ]
                        refine take_to 11 128 (.slice a2 len2 cap2) rfl (by kernel_rfl) (by kernel_rfl) (by kernel_rfl) (fun _ _ _ h => h) rfl (by rfl) (fun w _ => by rfl) hH ?_
                        simp only [Act.put, List.setIfInBounds_toArray, List.set_cons_zero, List.set_cons_succ]
                        refine take_to 12 129 (.int .i64 (len2 : Int)) rfl (by kernel_rfl) (by kernel_rfl) (by kernel_rfl) (fun _ _ _ h => h) rfl (by rfl) (fun w _ => op_len _ _ (.tmp 128) 31 4 Try.underlying31 rfl a2 len2 cap2 rfl) hH ?_
                        simp only [Act.put, List.setIfInBounds_toArray, List.set_cons_zero, List.set_cons_succ]
                        refine take_to 13 130 (.bool false) rfl (by kernel_rfl) (by kernel_rfl) (by kernel_rfl) (fun _ _ _ h => h) rfl (by rfl) (fun w _ => op_lss3 _ _ (.tmp 127) (.tmp 129) 3 rfl _ _ rfl rfl _ hc2) hH ?_
                        simp only [Act.put, List.setIfInBounds_toArray, List.set_cons_zero, List.set_cons_succ]
                        refine take_to 14 131 (.bool false) rfl (by kernel_rfl) (by kernel_rfl) (by kernel_rfl) (fun _ _ _ h => h) rfl (by rfl) (fun w _ => by rfl) hH ?_
                        simp only [Act.put, List.setIfInBounds_toArray, List.set_cons_zero, List.set_cons_succ]
                        refine take_to 15 132 (.bool false) rfl (by kernel_rfl) (by kernel_rfl) (by kernel_rfl) (fun _ _ _ h => h) rfl (by rfl) (fun w _ => by rfl) hH ?_
                        simp only [Act.put, List.setIfInBounds_toArray, List.set_cons_zero, List.set_cons_succ]
                        refine skip_to 16 133 rfl (by kernel_rfl) (by kernel_rfl) (by kernel_rfl) (fun _ _ _ h => h) rfl (by rfl) hH ?_
                        simp only [Act.put, List.setIfInBounds_toArray, List.set_cons_zero, List.set_cons_succ]
                        refine skip_to 17 134 rfl (by kernel_rfl) (by kernel_rfl) (by kernel_rfl) (fun _ _ _ h => h) rfl (by rfl) hH ?_
                        simp only [Act.put, List.setIfInBounds_toArray, List.set_cons_zero, List.set_cons_succ]
                        refine skip_to 18 135 rfl (by kernel_rfl) (by kernel_rfl) (by kernel_rfl) (fun _ _ _ h => h) rfl (by rfl) hH ?_
                        simp only [Act.put, List.setIfInBounds_toArray, List.set_cons_zero, List.set_cons_succ]
                        refine skip_to 19 136 rfl (by kernel_rfl) (by kernel_rfl) (by kernel_rfl) (fun _ _ _ h => h) rfl (by rfl) hH ?_
                        simp only [Act.put, List.setIfInBounds_toArray, List.set_cons_zero, List.set_cons_succ]
                        refine take_to 20 137 (.bool false) rfl (by kernel_rfl) (by kernel_rfl) (by kernel_rfl) (fun _ _ _ h => h) rfl (by rfl) (fun w _ => by rfl) hH ?_
                        simp only [Act.put, List.setIfInBounds_toArray, List.set_cons_zero, List.set_cons_succ]
                        refine take_to 21 138 (.bool false) rfl (by kernel_rfl) (by kernel_rfl) (by kernel_rfl) (fun _ _ _ h => h) rfl (by rfl) (fun w _ => by rfl) hH ?_
                        simp only [Act.put, List.setIfInBounds_toArray, List.set_cons_zero, List.set_cons_succ]
                        refine skip_to 22 139 rfl (by kernel_rfl) (by kernel_rfl) (by kernel_rfl) (fun _ _ _ h => h) rfl (by rfl) hH ?_
                        simp only [Act.put, List.setIfInBounds_toArray, List.set_cons_zero, List.set_cons_succ]
                        refine skip_to 23 140 rfl (by kernel_rfl) (by kernel_rfl) (by kernel_rfl) (fun _ _ _ h => h) rfl (by rfl) hH ?_
                        simp only [Act.put, List.setIfInBounds_toArray, List.set_cons_zero, List.set_cons_succ]
                        refine skip_to 24 141 rfl (by kernel_rfl) (by kernel_rfl) (by kernel_rfl) (fun _ _ _ h => h) rfl (by rfl) hH ?_
                        simp only [Act.put, List.setIfInBounds_toArray, List.set_cons_zero, List.set_cons_succ]
                        refine skip_to 25 142 rfl (by kernel_rfl) (by kernel_rfl) (by kernel_rfl) (fun _ _ _ h => h) rfl (by rfl) hH ?_
                        simp only [Act.put, List.setIfInBounds_toArray, List.set_cons_zero, List.set_cons_succ]
                        refine skip_to 26 143 rfl (by kernel_rfl) (by kernel_rfl) (by kernel_rfl) (fun _ _ _ h => h) rfl (by rfl) hH ?_
                        simp only [Act.put, List.setIfInBounds_toArray, List.set_cons_zero, List.set_cons_succ]
                        refine skip_to 27 144 rfl (by kernel_rfl) (by kernel_rfl) (by kernel_rfl) (fun _ _ _ h => h) rfl (by rfl) hH ?_
                        simp only [Act.put, List.setIfInBounds_toArray, List.set_cons_zero, List.set_cons_succ]
                        refine take_to 28 145 (.bool false) rfl (by kernel_rfl) (by kernel_rfl) (by kernel_rfl) (fun _ _ _ h => h) rfl (by rfl) (fun w _ => by rfl) hH ?_
                        simp only [Act.put, List.setIfInBounds_toArray, List.set_cons_zero, List.set_cons_succ]
                        refine take_to 29 146 (.bool false) rfl (by kernel_rfl) (by kernel_rfl) (by kernel_rfl) (fun _ _ _ h => h) rfl (by rfl) (fun w _ => by rfl) hH ?_
                        simp only [Act.put, List.setIfInBounds_toArray, List.set_cons_zero, List.set_cons_succ]
                        refine step_to 30 16 (.bool false) wr.drew rfl (by kernel_rfl) rfl (by rfl) rfl hH ?_
                        simp only [Act.put, List.setIfInBounds_toArray, List.set_cons_zero, List.set_cons_succ]
                        refine wpAnyH_done (by kernel_rfl) ?_ _
                        have r1 := hD.below ((Below.refl _ wr).drew)
                        have r4 : Below w.heap.size w wr.drew := hB.drew
                        clear hH hcr
                        go_wp2_with fail
                        go_roundw
                        case rel => exact ⟨i + 1, by omega, by rw [hitTo_succ, HOK.out, HV.out]; rfl, by go_num, hgo2, r1, hq, hgx, r4⟩
                        case measure => simp [intOf]; omega
                    · have hc1 : (z % 8 == (s : Int)) = false := by simpa using hz8
                      have HV : Hid ((decide (z1.getD i 0 % 8 = (s : Int)) && decide (i < ks.length) && ks.getD i false && decide (x = sec 2 (i : Int))) = false) := by
                        show _ = _; rw [HZ.out]; simp [hz8]
                      clear hz8
                      go_wp2_with fail
                      refine wp_region_held_drew (S := fun w' => w'.cell? ⟨b, o + i, none⟩ = some (.int .i64 z) ∧ True) (by kernel_rfl) ⟨hcr, trivial⟩ (fun hH => ?_)
                      refine take_to 0 117 (.bool false) rfl (by kernel_rfl) (by kernel_rfl) (by kernel_rfl) (fun _ _ _ h => h) rfl (by rfl) (fun w _ => by rfl) hH ?_
                      simp only [Act.put, List.setIfInBounds_toArray, List.set_cons_zero, List.set_cons_succ]
                      refine take_to 1 118 (.bool false) rfl (by kernel_rfl) (by kernel_rfl) (by kernel_rfl) (fun _ _ _ h => h) rfl (by rfl) (fun w _ => by rfl) hH ?_
                      simp only [Act.put, List.setIfInBounds_toArray, List.set_cons_zero, List.set_cons_succ]
                      refine take_to 2 119 (.slice (some ⟨b, o, none⟩) len1 cap1) rfl (by kernel_rfl) (by kernel_rfl) (by kernel_rfl) (fun _ _ _ h => h) rfl (by rfl) (fun w _ => by rfl) hH ?_
                      simp only [Act.put, List.setIfInBounds_toArray, List.set_cons_zero, List.set_cons_succ]
                      refine take_to 3 120 (.int .i64 (i : Int)) rfl (by kernel_rfl) (by kernel_rfl) (by kernel_rfl) (fun _ _ _ h => h) rfl (by rfl) (fun w _ => by rfl) hH ?_
                      simp only [Act.put, List.setIfInBounds_toArray, List.set_cons_zero, List.set_cons_succ]
                      refine take_to 4 121 (.pointer (some ⟨b, o + i, none⟩)) rfl (by kernel_rfl) (by kernel_rfl) (by kernel_rfl) (fun _ _ _ h => h) rfl (by rfl) (fun w _ => op_index _ _ 53 (.tmp 119) (.tmp 120) rfl _ _ _ rfl rfl (run_index53 w b o len1 cap1 i hlt)) hH ?_
                      simp only [Act.put, List.setIfInBounds_toArray, List.set_cons_zero, List.set_cons_succ]
                      refine take_to 5 122 (.int .i64 z) rfl (by kernel_rfl) (by kernel_rfl) (by kernel_rfl) (fun _ _ _ h => h) rfl (by rfl) (fun w hw => op_load _ _ 3 (.tmp 121) rfl (.pointer (some ⟨b, o + i, none⟩)) _ rfl (run_load3 w b (o + i) _ hw.1)) hH ?_
                      simp only [Act.put, List.setIfInBounds_toArray, List.set_cons_zero, List.set_cons_succ]
                      refine take_to 6 123 (.int .i64 (z % 8)) rfl (by kernel_rfl) (by kernel_rfl) (by kernel_rfl) (fun _ _ _ h => h) rfl (by rfl) (fun w _ => op_and7 _ _ (.tmp 122) 3 rfl rfl _ rfl) hH ?_
                      simp only [Act.put, List.setIfInBounds_toArray, List.set_cons_zero, List.set_cons_succ]
                      refine take_to 7 124 (.int .i64 (s : Int)) rfl (by kernel_rfl) (by kernel_rfl) (by kernel_rfl) (fun _ _ _ h => h) rfl (by rfl) (fun w _ => by rfl) hH ?_
                      simp only [Act.put, List.setIfInBounds_toArray, List.set_cons_zero, List.set_cons_succ]
                      refine take_to 8 125 (.bool false) rfl (by kernel_rfl) (by kernel_rfl) (by kernel_rfl) (fun _ _ _ h => h) rfl (by rfl) (fun w _ => op_eql3 _ _ (.tmp 123) (.tmp 124) 3 rfl _ _ rfl rfl _ hc1) hH ?_
                      simp only [Act.put, List.setIfInBounds_toArray, List.set_cons_zero, List.set_cons_succ]
                      refine take_to 9 126 (.bool false) rfl (by kernel_rfl) (by kernel_rfl) (by kernel_rfl) (fun _ _ _ h => h) rfl (by rfl) (fun w _ => by rfl) hH ?_
                      simp only [Act.put, List.setIfInBounds_toArray, List.set_cons_zero, List.set_cons_succ]
                      refine skip_to 10 127 rfl (by kernel_rfl) (by kernel_rfl) (by kernel_rfl) (fun _ _ _ h => h) rfl (by rfl) hH ?_
                      simp only [Act.put, List.setIfInBounds_toArray, List.set_cons_zero, List.set_cons_succ]
                      refine skip_to 11 128 rfl (by kernel_rfl) (by kernel_rfl) (by kernel_rfl) (fun _ _ _ h => h) rfl (by rfl) hH ?_
                      simp only [Act.put, List.setIfInBounds_toArray, List.set_cons_zero, List.set_cons_succ]
                      refine skip_to 12 129 rfl (by kernel_rfl) (by kernel_rfl) (by kernel_rfl) (fun _ _ _ h => h) rfl (by rfl) hH ?_
                      simp only [Act.put, List.setIfInBounds_toArray, List.set_cons_zero, List.set_cons_succ]
                      refine skip_to 13 130 rfl (by kernel_rfl) (by kernel_rfl) (by kernel_rfl) (fun _ _ _ h => h) rfl (by rfl) hH ?_
                      simp only [Act.put, List.setIfInBounds_toArray, List.set_cons_zero, List.set_cons_succ]
                      refine take_to 14 131 (.bool false) rfl (by kernel_rfl) (by kernel_rfl) (by kernel_rfl) (fun _ _ _ h => h) rfl (by rfl) (fun w _ => by rfl) hH ?_
                      simp only [Act.put, List.setIfInBounds_toArray, List.set_cons_zero, List.set_cons_succ]
                      refine take_to 15 132 (.bool false) rfl (by kernel_rfl) (by kernel_rfl) (by kernel_rfl) (fun _ _ _ h => h) rfl (by rfl) (fun w _ => by rfl) hH ?_
                      simp only [Act.put, List.setIfInBounds_toArray, List.set_cons_zero, List.set_cons_succ]
                      refine skip_to 16 133 rfl (by kernel_rfl) (by kernel_rfl) (by kernel_rfl) (fun _ _ _ h => h) rfl (by rfl) hH ?_
                      simp only [Act.put, List.setIfInBounds_toArray, List.set_cons_zero, List.set_cons_succ]
                      refine skip_to 17 134 rfl (by kernel_rfl) (by kernel_rfl) (by kernel_rfl) (fun _ _ _ h => h) rfl (by rfl) hH ?_
                      simp only [Act.put, List.setIfInBounds_toArray, List.set_cons_zero, List.set_cons_succ]
                      refine skip_to 18 135 rfl (by kernel_rfl) (by kernel_rfl) (by kernel_rfl) (fun _ _ _ h => h) rfl (by rfl) hH ?_
                      simp only [Act.put, List.setIfInBounds_toArray, List.set_cons_zero, List.set_cons_succ]
                      refine skip_to 19 136 rfl (by kernel_rfl) (by kernel_rfl) (by kernel_rfl) (fun _ _ _ h => h) rfl (by rfl) hH ?_
                      simp only [Act.put, List.setIfInBounds_toArray, List.set_cons_zero, List.set_cons_succ]
                      refine take_to 20 137 (.bool false) rfl (by kernel_rfl) (by kernel_rfl) (by kernel_rfl) (fun _ _ _ h => h) rfl (by rfl) (fun w _ => by rfl) hH ?_
                      simp only [Act.put, List.setIfInBounds_toArray, List.set_cons_zero, List.set_cons_succ]
                      refine take_to 21 138 (.bool false) rfl (by kernel_rfl) (by kernel_rfl) (by kernel_rfl) (fun _ _ _ h => h) rfl (by rfl) (fun w _ => by rfl) hH ?_
                      simp only [Act.put, List.setIfInBounds_toArray, List.set_cons_zero, List.set_cons_succ]
                      refine skip_to 22 139 rfl (by kernel_rfl) (by kernel_rfl) (by kernel_rfl) (fun _ _ _ h => h) rfl (by rfl) hH ?_
                      simp only [Act.put, List.setIfInBounds_toArray, List.set_cons_zero, List.set_cons_succ]
                      refine skip_to 23 140 rfl (by kernel_rfl) (by kernel_rfl) (by kernel_rfl) (fun _ _ _ h => h) rfl (by rfl) hH ?_
                      simp only [Act.put, List.setIfInBounds_toArray, List.set_cons_zero, List.set_cons_succ]
                      refine skip_to 24 141 rfl (by kernel_rfl) (by kernel_rfl) (by kernel_rfl) (fun _ _ _ h => h) rfl (by rfl) hH ?_
                      simp only [Act.put, List.setIfInBounds_toArray, List.set_cons_zero, List.set_cons_succ]
                      refine skip_to 25 142 rfl (by kernel_rfl) (by kernel_rfl) (by kernel_rfl) (fun _ _ _ h => h) rfl (by rfl) hH ?_
                      simp only [Act.put, List.setIfInBounds_toArray, List.set_cons_zero, List.set_cons_succ]
                      refine skip_to 26 143 rfl (by kernel_rfl) (by kernel_rfl) (by kernel_rfl) (fun _ _ _ h => h) rfl (by rfl) hH ?_
                      simp only [Act.put, List.setIfInBounds_toArray, List.set_cons_zero, List.set_cons_succ]
                      refine skip_to 27 144 rfl (by kernel_rfl) (by kernel_rfl) (by kernel_rfl) (fun _ _ _ h => h) rfl (by rfl) hH ?_
                      simp only [Act.put, List.setIfInBounds_toArray, List.set_cons_zero, List.set_cons_succ]
                      refine take_to 28 145 (.bool false) rfl (by kernel_rfl) (by kernel_rfl) (by kernel_rfl) (fun _ _ _ h => h) rfl (by rfl) (fun w _ => by rfl) hH ?_
                      simp only [Act.put, List.setIfInBounds_toArray, List.set_cons_zero, List.set_cons_succ]
                      refine take_to 29 146 (.bool false) rfl (by kernel_rfl) (by kernel_rfl) (by kernel_rfl) (fun _ _ _ h => h) rfl (by rfl) (fun w _ => by rfl) hH ?_
                      simp only [Act.put, List.setIfInBounds_toArray, List.set_cons_zero, List.set_cons_succ]
                      refine step_to 30 16 (.bool false) wr.drew rfl (by kernel_rfl) rfl (by rfl) rfl hH ?_
                      simp only [Act.put, List.setIfInBounds_toArray, List.set_cons_zero, List.set_cons_succ]
                      refine wpAnyH_done (by kernel_rfl) ?_ _
                      have r1 := hD.below ((Below.refl _ wr).drew)
                      have r4 : Below w.heap.size w wr.drew := hB.drew
                      clear hH hcr
                      go_wp2_with fail
                      go_roundw
                      case rel => exact ⟨i + 1, by omega, by rw [hitTo_succ, HOK.out, HV.out]; rfl, by go_num, hgo2, r1, hq, hgx, r4⟩
                      case measure => simp [intOf]; omega
                  · have HOK := hide hok
                    have HV : Hid (True) := trivial
                    clear hok
                    go_wp2_with fail
                    refine wp_region_held_drew (S := fun w' => w'.cell? ⟨b, o + i, none⟩ = some (.int .i64 z) ∧ True) (by kernel_rfl) ⟨hcr, trivial⟩ (fun hH => ?_)
                    refine take_to 0 117 (.bool true) rfl (by kernel_rfl) (by kernel_rfl) (by kernel_rfl) (fun _ _ _ h => h) rfl (by rfl) (fun w _ => by rfl) hH ?_
                    simp only [Act.put, List.setIfInBounds_toArray, List.set_cons_zero, List.set_cons_succ]
                    refine take_to 1 118 (.bool true) rfl (by kernel_rfl) (by kernel_rfl) (by kernel_rfl) (fun _ _ _ h => h) rfl (by rfl) (fun w _ => by rfl) hH ?_
                    simp only [Act.put, List.setIfInBounds_toArray, List.set_cons_zero, List.set_cons_succ]
                    refine skip_to 2 119 rfl (by kernel_rfl) (by kernel_rfl) (by kernel_rfl) (fun _ _ _ h => h) rfl (by rfl) hH ?_
                    simp only [Act.put, List.setIfInBounds_toArray, List.set_cons_zero, List.set_cons_succ]
                    refine skip_to 3 120 rfl (by kernel_rfl) (by kernel_rfl) (by kernel_rfl) (fun _ _ _ h => h) rfl (by rfl) hH ?_
                    simp only [Act.put, List.setIfInBounds_toArray, List.set_cons_zero, List.set_cons_succ]
                    refine skip_to 4 121 rfl (by kernel_rfl) (by kernel_rfl) (by kernel_rfl) (fun _ _ _ h => h) rfl (by rfl) hH ?_
                    simp only [Act.put, List.setIfInBounds_toArray, List.set_cons_zero, List.set_cons_succ]
                    refine skip_to 5 122 rfl (by kernel_rfl) (by kernel_rfl) (by kernel_rfl) (fun _ _ _ h => h) rfl (by rfl) hH ?_
                    simp only [Act.put, List.setIfInBounds_toArray, List.set_cons_zero, List.set_cons_succ]
                    refine skip_to 6 123 rfl (by kernel_rfl) (by kernel_rfl) (by kernel_rfl) (fun _ _ _ h => h) rfl (by rfl) hH ?_
                    simp only [Act.put, List.setIfInBounds_toArray, List.set_cons_zero, List.set_cons_succ]
                    refine skip_to 7 124 rfl (by kernel_rfl) (by kernel_rfl) (by kernel_rfl) (fun _ _ _ h => h) rfl (by rfl) hH ?_
                    simp only [Act.put, List.setIfInBounds_toArray, List.set_cons_zero, List.set_cons_succ]
                    refine skip_to 8 125 rfl (by kernel_rfl) (by kernel_rfl) (by kernel_rfl) (fun _ _ _ h => h) rfl (by rfl) hH ?_
                    simp only [Act.put, List.setIfInBounds_toArray, List.set_cons_zero, List.set_cons_succ]
                    refine skip_to 9 126 rfl (by kernel_rfl) (by kernel_rfl) (by kernel_rfl) (fun _ _ _ h => h) rfl (by rfl) hH ?_
                    simp only [Act.put, List.setIfInBounds_toArray, List.set_cons_zero, List.set_cons_succ]
                    refine skip_to 10 127 rfl (by kernel_rfl) (by kernel_rfl) (by kernel_rfl) (fun _ _ _ h => h) rfl (by rfl) hH ?_
                    simp only [Act.put, List.setIfInBounds_toArray, List.set_cons_zero, List.set_cons_succ]
                    refine skip_to 11 128 rfl (by kernel_rfl) (by kernel_rfl) (by kernel_rfl) (fun _ _ _ h => h) rfl (by rfl) hH ?_
                    simp only [Act.put, List.setIfInBounds_toArray, List.set_cons_zero, List.set_cons_succ]
                    refine skip_to 12 129 rfl (by kernel_rfl) (by kernel_rfl) (by kernel_rfl) (fun _ _ _ h => h) rfl (by rfl) hH ?_
                    simp only [Act.put, List.setIfInBounds_toArray, List.set_cons_zero, List.set_cons_succ]
                    refine skip_to 13 130 rfl (by kernel_rfl) (by kernel_rfl) (by kernel_rfl) (fun _ _ _ h => h) rfl (by rfl) hH ?_
                    simp only [Act.put, List.setIfInBounds_toArray, List.set_cons_zero, List.set_cons_succ]
                    refine skip_to 14 131 rfl (by kernel_rfl) (by kernel_rfl) (by kernel_rfl) (fun _ _ _ h => h) rfl (by rfl) hH ?_
                    simp only [Act.put, List.setIfInBounds_toArray, List.set_cons_zero, List.set_cons_succ]
                    refine skip_to 15 132 rfl (by kernel_rfl) (by kernel_rfl) (by kernel_rfl) (fun _ _ _ h => h) rfl (by rfl) hH ?_
                    simp only [Act.put, List.setIfInBounds_toArray, List.set_cons_zero, List.set_cons_succ]
                    refine skip_to 16 133 rfl (by kernel_rfl) (by kernel_rfl) (by kernel_rfl) (fun _ _ _ h => h) rfl (by rfl) hH ?_
                    simp only [Act.put, List.setIfInBounds_toArray, List.set_cons_zero, List.set_cons_succ]
                    refine skip_to 17 134 rfl (by kernel_rfl) (by kernel_rfl) (by kernel_rfl) (fun _ _ _ h => h) rfl (by rfl) hH ?_
                    simp only [Act.put, List.setIfInBounds_toArray, List.set_cons_zero, List.set_cons_succ]
                    refine skip_to 18 135 rfl (by kernel_rfl) (by kernel_rfl) (by kernel_rfl) (fun _ _ _ h => h) rfl (by rfl) hH ?_
                    simp only [Act.put, List.setIfInBounds_toArray, List.set_cons_zero, List.set_cons_succ]
                    refine skip_to 19 136 rfl (by kernel_rfl) (by kernel_rfl) (by kernel_rfl) (fun _ _ _ h => h) rfl (by rfl) hH ?_
                    simp only [Act.put, List.setIfInBounds_toArray, List.set_cons_zero, List.set_cons_succ]
                    refine skip_to 20 137 rfl (by kernel_rfl) (by kernel_rfl) (by kernel_rfl) (fun _ _ _ h => h) rfl (by rfl) hH ?_
                    simp only [Act.put, List.setIfInBounds_toArray, List.set_cons_zero, List.set_cons_succ]
                    refine skip_to 21 138 rfl (by kernel_rfl) (by kernel_rfl) (by kernel_rfl) (fun _ _ _ h => h) rfl (by rfl) hH ?_
                    simp only [Act.put, List.setIfInBounds_toArray, List.set_cons_zero, List.set_cons_succ]
                    refine skip_to 22 139 rfl (by kernel_rfl) (by kernel_rfl) (by kernel_rfl) (fun _ _ _ h => h) rfl (by rfl) hH ?_
                    simp only [Act.put, List.setIfInBounds_toArray, List.set_cons_zero, List.set_cons_succ]
                    refine skip_to 23 140 rfl (by kernel_rfl) (by kernel_rfl) (by kernel_rfl) (fun _ _ _ h => h) rfl (by rfl) hH ?_
                    simp only [Act.put, List.setIfInBounds_toArray, List.set_cons_zero, List.set_cons_succ]
                    refine skip_to 24 141 rfl (by kernel_rfl) (by kernel_rfl) (by kernel_rfl) (fun _ _ _ h => h) rfl (by rfl) hH ?_
                    simp only [Act.put, List.setIfInBounds_toArray, List.set_cons_zero, List.set_cons_succ]
                    refine skip_to 25 142 rfl (by kernel_rfl) (by kernel_rfl) (by kernel_rfl) (fun _ _ _ h => h) rfl (by rfl) hH ?_
                    simp only [Act.put, List.setIfInBounds_toArray, List.set_cons_zero, List.set_cons_succ]
                    refine skip_to 26 143 rfl (by kernel_rfl) (by kernel_rfl) (by kernel_rfl) (fun _ _ _ h => h) rfl (by rfl) hH ?_
                    simp only [Act.put, List.setIfInBounds_toArray, List.set_cons_zero, List.set_cons_succ]
                    refine skip_to 27 144 rfl (by kernel_rfl) (by kernel_rfl) (by kernel_rfl) (fun _ _ _ h => h) rfl (by rfl) hH ?_
                    simp only [Act.put, List.setIfInBounds_toArray, List.set_cons_zero, List.set_cons_succ]
                    refine skip_to 28 145 rfl (by kernel_rfl) (by kernel_rfl) (by kernel_rfl) (fun _ _ _ h => h) rfl (by rfl) hH ?_
                    simp only [Act.put, List.setIfInBounds_toArray, List.set_cons_zero, List.set_cons_succ]
                    refine take_to 29 146 (.bool true) rfl (by kernel_rfl) (by kernel_rfl) (by kernel_rfl) (fun _ _ _ h => h) rfl (by rfl) (fun w _ => by rfl) hH ?_
                    simp only [Act.put, List.setIfInBounds_toArray, List.set_cons_zero, List.set_cons_succ]
                    refine step_to 30 16 (.bool true) wr.drew rfl (by kernel_rfl) rfl (by rfl) rfl hH ?_
                    simp only [Act.put, List.setIfInBounds_toArray, List.set_cons_zero, List.set_cons_succ]
                    refine wpAnyH_done (by kernel_rfl) ?_ _
                    have r1 := hD.below ((Below.refl _ wr).drew)
                    have r4 : Below w.heap.size w wr.drew := hB.drew
                    clear hH hcr
                    go_wp2_with fail
                    go_roundw
                    case rel => exact ⟨i + 1, by omega, by rw [hitTo_succ, HOK.out]; rfl, by go_num, hgo2, r1, hq, hgx, r4⟩
                    case measure => simp [intOf]; omega
                · have hie : i = m := by omega
                  subst hie
                  have hh : hitTo z1 ks s x (oldOf z0 k s) i = true := by rw [← HXX.out, ← HL2.out, ← HL1.out]; exact hit_all z0 z1 ks k i s hs8
                  rw [hh]
                  clear hh
                  have hno := HEND.out
                  by_cases hl0 : i < len1
                  · have hl1 : decide ((i : Int) < 40) = false := by simp; omega
                    clear hno
                    go_wp2_with fail
                    go_meet
                    case rel => exact ⟨rfl, hD, hq, hgx, hB⟩
                  · have hl1 : decide ((i : Int) < (len1 : Int)) = false := by simp; omega
                    clear hno
                    go_wp2_with fail
                    go_meet
                    case rel => exact ⟨rfl, hD, hq, hgx, hB⟩
            case rest =>
              clear hgo hD hq hgx hB hb0
              obtain ⟨rfl, hD, hq, hgx, hB⟩ := hcut
              clear HXL HXX
              go_wp2_with fail
              go_roundw
              case rel => exact ⟨s + 1, _, by omega, by go_num, hD, hq, hB⟩
              case measure => simp [intOf]; omega
        · have hpd := pending_dev p wr fq _ hD
          have X1 := hide hpd
          clear hpd
          go_wp2_with fail
          refine X1.out.mono ?_
          rintro e w9 ⟨rfl, hw9⟩
          have hw9 := hw9.symm
          subst hw9
          rw [show (((liveDev L2 [] c).W.length : Nat) : Int) = 0 from rfl]
          go_wp2_with fail
          refine (awake_true wr).mono ?_
          rintro e w12 ⟨rfl, hB12⟩
          go_wp2_with fail
          go_ret
          exact ⟨rfl, hB.trans (hB12.mono hB.size)⟩
end Go.Proofs.Ytohhcgcifceklaa
