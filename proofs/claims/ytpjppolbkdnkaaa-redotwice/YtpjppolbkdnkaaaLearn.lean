/- learn: one record of the first pass. -/
import Derived.Test.YtpjppolbkdnkaaaFollow
namespace Go.Proofs.Ytpjppolbkdnkaaa
open Go.RowKit
set_option linter.unusedVariables false
set_option linter.unusedSimpArgs false

structure An where
  T : Int → Option Tx
  F : Int → Option Int
  C : Int
def learn1 (s : An) (x : Ln) : An :=
  ⟨(if x.txn > 0 then follow1 (s.T, s.C) x else (s.T, s.C)).1, if x.changes = true ∧ s.F x.page = none then updI s.F x.page x.lsn else s.F, (if x.txn > 0 then follow1 (s.T, s.C) x else (s.T, s.C)).2⟩
theorem follow1_count (s : (Int → Option Tx) × Int) (x : Ln) : s.2 ≤ (follow1 s x).2 ∧ (follow1 s x).2 ≤ s.2 + 1 := by
  unfold follow1
  split
  · exact ⟨by show s.2 ≤ s.2 + 1; omega, Int.le_refl _⟩
  · split
    · exact ⟨Int.le_refl _, by show s.2 ≤ s.2 + 1; omega⟩
    · split
      · exact ⟨Int.le_refl _, by show s.2 ≤ s.2 + 1; omega⟩
      · exact ⟨Int.le_refl _, by show s.2 ≤ s.2 + 1; omega⟩
section
variable {w0 w w' : World} {R bt bd n m : Nat} {lg : Sv} {T : Int → Option Tx} {F : Int → Option Int} {C : Int}
set_option maxHeartbeats 2000000 in
set_option maxRecDepth 100000 in
theorem learn_any (X : AnaIs w0 w R bt bd n m lg T F C) (x : Ln) (hok : x.ok) (hn : n ≤ 1000000) (hm : m ≤ 1000000) (hC : 0 ≤ C ∧ C ≤ 1000000) :
    Calls Try.prog 39 #[.pointer (some ⟨R, 0, none⟩), .agg (lnCells x).toArray] w fun e w' => e = .returned (.tuple #[]) ∧ ∃ n' m', n' ≤ n + 1 ∧ m' ≤ m + 1 ∧ AnaIs w0 w' R bt bd n' m' lg (learn1 ⟨T, F, C⟩ x).T (learn1 ⟨T, F, C⟩ x).F (learn1 ⟨T, F, C⟩ x).C := by
  have HX := hide X
  have hRl := X.lt
  have htl := X.mt.lt
  have hdl := X.md.lt
  obtain ⟨gg, hgg⟩ : ∃ gg, w.heap.size = gg := ⟨_, rfl⟩
  have hgR : gg ≠ R := by omega
  have hgt : gg ≠ bt := by omega
  have hgd : gg ≠ bd := by omega
  clear X hRl htl hdl
  unfold lnCells recCells
  go_enter Try.func39, Try.ntmps39
  go_upto_region 1 with fail
  generalize hx1 : w.alloc _ = x1
  have hG : x1.heap[w.heap.size]? = some (.cells (lnCells x).toArray 34 (0, 0)) := by rw [← hx1]; exact heap_alloc_new _ _
  have HX1 : Hid (AnaIs w0 x1 R bt bd n m lg T F C) := HX.out.stayD (by rw [← hx1]; exact (Below.refl _ _).alloc (Nat.le_refl _) _)
  rw [hgg] at hG
  first | rw [hgg] | skip
  clear hx1 hgg HX
  have a2 : x1.cell? ⟨gg, 2, none⟩ = some (.int .i64 x.txn) := by rw [cell_of_row _ _ _ _ _ _ hG]; rfl
  have HG := hide hG
  by_cases ht : x.txn > 0
  · have HRG0 : Hid (x1.rangeAt gg 0 (lnCells x)) := fun q v hv => by rw [Nat.zero_add, cell_of_row _ _ _ _ _ _ hG]; simpa using hv
    have HFO := hide (follow_any HX1.out x hok hn hC)
    unfold lnCells recCells at HFO HRG0
    clear hG
    go_upto_region 3 with (first
      | (refine wpList_load_mid (by rfl) 34 _ (by rfl) gg 0 (by rfl) _ _ HRG0.out Try.underlying34 rfl Try.size34n ?_)
      | (go_at_call 52; refine HFO.out.mono ?_; rintro e x2 ⟨rfl, hO2, n2, hn2, hX2⟩; have HX2 := hide hX2; have HO2 := hide hO2; clear hX2 hO2))
    have hG2 : x2.heap[gg]? = some (.cells (lnCells x).toArray 34 (0, 0)) := (HO2.out.block gg (Array.getElem?_eq_some_iff.1 HG.out).1 (by simp; exact ⟨hgR, hgt⟩)).trans HG.out
    obtain ⟨T2, hT2⟩ : ∃ T2, (follow1 (T, C) x).1 = T2 := ⟨_, rfl⟩
    obtain ⟨C2, hC2⟩ : ∃ C2, (follow1 (T, C) x).2 = C2 := ⟨_, rfl⟩
    have HLT : Hid ((learn1 ⟨T, F, C⟩ x).T = T2 ∧ (learn1 ⟨T, F, C⟩ x).C = C2) := by show _ ∧ _; unfold learn1; simp only; rw [if_pos ht]; exact ⟨hT2, hC2⟩
    rw [hT2, hC2] at HX2
    clear hT2 hC2 HX1 HG a2 HFO HRG0 HO2 ht
    have HRG : Hid (x2.rangeAt gg 1 (recCells x)) := fun j v hv => by
      rw [cell_of_row _ _ _ _ _ _ hG2, List.getElem?_toArray]
      unfold lnCells
      rw [Nat.add_comm 1 j, List.getElem?_cons_succ]
      exact hv
    have e0 : x2.cell? ⟨gg, 0, none⟩ = some (.int .i64 x.lsn) := by rw [cell_of_row _ _ _ _ _ _ hG2]; rfl
    have e5 : x2.cell? ⟨gg, 5, none⟩ = some (.int .i64 x.page) := by rw [cell_of_row _ _ _ _ _ _ hG2]; rfl
    have hgl : gg < x2.heap.size := (Array.getElem?_eq_some_iff.1 hG2).1
    have HCH := hide (changes_any x x2)
    unfold recCells at HRG HCH
    have HE := hide (And.intro e0 (And.intro e5 hgl))
    clear hG2 e0 e5 hgl
    cases hch : x.changes with
    | false =>
      have HLF : Hid ((learn1 ⟨T, F, C⟩ x).F = F) := by show _ = _; unfold learn1; simp only; rw [if_neg (by rw [hch]; simp)]
      rw [hch] at HCH
      clear hch
      go_wp2_with (first
        | (refine wpList_load_mid (by rfl) 32 _ (by rfl) gg 1 (by rfl) _ _ HRG.out Try.underlying32 rfl Try.size32n ?_)
        | (go_at_call 53; refine HCH.out.mono ?_; rintro e x3 ⟨rfl, hb3⟩; have HB3 := hide hb3; clear hb3))
      refine bodyPost_ret (results_none rfl _ _ _) rfl ?_
      refine ⟨rfl, n2, m, hn2, by omega, ?_⟩
      rw [HLT.out.1, HLT.out.2, HLF.out]
      exact HX2.out.stayD HB3.out
    | true =>
      rw [hch] at HCH
      go_upto_region 4 with (first
        | (refine wpList_load_mid (by rfl) 32 _ (by rfl) gg 1 (by rfl) _ _ HRG.out Try.underlying32 rfl Try.size32n ?_)
        | (go_at_call 53; refine HCH.out.mono ?_; rintro e x3 ⟨rfl, hb3⟩; have HB3 := hide hb3; clear hb3))
      have HX3 := hide (HX2.out.stayD HB3.out)
      have d0 : x3.cell? ⟨gg, 0, none⟩ = some (.int .i64 x.lsn) := (HB3.out.cell (p := ⟨gg, 0, none⟩) HE.out.2.2).trans HE.out.1
      have d5 : x3.cell? ⟨gg, 5, none⟩ = some (.int .i64 x.page) := (HB3.out.cell (p := ⟨gg, 5, none⟩) HE.out.2.2).trans HE.out.2.1
      have k2 := HX3.out.c2
      clear HX2 HB3 HE HRG HCH
      refine wp_region_held_drew (S := fun w' => (w'.cell? ⟨R, 2, none⟩ = some (.map (some bd)) ∧ w'.cell? ⟨gg, 5, none⟩ = some (.int .i64 x.page)) ∧ MapI w' bd m F) (by kernel_rfl) ⟨⟨k2, d5⟩, HX3.out.md⟩ (fun hH => ?_)
      refine take_to 0 18 (.pointer (some ⟨R, 0, none⟩)) rfl (by kernel_rfl) (by kernel_rfl) (by kernel_rfl) (fun _ _ _ h => h) rfl (by rfl) (fun w hw => by rfl) hH ?_
      simp only [Act.put, List.setIfInBounds_toArray, List.set_cons_zero, List.set_cons_succ]
      refine take_to 1 19 (.pointer (some ⟨R, 0, none⟩)) rfl (by kernel_rfl) (by kernel_rfl) (by kernel_rfl) (fun _ _ _ h => h) rfl (by rfl) (fun w hw => by rfl) hH ?_
      simp only [Act.put, List.setIfInBounds_toArray, List.set_cons_zero, List.set_cons_succ]
      refine take_to 2 20 (.pointer (some ⟨R, 2, none⟩)) rfl (by kernel_rfl) (by kernel_rfl) (by kernel_rfl) (fun _ _ _ h => h) rfl (by rfl) (fun w hw => by rfl) hH ?_
      simp only [Act.put, List.setIfInBounds_toArray, List.set_cons_zero, List.set_cons_succ]
      refine take_to 3 21 (.map (some bd)) rfl (by kernel_rfl) (by kernel_rfl) (by kernel_rfl) (fun _ _ _ h => h) rfl (by rfl) (fun w hw => op_load _ _ 68 (.tmp 20) rfl (.pointer (some ⟨R, 2, none⟩)) _ rfl (run_loadAny w R (2) 68 _ Try.isAgg68 hw.1.1)) hH ?_
      simp only [Act.put, List.setIfInBounds_toArray, List.set_cons_zero, List.set_cons_succ]
      refine take_to 4 22 (.pointer (some ⟨gg, 1, none⟩)) rfl (by kernel_rfl) (by kernel_rfl) (by kernel_rfl) (fun _ _ _ h => h) rfl (by rfl) (fun w hw => by rfl) hH ?_
      simp only [Act.put, List.setIfInBounds_toArray, List.set_cons_zero, List.set_cons_succ]
      refine take_to 5 23 (.pointer (some ⟨gg, 5, none⟩)) rfl (by kernel_rfl) (by kernel_rfl) (by kernel_rfl) (fun _ _ _ h => h) rfl (by rfl) (fun w hw => by rfl) hH ?_
      simp only [Act.put, List.setIfInBounds_toArray, List.set_cons_zero, List.set_cons_succ]
      refine take_to 6 24 (.int .i64 x.page) rfl (by kernel_rfl) (by kernel_rfl) (by kernel_rfl) (fun _ _ _ h => h) rfl (by rfl) (fun w hw => op_load _ _ 3 (.tmp 23) rfl (.pointer (some ⟨gg, 5, none⟩)) _ rfl (run_loadAny w gg (5) 3 _ Try.isAgg3 hw.1.2)) hH ?_
      simp only [Act.put, List.setIfInBounds_toArray, List.set_cons_zero, List.set_cons_succ]
      refine take_to 7 25 (.tuple #[.int .i64 ((F x.page).getD 0), .bool (F x.page).isSome]) rfl (by kernel_rfl) (by kernel_rfl) (by kernel_rfl) (fun _ _ _ h => h) rfl (by rfl) (fun w hw => op_lookup _ _ 68 (.tmp 21) (.tmp 24) true rfl _ _ _ rfl rfl (hw.2.look hok.page)) hH ?_
      simp only [Act.put, List.setIfInBounds_toArray, List.set_cons_zero, List.set_cons_succ]
      refine take_to 8 17 (.tuple #[.int .i64 ((F x.page).getD 0), .bool (F x.page).isSome]) rfl (by kernel_rfl) (by kernel_rfl) (by kernel_rfl) (fun _ _ _ h => h) rfl (by rfl) (fun w hw => by rfl) hH ?_
      simp only [Act.put, List.setIfInBounds_toArray, List.set_cons_zero, List.set_cons_succ]
      refine take_to 9 26 (.int .i64 ((F x.page).getD 0)) rfl (by kernel_rfl) (by kernel_rfl) (by kernel_rfl) (fun _ _ _ h => h) rfl (by rfl) (fun w hw => by rfl) hH ?_
      simp only [Act.put, List.setIfInBounds_toArray, List.set_cons_zero, List.set_cons_succ]
      refine take_to 10 27 (.bool (F x.page).isSome) rfl (by kernel_rfl) (by kernel_rfl) (by kernel_rfl) (fun _ _ _ h => h) rfl (by rfl) (fun w hw => by rfl) hH ?_
      simp only [Act.put, List.setIfInBounds_toArray, List.set_cons_zero, List.set_cons_succ]
      refine take_to 11 4 (.int .i64 ((F x.page).getD 0)) rfl (by kernel_rfl) (by kernel_rfl) (by kernel_rfl) (fun _ _ _ h => h) rfl (by rfl) (fun w hw => by rfl) hH ?_
      simp only [Act.put, List.setIfInBounds_toArray, List.set_cons_zero, List.set_cons_succ]
      refine take_to 12 5 (.bool (F x.page).isSome) rfl (by kernel_rfl) (by kernel_rfl) (by kernel_rfl) (fun _ _ _ h => h) rfl (by rfl) (fun w hw => by rfl) hH ?_
      simp only [Act.put, List.setIfInBounds_toArray, List.set_cons_zero, List.set_cons_succ]
      refine wpAnyH_done (by kernel_rfl) ?_ _
      clear hH
      cases hfp : F x.page with
      | some y =>
        have HLF : Hid ((learn1 ⟨T, F, C⟩ x).F = F) := by show _ = _; unfold learn1; simp only; rw [if_neg (by rw [hfp]; simp)]
        simp only [hfp, Option.getD_some, Option.isSome_some]
        clear hch hfp
        go_wp2
        go_end0
        refine ⟨rfl, n2, m, hn2, by omega, ?_⟩
        rw [HLT.out.1, HLT.out.2, HLF.out]
        exact HX3.out.stayD (below_drewN _ _ 1)
      | none =>
        have HLF : Hid ((learn1 ⟨T, F, C⟩ x).F = updI F x.page x.lsn) := by show _ = _; unfold learn1; simp only; rw [if_pos ⟨hch, hfp⟩]
        simp only [hfp, Option.getD_none, Option.isSome_none]
        clear hch hfp
        go_upto_region 6 with fail
        refine wp_region_held_drew (S := fun w' => w'.cell? ⟨R, 2, none⟩ = some (.map (some bd)) ∧ w'.cell? ⟨gg, 5, none⟩ = some (.int .i64 x.page) ∧ w'.cell? ⟨gg, 0, none⟩ = some (.int .i64 x.lsn)) (by kernel_rfl) ⟨k2, d5, d0⟩ (fun hH => ?_)
        refine take_to 0 30 (.pointer (some ⟨R, 0, none⟩)) rfl (by kernel_rfl) (by kernel_rfl) (by kernel_rfl) (fun _ _ _ h => h) rfl (by rfl) (fun w hw => by rfl) hH ?_
        simp only [Act.put, List.setIfInBounds_toArray, List.set_cons_zero, List.set_cons_succ]
        refine take_to 1 31 (.pointer (some ⟨R, 0, none⟩)) rfl (by kernel_rfl) (by kernel_rfl) (by kernel_rfl) (fun _ _ _ h => h) rfl (by rfl) (fun w hw => by rfl) hH ?_
        simp only [Act.put, List.setIfInBounds_toArray, List.set_cons_zero, List.set_cons_succ]
        refine take_to 2 32 (.pointer (some ⟨R, 2, none⟩)) rfl (by kernel_rfl) (by kernel_rfl) (by kernel_rfl) (fun _ _ _ h => h) rfl (by rfl) (fun w hw => by rfl) hH ?_
        simp only [Act.put, List.setIfInBounds_toArray, List.set_cons_zero, List.set_cons_succ]
        refine take_to 3 33 (.map (some bd)) rfl (by kernel_rfl) (by kernel_rfl) (by kernel_rfl) (fun _ _ _ h => h) rfl (by rfl) (fun w hw => op_load _ _ 68 (.tmp 32) rfl (.pointer (some ⟨R, 2, none⟩)) _ rfl (run_loadAny w R (2) 68 _ Try.isAgg68 hw.1)) hH ?_
        simp only [Act.put, List.setIfInBounds_toArray, List.set_cons_zero, List.set_cons_succ]
        refine take_to 4 34 (.pointer (some ⟨gg, 1, none⟩)) rfl (by kernel_rfl) (by kernel_rfl) (by kernel_rfl) (fun _ _ _ h => h) rfl (by rfl) (fun w hw => by rfl) hH ?_
        simp only [Act.put, List.setIfInBounds_toArray, List.set_cons_zero, List.set_cons_succ]
        refine take_to 5 35 (.pointer (some ⟨gg, 5, none⟩)) rfl (by kernel_rfl) (by kernel_rfl) (by kernel_rfl) (fun _ _ _ h => h) rfl (by rfl) (fun w hw => by rfl) hH ?_
        simp only [Act.put, List.setIfInBounds_toArray, List.set_cons_zero, List.set_cons_succ]
        refine take_to 6 36 (.int .i64 x.page) rfl (by kernel_rfl) (by kernel_rfl) (by kernel_rfl) (fun _ _ _ h => h) rfl (by rfl) (fun w hw => op_load _ _ 3 (.tmp 35) rfl (.pointer (some ⟨gg, 5, none⟩)) _ rfl (run_loadAny w gg (5) 3 _ Try.isAgg3 hw.2.1)) hH ?_
        simp only [Act.put, List.setIfInBounds_toArray, List.set_cons_zero, List.set_cons_succ]
        refine take_to 7 37 (.pointer (some ⟨gg, 0, none⟩)) rfl (by kernel_rfl) (by kernel_rfl) (by kernel_rfl) (fun _ _ _ h => h) rfl (by rfl) (fun w hw => by rfl) hH ?_
        simp only [Act.put, List.setIfInBounds_toArray, List.set_cons_zero, List.set_cons_succ]
        refine take_to 8 38 (.int .i64 x.lsn) rfl (by kernel_rfl) (by kernel_rfl) (by kernel_rfl) (fun _ _ _ h => h) rfl (by rfl) (fun w hw => op_load _ _ 3 (.tmp 37) rfl (.pointer (some ⟨gg, 0, none⟩)) _ rfl (run_loadAny w gg (0) 3 _ Try.isAgg3 hw.2.2)) hH ?_
        simp only [Act.put, List.setIfInBounds_toArray, List.set_cons_zero, List.set_cons_succ]
        obtain ⟨w6, q1, q2, q3⟩ := MapI.store (w := x3.drew.drew) (HX3.out.md.stay rfl) (by omega) hok.page hok.lsn
        have hS6 : w6.cell? ⟨R, 2, none⟩ = some (.map (some bd)) ∧ w6.cell? ⟨gg, 5, none⟩ = some (.int .i64 x.page) ∧ w6.cell? ⟨gg, 0, none⟩ = some (.int .i64 x.lsn) :=
          ⟨(World.cell?_of_block (a := ⟨R, 2, none⟩) (q3.block R (World.block_lt_of_cell? _ _ hH.1) (by simpa using HX3.out.n2))).trans hH.1, (World.cell?_of_block (a := ⟨gg, 5, none⟩) (q3.block gg (World.block_lt_of_cell? _ _ hH.2.1) (by simpa using hgd))).trans hH.2.1, (World.cell?_of_block (a := ⟨gg, 0, none⟩) (q3.block gg (World.block_lt_of_cell? _ _ hH.2.2) (by simpa using hgd))).trans hH.2.2⟩
        refine step_map_to 9 w6 rfl (by kernel_rfl) rfl (by rfl) 68 (.tmp 33) (.tmp 36) (.tmp 38) rfl _ _ _ rfl rfl rfl q1 hS6 ?_
        refine wpAnyH_done (by kernel_rfl) ?_ _
        have HX6 := hide ((HX3.out.stayD (below_drewN _ _ 2)).grownD q3 q2)
        clear hH hS6 q1 q2 q3
        go_wp2
        go_end0
        refine ⟨rfl, n2, m + 1, hn2, by omega, ?_⟩
        rw [HLT.out.1, HLT.out.2, HLF.out]
        exact HX6.out
  · have hT : decide (x.txn > 0) = false := by simpa using ht
    go_upto_region 3 with fail
    have hn2 : n ≤ n + 1 := by omega
    have HLT : Hid ((learn1 ⟨T, F, C⟩ x).T = T ∧ (learn1 ⟨T, F, C⟩ x).C = C) := by show _ ∧ _; unfold learn1; simp only; rw [if_neg ht]; exact ⟨rfl, rfl⟩
    have HX2 := HX1
    clear HX1 HG a2 ht
    have HRG : Hid (x1.rangeAt gg 1 (recCells x)) := fun j v hv => by
      rw [cell_of_row _ _ _ _ _ _ hG, List.getElem?_toArray]
      unfold lnCells
      rw [Nat.add_comm 1 j, List.getElem?_cons_succ]
      exact hv
    have e0 : x1.cell? ⟨gg, 0, none⟩ = some (.int .i64 x.lsn) := by rw [cell_of_row _ _ _ _ _ _ hG]; rfl
    have e5 : x1.cell? ⟨gg, 5, none⟩ = some (.int .i64 x.page) := by rw [cell_of_row _ _ _ _ _ _ hG]; rfl
    have hgl : gg < x1.heap.size := (Array.getElem?_eq_some_iff.1 hG).1
    have HCH := hide (changes_any x x1)
    unfold recCells at HRG HCH
    have HE := hide (And.intro e0 (And.intro e5 hgl))
    clear hG e0 e5 hgl
    cases hch : x.changes with
    | false =>
      have HLF : Hid ((learn1 ⟨T, F, C⟩ x).F = F) := by show _ = _; unfold learn1; simp only; rw [if_neg (by rw [hch]; simp)]
      rw [hch] at HCH
      clear hch
      go_wp2_with (first
        | (refine wpList_load_mid (by rfl) 32 _ (by rfl) gg 1 (by rfl) _ _ HRG.out Try.underlying32 rfl Try.size32n ?_)
        | (go_at_call 53; refine HCH.out.mono ?_; rintro e x3 ⟨rfl, hb3⟩; have HB3 := hide hb3; clear hb3))
      refine bodyPost_ret (results_none rfl _ _ _) rfl ?_
      refine ⟨rfl, n, m, hn2, by omega, ?_⟩
      rw [HLT.out.1, HLT.out.2, HLF.out]
      exact HX2.out.stayD HB3.out
    | true =>
      rw [hch] at HCH
      go_upto_region 4 with (first
        | (refine wpList_load_mid (by rfl) 32 _ (by rfl) gg 1 (by rfl) _ _ HRG.out Try.underlying32 rfl Try.size32n ?_)
        | (go_at_call 53; refine HCH.out.mono ?_; rintro e x3 ⟨rfl, hb3⟩; have HB3 := hide hb3; clear hb3))
      have HX3 := hide (HX2.out.stayD HB3.out)
      have d0 : x3.cell? ⟨gg, 0, none⟩ = some (.int .i64 x.lsn) := (HB3.out.cell (p := ⟨gg, 0, none⟩) HE.out.2.2).trans HE.out.1
      have d5 : x3.cell? ⟨gg, 5, none⟩ = some (.int .i64 x.page) := (HB3.out.cell (p := ⟨gg, 5, none⟩) HE.out.2.2).trans HE.out.2.1
      have k2 := HX3.out.c2
      clear HX2 HB3 HE HRG HCH
      refine wp_region_held_drew (S := fun w' => (w'.cell? ⟨R, 2, none⟩ = some (.map (some bd)) ∧ w'.cell? ⟨gg, 5, none⟩ = some (.int .i64 x.page)) ∧ MapI w' bd m F) (by kernel_rfl) ⟨⟨k2, d5⟩, HX3.out.md⟩ (fun hH => ?_)
      refine take_to 0 18 (.pointer (some ⟨R, 0, none⟩)) rfl (by kernel_rfl) (by kernel_rfl) (by kernel_rfl) (fun _ _ _ h => h) rfl (by rfl) (fun w hw => by rfl) hH ?_
      simp only [Act.put, List.setIfInBounds_toArray, List.set_cons_zero, List.set_cons_succ]
      refine take_to 1 19 (.pointer (some ⟨R, 0, none⟩)) rfl (by kernel_rfl) (by kernel_rfl) (by kernel_rfl) (fun _ _ _ h => h) rfl (by rfl) (fun w hw => by rfl) hH ?_
      simp only [Act.put, List.setIfInBounds_toArray, List.set_cons_zero, List.set_cons_succ]
      refine take_to 2 20 (.pointer (some ⟨R, 2, none⟩)) rfl (by kernel_rfl) (by kernel_rfl) (by kernel_rfl) (fun _ _ _ h => h) rfl (by rfl) (fun w hw => by rfl) hH ?_
      simp only [Act.put, List.setIfInBounds_toArray, List.set_cons_zero, List.set_cons_succ]
      refine take_to 3 21 (.map (some bd)) rfl (by kernel_rfl) (by kernel_rfl) (by kernel_rfl) (fun _ _ _ h => h) rfl (by rfl) (fun w hw => op_load _ _ 68 (.tmp 20) rfl (.pointer (some ⟨R, 2, none⟩)) _ rfl (run_loadAny w R (2) 68 _ Try.isAgg68 hw.1.1)) hH ?_
      simp only [Act.put, List.setIfInBounds_toArray, List.set_cons_zero, List.set_cons_succ]
      refine take_to 4 22 (.pointer (some ⟨gg, 1, none⟩)) rfl (by kernel_rfl) (by kernel_rfl) (by kernel_rfl) (fun _ _ _ h => h) rfl (by rfl) (fun w hw => by rfl) hH ?_
      simp only [Act.put, List.setIfInBounds_toArray, List.set_cons_zero, List.set_cons_succ]
      refine take_to 5 23 (.pointer (some ⟨gg, 5, none⟩)) rfl (by kernel_rfl) (by kernel_rfl) (by kernel_rfl) (fun _ _ _ h => h) rfl (by rfl) (fun w hw => by rfl) hH ?_
      simp only [Act.put, List.setIfInBounds_toArray, List.set_cons_zero, List.set_cons_succ]
      refine take_to 6 24 (.int .i64 x.page) rfl (by kernel_rfl) (by kernel_rfl) (by kernel_rfl) (fun _ _ _ h => h) rfl (by rfl) (fun w hw => op_load _ _ 3 (.tmp 23) rfl (.pointer (some ⟨gg, 5, none⟩)) _ rfl (run_loadAny w gg (5) 3 _ Try.isAgg3 hw.1.2)) hH ?_
      simp only [Act.put, List.setIfInBounds_toArray, List.set_cons_zero, List.set_cons_succ]
      refine take_to 7 25 (.tuple #[.int .i64 ((F x.page).getD 0), .bool (F x.page).isSome]) rfl (by kernel_rfl) (by kernel_rfl) (by kernel_rfl) (fun _ _ _ h => h) rfl (by rfl) (fun w hw => op_lookup _ _ 68 (.tmp 21) (.tmp 24) true rfl _ _ _ rfl rfl (hw.2.look hok.page)) hH ?_
      simp only [Act.put, List.setIfInBounds_toArray, List.set_cons_zero, List.set_cons_succ]
      refine take_to 8 17 (.tuple #[.int .i64 ((F x.page).getD 0), .bool (F x.page).isSome]) rfl (by kernel_rfl) (by kernel_rfl) (by kernel_rfl) (fun _ _ _ h => h) rfl (by rfl) (fun w hw => by rfl) hH ?_
      simp only [Act.put, List.setIfInBounds_toArray, List.set_cons_zero, List.set_cons_succ]
      refine take_to 9 26 (.int .i64 ((F x.page).getD 0)) rfl (by kernel_rfl) (by kernel_rfl) (by kernel_rfl) (fun _ _ _ h => h) rfl (by rfl) (fun w hw => by rfl) hH ?_
      simp only [Act.put, List.setIfInBounds_toArray, List.set_cons_zero, List.set_cons_succ]
      refine take_to 10 27 (.bool (F x.page).isSome) rfl (by kernel_rfl) (by kernel_rfl) (by kernel_rfl) (fun _ _ _ h => h) rfl (by rfl) (fun w hw => by rfl) hH ?_
      simp only [Act.put, List.setIfInBounds_toArray, List.set_cons_zero, List.set_cons_succ]
      refine take_to 11 4 (.int .i64 ((F x.page).getD 0)) rfl (by kernel_rfl) (by kernel_rfl) (by kernel_rfl) (fun _ _ _ h => h) rfl (by rfl) (fun w hw => by rfl) hH ?_
      simp only [Act.put, List.setIfInBounds_toArray, List.set_cons_zero, List.set_cons_succ]
      refine take_to 12 5 (.bool (F x.page).isSome) rfl (by kernel_rfl) (by kernel_rfl) (by kernel_rfl) (fun _ _ _ h => h) rfl (by rfl) (fun w hw => by rfl) hH ?_
      simp only [Act.put, List.setIfInBounds_toArray, List.set_cons_zero, List.set_cons_succ]
      refine wpAnyH_done (by kernel_rfl) ?_ _
      clear hH
      cases hfp : F x.page with
      | some y =>
        have HLF : Hid ((learn1 ⟨T, F, C⟩ x).F = F) := by show _ = _; unfold learn1; simp only; rw [if_neg (by rw [hfp]; simp)]
        simp only [hfp, Option.getD_some, Option.isSome_some]
        clear hch hfp
        go_wp2
        go_end0
        refine ⟨rfl, n, m, hn2, by omega, ?_⟩
        rw [HLT.out.1, HLT.out.2, HLF.out]
        exact HX3.out.stayD (below_drewN _ _ 1)
      | none =>
        have HLF : Hid ((learn1 ⟨T, F, C⟩ x).F = updI F x.page x.lsn) := by show _ = _; unfold learn1; simp only; rw [if_pos ⟨hch, hfp⟩]
        simp only [hfp, Option.getD_none, Option.isSome_none]
        clear hch hfp
        go_upto_region 6 with fail
        refine wp_region_held_drew (S := fun w' => w'.cell? ⟨R, 2, none⟩ = some (.map (some bd)) ∧ w'.cell? ⟨gg, 5, none⟩ = some (.int .i64 x.page) ∧ w'.cell? ⟨gg, 0, none⟩ = some (.int .i64 x.lsn)) (by kernel_rfl) ⟨k2, d5, d0⟩ (fun hH => ?_)
        refine take_to 0 30 (.pointer (some ⟨R, 0, none⟩)) rfl (by kernel_rfl) (by kernel_rfl) (by kernel_rfl) (fun _ _ _ h => h) rfl (by rfl) (fun w hw => by rfl) hH ?_
        simp only [Act.put, List.setIfInBounds_toArray, List.set_cons_zero, List.set_cons_succ]
        refine take_to 1 31 (.pointer (some ⟨R, 0, none⟩)) rfl (by kernel_rfl) (by kernel_rfl) (by kernel_rfl) (fun _ _ _ h => h) rfl (by rfl) (fun w hw => by rfl) hH ?_
        simp only [Act.put, List.setIfInBounds_toArray, List.set_cons_zero, List.set_cons_succ]
        refine take_to 2 32 (.pointer (some ⟨R, 2, none⟩)) rfl (by kernel_rfl) (by kernel_rfl) (by kernel_rfl) (fun _ _ _ h => h) rfl (by rfl) (fun w hw => by rfl) hH ?_
        simp only [Act.put, List.setIfInBounds_toArray, List.set_cons_zero, List.set_cons_succ]
        refine take_to 3 33 (.map (some bd)) rfl (by kernel_rfl) (by kernel_rfl) (by kernel_rfl) (fun _ _ _ h => h) rfl (by rfl) (fun w hw => op_load _ _ 68 (.tmp 32) rfl (.pointer (some ⟨R, 2, none⟩)) _ rfl (run_loadAny w R (2) 68 _ Try.isAgg68 hw.1)) hH ?_
        simp only [Act.put, List.setIfInBounds_toArray, List.set_cons_zero, List.set_cons_succ]
        refine take_to 4 34 (.pointer (some ⟨gg, 1, none⟩)) rfl (by kernel_rfl) (by kernel_rfl) (by kernel_rfl) (fun _ _ _ h => h) rfl (by rfl) (fun w hw => by rfl) hH ?_
        simp only [Act.put, List.setIfInBounds_toArray, List.set_cons_zero, List.set_cons_succ]
        refine take_to 5 35 (.pointer (some ⟨gg, 5, none⟩)) rfl (by kernel_rfl) (by kernel_rfl) (by kernel_rfl) (fun _ _ _ h => h) rfl (by rfl) (fun w hw => by rfl) hH ?_
        simp only [Act.put, List.setIfInBounds_toArray, List.set_cons_zero, List.set_cons_succ]
        refine take_to 6 36 (.int .i64 x.page) rfl (by kernel_rfl) (by kernel_rfl) (by kernel_rfl) (fun _ _ _ h => h) rfl (by rfl) (fun w hw => op_load _ _ 3 (.tmp 35) rfl (.pointer (some ⟨gg, 5, none⟩)) _ rfl (run_loadAny w gg (5) 3 _ Try.isAgg3 hw.2.1)) hH ?_
        simp only [Act.put, List.setIfInBounds_toArray, List.set_cons_zero, List.set_cons_succ]
        refine take_to 7 37 (.pointer (some ⟨gg, 0, none⟩)) rfl (by kernel_rfl) (by kernel_rfl) (by kernel_rfl) (fun _ _ _ h => h) rfl (by rfl) (fun w hw => by rfl) hH ?_
        simp only [Act.put, List.setIfInBounds_toArray, List.set_cons_zero, List.set_cons_succ]
        refine take_to 8 38 (.int .i64 x.lsn) rfl (by kernel_rfl) (by kernel_rfl) (by kernel_rfl) (fun _ _ _ h => h) rfl (by rfl) (fun w hw => op_load _ _ 3 (.tmp 37) rfl (.pointer (some ⟨gg, 0, none⟩)) _ rfl (run_loadAny w gg (0) 3 _ Try.isAgg3 hw.2.2)) hH ?_
        simp only [Act.put, List.setIfInBounds_toArray, List.set_cons_zero, List.set_cons_succ]
        obtain ⟨w6, q1, q2, q3⟩ := MapI.store (w := x3.drew.drew) (HX3.out.md.stay rfl) (by omega) hok.page hok.lsn
        have hS6 : w6.cell? ⟨R, 2, none⟩ = some (.map (some bd)) ∧ w6.cell? ⟨gg, 5, none⟩ = some (.int .i64 x.page) ∧ w6.cell? ⟨gg, 0, none⟩ = some (.int .i64 x.lsn) :=
          ⟨(World.cell?_of_block (a := ⟨R, 2, none⟩) (q3.block R (World.block_lt_of_cell? _ _ hH.1) (by simpa using HX3.out.n2))).trans hH.1, (World.cell?_of_block (a := ⟨gg, 5, none⟩) (q3.block gg (World.block_lt_of_cell? _ _ hH.2.1) (by simpa using hgd))).trans hH.2.1, (World.cell?_of_block (a := ⟨gg, 0, none⟩) (q3.block gg (World.block_lt_of_cell? _ _ hH.2.2) (by simpa using hgd))).trans hH.2.2⟩
        refine step_map_to 9 w6 rfl (by kernel_rfl) rfl (by rfl) 68 (.tmp 33) (.tmp 36) (.tmp 38) rfl _ _ _ rfl rfl rfl q1 hS6 ?_
        refine wpAnyH_done (by kernel_rfl) ?_ _
        have HX6 := hide ((HX3.out.stayD (below_drewN _ _ 2)).grownD q3 q2)
        clear hH hS6 q1 q2 q3
        go_wp2
        go_end0
        refine ⟨rfl, n, m + 1, hn2, by omega, ?_⟩
        rw [HLT.out.1, HLT.out.2, HLF.out]
        exact HX6.out
end
end Go.Proofs.Ytpjppolbkdnkaaa
