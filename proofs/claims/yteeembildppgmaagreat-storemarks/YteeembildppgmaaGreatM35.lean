/- A part of it: DLearn DPassA DSlib DSorts. -/
import Derived.Test.YteeembildppgmaaGreatM34
import Derived.Test.YteeembildppgmaaGreatM10
namespace Go.Proofs.YteeembildppgmaaGreat.Rd
open Go.RowKit
set_option linter.unusedVariables false
set_option linter.unusedSimpArgs false
structure An where
  T : Int → Option Tx
  F : Int → Option Int
  C : Int
def learn1 (s : An) (x : Ln) : An :=
  ⟨(if x.txn > 0 then follow1 (s.T, s.C) x else (s.T, s.C)).1, if x.changes = true ∧ s.F x.page = none then updI s.F x.page x.lsn else s.F, (if x.txn > 0 then follow1 (s.T, s.C) x else (s.T, s.C)).2⟩
theorem follow1_count (s : (Int → Option Tx) × Int) (x : Ln) : s.2 ≤ (follow1 s x).2 ∧ (follow1 s x).2 ≤ s.2 + 1 := by
  unfold follow1
  split
  · exact ⟨by show s.2 ≤ s.2 + 1; omega, Int.le_refl _⟩
  · split
    · exact ⟨Int.le_refl _, by show s.2 ≤ s.2 + 1; omega⟩
    · split
      · exact ⟨Int.le_refl _, by show s.2 ≤ s.2 + 1; omega⟩
      · exact ⟨Int.le_refl _, by show s.2 ≤ s.2 + 1; omega⟩
section
variable {w0 w w' : World} {R bt bd n m : Nat} {lg : Sv} {T : Int → Option Tx} {F : Int → Option Int} {C : Int}
set_option maxHeartbeats 2000000 in
set_option maxRecDepth 100000 in
theorem learn_any (X : AnaIs w0 w R bt bd n m lg T F C) (x : Ln) (hok : x.ok) (hn : n ≤ 1000000) (hm : m ≤ 1000000) (hC : 0 ≤ C ∧ C ≤ 1000000) :
    Calls Tryz.prog 157 #[.pointer (some ⟨R, 0, none⟩), .agg (lnCells x).toArray] w fun e w' => e = .returned (.tuple #[]) ∧ ∃ n' m', n' ≤ n + 1 ∧ m' ≤ m + 1 ∧ AnaIs w0 w' R bt bd n' m' lg (learn1 ⟨T, F, C⟩ x).T (learn1 ⟨T, F, C⟩ x).F (learn1 ⟨T, F, C⟩ x).C := by
  have HX := hide X
  have hRl := X.lt
  have htl := X.mt.lt
  have hdl := X.md.lt
  obtain ⟨gg, hgg⟩ : ∃ gg, w.heap.size = gg := ⟨_, rfl⟩
  have hgR : gg ≠ R := by omega
  have hgt : gg ≠ bt := by omega
  have hgd : gg ≠ bd := by omega
  clear X hRl htl hdl
  unfold lnCells recCells
  go_enter Tryz.func157, Tryz.ntmps157
  go_upto_region 1 with fail
  generalize hx1 : w.alloc _ = x1
  have hG : x1.heap[w.heap.size]? = some (.cells (lnCells x).toArray 88 (0, 0)) := by rw [← hx1]; exact heap_alloc_new _ _
  have HX1 : Hid (AnaIs w0 x1 R bt bd n m lg T F C) := HX.out.stayD (by rw [← hx1]; exact (Below.refl _ _).alloc (Nat.le_refl _) _)
  rw [hgg] at hG
  first | rw [hgg] | skip
  clear hx1 hgg HX
  have a2 : x1.cell? ⟨gg, 2, none⟩ = some (.int .i64 x.txn) := by rw [cell_of_row _ _ _ _ _ _ hG]; rfl
  have HG := hide hG
  by_cases ht : x.txn > 0
  · have HRG0 : Hid (x1.rangeAt gg 0 (lnCells x)) := fun q v hv => by rw [Nat.zero_add, cell_of_row _ _ _ _ _ _ hG]; simpa using hv
    have HFO := hide (follow_any HX1.out x hok hn hC)
    unfold lnCells recCells at HFO HRG0
    clear hG
    go_upto_region 3 with (first
      | (refine wpList_load_mid (by rfl) 88 _ (by rfl) gg 0 (by rfl) _ _ HRG0.out Tryz.underlying88 rfl Tryz.size34n ?_)
      | (go_at_call 179; refine HFO.out.mono ?_; rintro e x2 ⟨rfl, hO2, n2, hn2, hX2⟩; have HX2 := hide hX2; have HO2 := hide hO2; clear hX2 hO2))
    have hG2 : x2.heap[gg]? = some (.cells (lnCells x).toArray 88 (0, 0)) := (HO2.out.block gg (Array.getElem?_eq_some_iff.1 HG.out).1 (by simp; exact ⟨hgR, hgt⟩)).trans HG.out
    obtain ⟨T2, hT2⟩ : ∃ T2, (follow1 (T, C) x).1 = T2 := ⟨_, rfl⟩
    obtain ⟨C2, hC2⟩ : ∃ C2, (follow1 (T, C) x).2 = C2 := ⟨_, rfl⟩
    have HLT : Hid ((learn1 ⟨T, F, C⟩ x).T = T2 ∧ (learn1 ⟨T, F, C⟩ x).C = C2) := by show _ ∧ _; unfold learn1; simp only; rw [if_pos ht]; exact ⟨hT2, hC2⟩
    rw [hT2, hC2] at HX2
    clear hT2 hC2 HX1 HG a2 HFO HRG0 HO2 ht
    have HRG : Hid (x2.rangeAt gg 1 (recCells x)) := fun j v hv => by
      rw [cell_of_row _ _ _ _ _ _ hG2, List.getElem?_toArray]
      unfold lnCells
      rw [Nat.add_comm 1 j, List.getElem?_cons_succ]
      exact hv
    have e0 : x2.cell? ⟨gg, 0, none⟩ = some (.int .i64 x.lsn) := by rw [cell_of_row _ _ _ _ _ _ hG2]; rfl
    have e5 : x2.cell? ⟨gg, 5, none⟩ = some (.int .i64 x.page) := by rw [cell_of_row _ _ _ _ _ _ hG2]; rfl
    have hgl : gg < x2.heap.size := (Array.getElem?_eq_some_iff.1 hG2).1
    have HCH := hide (changes_any x x2)
    unfold recCells at HRG HCH
    have HE := hide (And.intro e0 (And.intro e5 hgl))
    clear hG2 e0 e5 hgl
    cases hch : x.changes with
    | false =>
      have HLF : Hid ((learn1 ⟨T, F, C⟩ x).F = F) := by show _ = _; unfold learn1; simp only; rw [if_neg (by rw [hch]; simp)]
      rw [hch] at HCH
      clear hch
      go_wp2_with (first
        | (refine wpList_load_mid (by rfl) 69 _ (by rfl) gg 1 (by rfl) _ _ HRG.out Tryz.underlying69 rfl Tryz.size32n ?_)
        | (go_at_call 180; refine HCH.out.mono ?_; rintro e x3 ⟨rfl, hb3⟩; have HB3 := hide hb3; clear hb3))
      refine bodyPost_ret (results_none rfl _ _ _) rfl ?_
      refine ⟨rfl, n2, m, hn2, by omega, ?_⟩
      rw [HLT.out.1, HLT.out.2, HLF.out]
      exact HX2.out.stayD HB3.out
    | true =>
      rw [hch] at HCH
      go_upto_region 4 with (first
        | (refine wpList_load_mid (by rfl) 69 _ (by rfl) gg 1 (by rfl) _ _ HRG.out Tryz.underlying69 rfl Tryz.size32n ?_)
        | (go_at_call 180; refine HCH.out.mono ?_; rintro e x3 ⟨rfl, hb3⟩; have HB3 := hide hb3; clear hb3))
      have HX3 := hide (HX2.out.stayD HB3.out)
      have d0 : x3.cell? ⟨gg, 0, none⟩ = some (.int .i64 x.lsn) := (HB3.out.cell (p := ⟨gg, 0, none⟩) HE.out.2.2).trans HE.out.1
      have d5 : x3.cell? ⟨gg, 5, none⟩ = some (.int .i64 x.page) := (HB3.out.cell (p := ⟨gg, 5, none⟩) HE.out.2.2).trans HE.out.2.1
      have k2 := HX3.out.c2
      clear HX2 HB3 HE HRG HCH
      refine wp_region_held_drew (S := fun w' => (w'.cell? ⟨R, 2, none⟩ = some (.map (some bd)) ∧ w'.cell? ⟨gg, 5, none⟩ = some (.int .i64 x.page)) ∧ MapI w' bd m F) (by kernel_rfl) ⟨⟨k2, d5⟩, HX3.out.md⟩ (fun hH => ?_)
      refine take_to 0 18 (.pointer (some ⟨R, 0, none⟩)) rfl (by kernel_rfl) (by kernel_rfl) (by kernel_rfl) (fun _ _ _ h => h) rfl (by rfl) (fun w hw => by rfl) hH ?_
      simp only [Act.put, List.setIfInBounds_toArray, List.set_cons_zero, List.set_cons_succ]
      refine take_to 1 19 (.pointer (some ⟨R, 0, none⟩)) rfl (by kernel_rfl) (by kernel_rfl) (by kernel_rfl) (fun _ _ _ h => h) rfl (by rfl) (fun w hw => by rfl) hH ?_
      simp only [Act.put, List.setIfInBounds_toArray, List.set_cons_zero, List.set_cons_succ]
      refine take_to 2 20 (.pointer (some ⟨R, 2, none⟩)) rfl (by kernel_rfl) (by kernel_rfl) (by kernel_rfl) (fun _ _ _ h => h) rfl (by rfl) (fun w hw => by rfl) hH ?_
      simp only [Act.put, List.setIfInBounds_toArray, List.set_cons_zero, List.set_cons_succ]
      refine take_to 3 21 (.map (some bd)) rfl (by kernel_rfl) (by kernel_rfl) (by kernel_rfl) (fun _ _ _ h => h) rfl (by rfl) (fun w hw => op_load _ _ 169 (.tmp 20) rfl (.pointer (some ⟨R, 2, none⟩)) _ rfl (run_loadAny w R (2) 169 _ Tryz.isAgg169 hw.1.1)) hH ?_
      simp only [Act.put, List.setIfInBounds_toArray, List.set_cons_zero, List.set_cons_succ]
      refine take_to 4 22 (.pointer (some ⟨gg, 1, none⟩)) rfl (by kernel_rfl) (by kernel_rfl) (by kernel_rfl) (fun _ _ _ h => h) rfl (by rfl) (fun w hw => by rfl) hH ?_
      simp only [Act.put, List.setIfInBounds_toArray, List.set_cons_zero, List.set_cons_succ]
      refine take_to 5 23 (.pointer (some ⟨gg, 5, none⟩)) rfl (by kernel_rfl) (by kernel_rfl) (by kernel_rfl) (fun _ _ _ h => h) rfl (by rfl) (fun w hw => by rfl) hH ?_
      simp only [Act.put, List.setIfInBounds_toArray, List.set_cons_zero, List.set_cons_succ]
      refine take_to 6 24 (.int .i64 x.page) rfl (by kernel_rfl) (by kernel_rfl) (by kernel_rfl) (fun _ _ _ h => h) rfl (by rfl) (fun w hw => op_load _ _ 3 (.tmp 23) rfl (.pointer (some ⟨gg, 5, none⟩)) _ rfl (run_loadAny w gg (5) 3 _ Tryz.isAgg3 hw.1.2)) hH ?_
      simp only [Act.put, List.setIfInBounds_toArray, List.set_cons_zero, List.set_cons_succ]
      refine take_to 7 25 (.tuple #[.int .i64 ((F x.page).getD 0), .bool (F x.page).isSome]) rfl (by kernel_rfl) (by kernel_rfl) (by kernel_rfl) (fun _ _ _ h => h) rfl (by rfl) (fun w hw => op_lookup _ _ 169 (.tmp 21) (.tmp 24) true rfl _ _ _ rfl rfl (hw.2.look hok.page)) hH ?_
      simp only [Act.put, List.setIfInBounds_toArray, List.set_cons_zero, List.set_cons_succ]
      refine take_to 8 17 (.tuple #[.int .i64 ((F x.page).getD 0), .bool (F x.page).isSome]) rfl (by kernel_rfl) (by kernel_rfl) (by kernel_rfl) (fun _ _ _ h => h) rfl (by rfl) (fun w hw => by rfl) hH ?_
      simp only [Act.put, List.setIfInBounds_toArray, List.set_cons_zero, List.set_cons_succ]
      refine take_to 9 26 (.int .i64 ((F x.page).getD 0)) rfl (by kernel_rfl) (by kernel_rfl) (by kernel_rfl) (fun _ _ _ h => h) rfl (by rfl) (fun w hw => by rfl) hH ?_
      simp only [Act.put, List.setIfInBounds_toArray, List.set_cons_zero, List.set_cons_succ]
      refine take_to 10 27 (.bool (F x.page).isSome) rfl (by kernel_rfl) (by kernel_rfl) (by kernel_rfl) (fun _ _ _ h => h) rfl (by rfl) (fun w hw => by rfl) hH ?_
      simp only [Act.put, List.setIfInBounds_toArray, List.set_cons_zero, List.set_cons_succ]
      refine take_to 11 4 (.int .i64 ((F x.page).getD 0)) rfl (by kernel_rfl) (by kernel_rfl) (by kernel_rfl) (fun _ _ _ h => h) rfl (by rfl) (fun w hw => by rfl) hH ?_
      simp only [Act.put, List.setIfInBounds_toArray, List.set_cons_zero, List.set_cons_succ]
      refine take_to 12 5 (.bool (F x.page).isSome) rfl (by kernel_rfl) (by kernel_rfl) (by kernel_rfl) (fun _ _ _ h => h) rfl (by rfl) (fun w hw => by rfl) hH ?_
      simp only [Act.put, List.setIfInBounds_toArray, List.set_cons_zero, List.set_cons_succ]
      refine wpAnyH_done (by kernel_rfl) ?_ _
      clear hH
      cases hfp : F x.page with
      | some y =>
        have HLF : Hid ((learn1 ⟨T, F, C⟩ x).F = F) := by show _ = _; unfold learn1; simp only; rw [if_neg (by rw [hfp]; simp)]
        simp only [hfp, Option.getD_some, Option.isSome_some]
        clear hch hfp
        go_wp2
        go_end0
        refine ⟨rfl, n2, m, hn2, by omega, ?_⟩
        rw [HLT.out.1, HLT.out.2, HLF.out]
        exact HX3.out.stayD (below_drewN _ _ 1)
      | none =>
        have HLF : Hid ((learn1 ⟨T, F, C⟩ x).F = updI F x.page x.lsn) := by show _ = _; unfold learn1; simp only; rw [if_pos ⟨hch, hfp⟩]
        simp only [hfp, Option.getD_none, Option.isSome_none]
        clear hch hfp
        go_upto_region 6 with fail
        refine wp_region_held_drew (S := fun w' => w'.cell? ⟨R, 2, none⟩ = some (.map (some bd)) ∧ w'.cell? ⟨gg, 5, none⟩ = some (.int .i64 x.page) ∧ w'.cell? ⟨gg, 0, none⟩ = some (.int .i64 x.lsn)) (by kernel_rfl) ⟨k2, d5, d0⟩ (fun hH => ?_)
        refine take_to 0 30 (.pointer (some ⟨R, 0, none⟩)) rfl (by kernel_rfl) (by kernel_rfl) (by kernel_rfl) (fun _ _ _ h => h) rfl (by rfl) (fun w hw => by rfl) hH ?_
        simp only [Act.put, List.setIfInBounds_toArray, List.set_cons_zero, List.set_cons_succ]
        refine take_to 1 31 (.pointer (some ⟨R, 0, none⟩)) rfl (by kernel_rfl) (by kernel_rfl) (by kernel_rfl) (fun _ _ _ h => h) rfl (by rfl) (fun w hw => by rfl) hH ?_
        simp only [Act.put, List.setIfInBounds_toArray, List.set_cons_zero, List.set_cons_succ]
        refine take_to 2 32 (.pointer (some ⟨R, 2, none⟩)) rfl (by kernel_rfl) (by kernel_rfl) (by kernel_rfl) (fun _ _ _ h => h) rfl (by rfl) (fun w hw => by rfl) hH ?_
        simp only [Act.put, List.setIfInBounds_toArray, List.set_cons_zero, List.set_cons_succ]
        refine take_to 3 33 (.map (some bd)) rfl (by kernel_rfl) (by kernel_rfl) (by kernel_rfl) (fun _ _ _ h => h) rfl (by rfl) (fun w hw => op_load _ _ 169 (.tmp 32) rfl (.pointer (some ⟨R, 2, none⟩)) _ rfl (run_loadAny w R (2) 169 _ Tryz.isAgg169 hw.1)) hH ?_
        simp only [Act.put, List.setIfInBounds_toArray, List.set_cons_zero, List.set_cons_succ]
        refine take_to 4 34 (.pointer (some ⟨gg, 1, none⟩)) rfl (by kernel_rfl) (by kernel_rfl) (by kernel_rfl) (fun _ _ _ h => h) rfl (by rfl) (fun w hw => by rfl) hH ?_
        simp only [Act.put, List.setIfInBounds_toArray, List.set_cons_zero, List.set_cons_succ]
        refine take_to 5 35 (.pointer (some ⟨gg, 5, none⟩)) rfl (by kernel_rfl) (by kernel_rfl) (by kernel_rfl) (fun _ _ _ h => h) rfl (by rfl) (fun w hw => by rfl) hH ?_
        simp only [Act.put, List.setIfInBounds_toArray, List.set_cons_zero, List.set_cons_succ]
        refine take_to 6 36 (.int .i64 x.page) rfl (by kernel_rfl) (by kernel_rfl) (by kernel_rfl) (fun _ _ _ h => h) rfl (by rfl) (fun w hw => op_load _ _ 3 (.tmp 35) rfl (.pointer (some ⟨gg, 5, none⟩)) _ rfl (run_loadAny w gg (5) 3 _ Tryz.isAgg3 hw.2.1)) hH ?_
        simp only [Act.put, List.setIfInBounds_toArray, List.set_cons_zero, List.set_cons_succ]
        refine take_to 7 37 (.pointer (some ⟨gg, 0, none⟩)) rfl (by kernel_rfl) (by kernel_rfl) (by kernel_rfl) (fun _ _ _ h => h) rfl (by rfl) (fun w hw => by rfl) hH ?_
        simp only [Act.put, List.setIfInBounds_toArray, List.set_cons_zero, List.set_cons_succ]
        refine take_to 8 38 (.int .i64 x.lsn) rfl (by kernel_rfl) (by kernel_rfl) (by kernel_rfl) (fun _ _ _ h => h) rfl (by rfl) (fun w hw => op_load _ _ 3 (.tmp 37) rfl (.pointer (some ⟨gg, 0, none⟩)) _ rfl (run_loadAny w gg (0) 3 _ Tryz.isAgg3 hw.2.2)) hH ?_
        simp only [Act.put, List.setIfInBounds_toArray, List.set_cons_zero, List.set_cons_succ]
        obtain ⟨w6, q1, q2, q3⟩ := MapI.store (w := x3.drew.drew) (HX3.out.md.stay rfl) (by omega) hok.page hok.lsn
        have hS6 : w6.cell? ⟨R, 2, none⟩ = some (.map (some bd)) ∧ w6.cell? ⟨gg, 5, none⟩ = some (.int .i64 x.page) ∧ w6.cell? ⟨gg, 0, none⟩ = some (.int .i64 x.lsn) :=
          ⟨(World.cell?_of_block (a := ⟨R, 2, none⟩) (q3.block R (World.block_lt_of_cell? _ _ hH.1) (by simpa using HX3.out.n2))).trans hH.1, (World.cell?_of_block (a := ⟨gg, 5, none⟩) (q3.block gg (World.block_lt_of_cell? _ _ hH.2.1) (by simpa using hgd))).trans hH.2.1, (World.cell?_of_block (a := ⟨gg, 0, none⟩) (q3.block gg (World.block_lt_of_cell? _ _ hH.2.2) (by simpa using hgd))).trans hH.2.2⟩
        refine step_map_to 9 w6 rfl (by kernel_rfl) rfl (by rfl) 169 (.tmp 33) (.tmp 36) (.tmp 38) rfl _ _ _ rfl rfl rfl q1 hS6 ?_
        refine wpAnyH_done (by kernel_rfl) ?_ _
        have HX6 := hide ((HX3.out.stayD (below_drewN _ _ 2)).grownD q3 q2)
        clear hH hS6 q1 q2 q3
        go_wp2
        go_end0
        refine ⟨rfl, n2, m + 1, hn2, by omega, ?_⟩
        rw [HLT.out.1, HLT.out.2, HLF.out]
        exact HX6.out
  · have hT : decide (x.txn > 0) = false := by simpa using ht
    go_upto_region 3 with fail
    have hn2 : n ≤ n + 1 := by omega
    have HLT : Hid ((learn1 ⟨T, F, C⟩ x).T = T ∧ (learn1 ⟨T, F, C⟩ x).C = C) := by show _ ∧ _; unfold learn1; simp only; rw [if_neg ht]; exact ⟨rfl, rfl⟩
    have HX2 := HX1
    clear HX1 HG a2 ht
    have HRG : Hid (x1.rangeAt gg 1 (recCells x)) := fun j v hv => by
      rw [cell_of_row _ _ _ _ _ _ hG, List.getElem?_toArray]
      unfold lnCells
      rw [Nat.add_comm 1 j, List.getElem?_cons_succ]
      exact hv
    have e0 : x1.cell? ⟨gg, 0, none⟩ = some (.int .i64 x.lsn) := by rw [cell_of_row _ _ _ _ _ _ hG]; rfl
    have e5 : x1.cell? ⟨gg, 5, none⟩ = some (.int .i64 x.page) := by rw [cell_of_row _ _ _ _ _ _ hG]; rfl
    have hgl : gg < x1.heap.size := (Array.getElem?_eq_some_iff.1 hG).1
    have HCH := hide (changes_any x x1)
    unfold recCells at HRG HCH
    have HE := hide (And.intro e0 (And.intro e5 hgl))
    clear hG e0 e5 hgl
    cases hch : x.changes with
    | false =>
      have HLF : Hid ((learn1 ⟨T, F, C⟩ x).F = F) := by show _ = _; unfold learn1; simp only; rw [if_neg (by rw [hch]; simp)]
      rw [hch] at HCH
      clear hch
      go_wp2_with (first
        | (refine wpList_load_mid (by rfl) 69 _ (by rfl) gg 1 (by rfl) _ _ HRG.out Tryz.underlying69 rfl Tryz.size32n ?_)
        | (go_at_call 180; refine HCH.out.mono ?_; rintro e x3 ⟨rfl, hb3⟩; have HB3 := hide hb3; clear hb3))
      refine bodyPost_ret (results_none rfl _ _ _) rfl ?_
      refine ⟨rfl, n, m, hn2, by omega, ?_⟩
      rw [HLT.out.1, HLT.out.2, HLF.out]
      exact HX2.out.stayD HB3.out
    | true =>
      rw [hch] at HCH
      go_upto_region 4 with (first
        | (refine wpList_load_mid (by rfl) 69 _ (by rfl) gg 1 (by rfl) _ _ HRG.out Tryz.underlying69 rfl Tryz.size32n ?_)
        | (go_at_call 180; refine HCH.out.mono ?_; rintro e x3 ⟨rfl, hb3⟩; have HB3 := hide hb3; clear hb3))
      have HX3 := hide (HX2.out.stayD HB3.out)
      have d0 : x3.cell? ⟨gg, 0, none⟩ = some (.int .i64 x.lsn) := (HB3.out.cell (p := ⟨gg, 0, none⟩) HE.out.2.2).trans HE.out.1
      have d5 : x3.cell? ⟨gg, 5, none⟩ = some (.int .i64 x.page) := (HB3.out.cell (p := ⟨gg, 5, none⟩) HE.out.2.2).trans HE.out.2.1
      have k2 := HX3.out.c2
      clear HX2 HB3 HE HRG HCH
      refine wp_region_held_drew (S := fun w' => (w'.cell? ⟨R, 2, none⟩ = some (.map (some bd)) ∧ w'.cell? ⟨gg, 5, none⟩ = some (.int .i64 x.page)) ∧ MapI w' bd m F) (by kernel_rfl) ⟨⟨k2, d5⟩, HX3.out.md⟩ (fun hH => ?_)
      refine take_to 0 18 (.pointer (some ⟨R, 0, none⟩)) rfl (by kernel_rfl) (by kernel_rfl) (by kernel_rfl) (fun _ _ _ h => h) rfl (by rfl) (fun w hw => by rfl) hH ?_
      simp only [Act.put, List.setIfInBounds_toArray, List.set_cons_zero, List.set_cons_succ]
      refine take_to 1 19 (.pointer (some ⟨R, 0, none⟩)) rfl (by kernel_rfl) (by kernel_rfl) (by kernel_rfl) (fun _ _ _ h => h) rfl (by rfl) (fun w hw => by rfl) hH ?_
      simp only [Act.put, List.setIfInBounds_toArray, List.set_cons_zero, List.set_cons_succ]
      refine take_to 2 20 (.pointer (some ⟨R, 2, none⟩)) rfl (by kernel_rfl) (by kernel_rfl) (by kernel_rfl) (fun _ _ _ h => h) rfl (by rfl) (fun w hw => by rfl) hH ?_
      simp only [Act.put, List.setIfInBounds_toArray, List.set_cons_zero, List.set_cons_succ]
      refine take_to 3 21 (.map (some bd)) rfl (by kernel_rfl) (by kernel_rfl) (by kernel_rfl) (fun _ _ _ h => h) rfl (by rfl) (fun w hw => op_load _ _ 169 (.tmp 20) rfl (.pointer (some ⟨R, 2, none⟩)) _ rfl (run_loadAny w R (2) 169 _ Tryz.isAgg169 hw.1.1)) hH ?_
      simp only [Act.put, List.setIfInBounds_toArray, List.set_cons_zero, List.set_cons_succ]
      refine take_to 4 22 (.pointer (some ⟨gg, 1, none⟩)) rfl (by kernel_rfl) (by kernel_rfl) (by kernel_rfl) (fun _ _ _ h => h) rfl (by rfl) (fun w hw => by rfl) hH ?_
      simp only [Act.put, List.setIfInBounds_toArray, List.set_cons_zero, List.set_cons_succ]
      refine take_to 5 23 (.pointer (some ⟨gg, 5, none⟩)) rfl (by kernel_rfl) (by kernel_rfl) (by kernel_rfl) (fun _ _ _ h => h) rfl (by rfl) (fun w hw => by rfl) hH ?_
      simp only [Act.put, List.setIfInBounds_toArray, List.set_cons_zero, List.set_cons_succ]
      refine take_to 6 24 (.int .i64 x.page) rfl (by kernel_rfl) (by kernel_rfl) (by kernel_rfl) (fun _ _ _ h => h) rfl (by rfl) (fun w hw => op_load _ _ 3 (.tmp 23) rfl (.pointer (some ⟨gg, 5, none⟩)) _ rfl (run_loadAny w gg (5) 3 _ Tryz.isAgg3 hw.1.2)) hH ?_
      simp only [Act.put, List.setIfInBounds_toArray, List.set_cons_zero, List.set_cons_succ]
      refine take_to 7 25 (.tuple #[.int .i64 ((F x.page).getD 0), .bool (F x.page).isSome]) rfl (by kernel_rfl) (by kernel_rfl) (by kernel_rfl) (fun _ _ _ h => h) rfl (by rfl) (fun w hw => op_lookup _ _ 169 (.tmp 21) (.tmp 24) true rfl _ _ _ rfl rfl (hw.2.look hok.page)) hH ?_
      simp only [Act.put, List.setIfInBounds_toArray, List.set_cons_zero, List.set_cons_succ]
      refine take_to 8 17 (.tuple #[.int .i64 ((F x.page).getD 0), .bool (F x.page).isSome]) rfl (by kernel_rfl) (by kernel_rfl) (by kernel_rfl) (fun _ _ _ h => h) rfl (by rfl) (fun w hw => by rfl) hH ?_
      simp only [Act.put, List.setIfInBounds_toArray, List.set_cons_zero, List.set_cons_succ]
      refine take_to 9 26 (.int .i64 ((F x.page).getD 0)) rfl (by kernel_rfl) (by kernel_rfl) (by kernel_rfl) (fun _ _ _ h => h) rfl (by rfl) (fun w hw => by rfl) hH ?_
      simp only [Act.put, List.setIfInBounds_toArray, List.set_cons_zero, List.set_cons_succ]
      refine take_to 10 27 (.bool (F x.page).isSome) rfl (by kernel_rfl) (by kernel_rfl) (by kernel_rfl) (fun _ _ _ h => h) rfl (by rfl) (fun w hw => by rfl) hH ?_
      simp only [Act.put, List.setIfInBounds_toArray, List.set_cons_zero, List.set_cons_succ]
      refine take_to 11 4 (.int .i64 ((F x.page).getD 0)) rfl (by kernel_rfl) (by kernel_rfl) (by kernel_rfl) (fun _ _ _ h => h) rfl (by rfl) (fun w hw => by rfl) hH ?_
      simp only [Act.put, List.setIfInBounds_toArray, List.set_cons_zero, List.set_cons_succ]
      refine take_to 12 5 (.bool (F x.page).isSome) rfl (by kernel_rfl) (by kernel_rfl) (by kernel_rfl) (fun _ _ _ h => h) rfl (by rfl) (fun w hw => by rfl) hH ?_
      simp only [Act.put, List.setIfInBounds_toArray, List.set_cons_zero, List.set_cons_succ]
      refine wpAnyH_done (by kernel_rfl) ?_ _
      clear hH
      cases hfp : F x.page with
      | some y =>
        have HLF : Hid ((learn1 ⟨T, F, C⟩ x).F = F) := by show _ = _; unfold learn1; simp only; rw [if_neg (by rw [hfp]; simp)]
        simp only [hfp, Option.getD_some, Option.isSome_some]
        clear hch hfp
        go_wp2
        go_end0
        refine ⟨rfl, n, m, hn2, by omega, ?_⟩
        rw [HLT.out.1, HLT.out.2, HLF.out]
        exact HX3.out.stayD (below_drewN _ _ 1)
      | none =>
        have HLF : Hid ((learn1 ⟨T, F, C⟩ x).F = updI F x.page x.lsn) := by show _ = _; unfold learn1; simp only; rw [if_pos ⟨hch, hfp⟩]
        simp only [hfp, Option.getD_none, Option.isSome_none]
        clear hch hfp
        go_upto_region 6 with fail
        refine wp_region_held_drew (S := fun w' => w'.cell? ⟨R, 2, none⟩ = some (.map (some bd)) ∧ w'.cell? ⟨gg, 5, none⟩ = some (.int .i64 x.page) ∧ w'.cell? ⟨gg, 0, none⟩ = some (.int .i64 x.lsn)) (by kernel_rfl) ⟨k2, d5, d0⟩ (fun hH => ?_)
        refine take_to 0 30 (.pointer (some ⟨R, 0, none⟩)) rfl (by kernel_rfl) (by kernel_rfl) (by kernel_rfl) (fun _ _ _ h => h) rfl (by rfl) (fun w hw => by rfl) hH ?_
        simp only [Act.put, List.setIfInBounds_toArray, List.set_cons_zero, List.set_cons_succ]
        refine take_to 1 31 (.pointer (some ⟨R, 0, none⟩)) rfl (by kernel_rfl) (by kernel_rfl) (by kernel_rfl) (fun _ _ _ h => h) rfl (by rfl) (fun w hw => by rfl) hH ?_
        simp only [Act.put, List.setIfInBounds_toArray, List.set_cons_zero, List.set_cons_succ]
        refine take_to 2 32 (.pointer (some ⟨R, 2, none⟩)) rfl (by kernel_rfl) (by kernel_rfl) (by kernel_rfl) (fun _ _ _ h => h) rfl (by rfl) (fun w hw => by rfl) hH ?_
        simp only [Act.put, List.setIfInBounds_toArray, List.set_cons_zero, List.set_cons_succ]
        refine take_to 3 33 (.map (some bd)) rfl (by kernel_rfl) (by kernel_rfl) (by kernel_rfl) (fun _ _ _ h => h) rfl (by rfl) (fun w hw => op_load _ _ 169 (.tmp 32) rfl (.pointer (some ⟨R, 2, none⟩)) _ rfl (run_loadAny w R (2) 169 _ Tryz.isAgg169 hw.1)) hH ?_
        simp only [Act.put, List.setIfInBounds_toArray, List.set_cons_zero, List.set_cons_succ]
        refine take_to 4 34 (.pointer (some ⟨gg, 1, none⟩)) rfl (by kernel_rfl) (by kernel_rfl) (by kernel_rfl) (fun _ _ _ h => h) rfl (by rfl) (fun w hw => by rfl) hH ?_
        simp only [Act.put, List.setIfInBounds_toArray, List.set_cons_zero, List.set_cons_succ]
        refine take_to 5 35 (.pointer (some ⟨gg, 5, none⟩)) rfl (by kernel_rfl) (by kernel_rfl) (by kernel_rfl) (fun _ _ _ h => h) rfl (by rfl) (fun w hw => by rfl) hH ?_
        simp only [Act.put, List.setIfInBounds_toArray, List.set_cons_zero, List.set_cons_succ]
        refine take_to 6 36 (.int .i64 x.page) rfl (by kernel_rfl) (by kernel_rfl) (by kernel_rfl) (fun _ _ _ h => h) rfl (by rfl) (fun w hw => op_load _ _ 3 (.tmp 35) rfl (.pointer (some ⟨gg, 5, none⟩)) _ rfl (run_loadAny w gg (5) 3 _ Tryz.isAgg3 hw.2.1)) hH ?_
        simp only [Act.put, List.setIfInBounds_toArray, List.set_cons_zero, List.set_cons_succ]
        refine take_to 7 37 (.pointer (some ⟨gg, 0, none⟩)) rfl (by kernel_rfl) (by kernel_rfl) (by kernel_rfl) (fun _ _ _ h => h) rfl (by rfl) (fun w hw => by rfl) hH ?_
        simp only [Act.put, List.setIfInBounds_toArray, List.set_cons_zero, List.set_cons_succ]
        refine take_to 8 38 (.int .i64 x.lsn) rfl (by kernel_rfl) (by kernel_rfl) (by kernel_rfl) (fun _ _ _ h => h) rfl (by rfl) (fun w hw => op_load _ _ 3 (.tmp 37) rfl (.pointer (some ⟨gg, 0, none⟩)) _ rfl (run_loadAny w gg (0) 3 _ Tryz.isAgg3 hw.2.2)) hH ?_
        simp only [Act.put, List.setIfInBounds_toArray, List.set_cons_zero, List.set_cons_succ]
        obtain ⟨w6, q1, q2, q3⟩ := MapI.store (w := x3.drew.drew) (HX3.out.md.stay rfl) (by omega) hok.page hok.lsn
        have hS6 : w6.cell? ⟨R, 2, none⟩ = some (.map (some bd)) ∧ w6.cell? ⟨gg, 5, none⟩ = some (.int .i64 x.page) ∧ w6.cell? ⟨gg, 0, none⟩ = some (.int .i64 x.lsn) :=
          ⟨(World.cell?_of_block (a := ⟨R, 2, none⟩) (q3.block R (World.block_lt_of_cell? _ _ hH.1) (by simpa using HX3.out.n2))).trans hH.1, (World.cell?_of_block (a := ⟨gg, 5, none⟩) (q3.block gg (World.block_lt_of_cell? _ _ hH.2.1) (by simpa using hgd))).trans hH.2.1, (World.cell?_of_block (a := ⟨gg, 0, none⟩) (q3.block gg (World.block_lt_of_cell? _ _ hH.2.2) (by simpa using hgd))).trans hH.2.2⟩
        refine step_map_to 9 w6 rfl (by kernel_rfl) rfl (by rfl) 169 (.tmp 33) (.tmp 36) (.tmp 38) rfl _ _ _ rfl rfl rfl q1 hS6 ?_
        refine wpAnyH_done (by kernel_rfl) ?_ _
        have HX6 := hide ((HX3.out.stayD (below_drewN _ _ 2)).grownD q3 q2)
        clear hH hS6 q1 q2 q3
        go_wp2
        go_end0
        refine ⟨rfl, n, m + 1, hn2, by omega, ?_⟩
        rw [HLT.out.1, HLT.out.2, HLF.out]
        exact HX6.out
end
end Go.Proofs.YteeembildppgmaaGreat.Rd
namespace Go.Proofs.YteeembildppgmaaGreat.Rd
open Go.RowKit
set_option linter.unusedVariables false
set_option linter.unusedSimpArgs false
def learnN (s : An) (L : List Ln) : An := L.foldl learn1 s
theorem learnN_snoc (s : An) (L : List Ln) (x : Ln) : learnN s (L ++ [x]) = learn1 (learnN s L) x := by unfold learnN; rw [List.foldl_append]; rfl
theorem learn1_count (s : An) (x : Ln) : s.C ≤ (learn1 s x).C ∧ (learn1 s x).C ≤ s.C + 1 := by
  unfold learn1
  simp only
  split
  · exact follow1_count (s.T, s.C) x
  · exact ⟨Int.le_refl _, by show s.C ≤ s.C + 1; omega⟩
theorem learnN_count : ∀ (L : List Ln) (s : An), s.C ≤ (learnN s L).C ∧ (learnN s L).C ≤ s.C + L.length
  | [], s => by simp [learnN]
  | x :: L, s => by
    have h1 := learnN_count L (learn1 s x)
    have h2 := learn1_count s x
    have e : learnN s (x :: L) = learnN (learn1 s x) L := rfl
    rw [e, List.length_cons]
    omega
set_option maxHeartbeats 2000000 in
set_option maxRecDepth 100000 in
theorem passA_any {w0 w : World} {R bt bd n m : Nat} {lg : Sv} {T : Int → Option Tx} {F : Int → Option Int} {C : Int} (X : AnaIs w0 w R bt bd n m lg T F C) (L : List Ln) (hln : lg.n = L.length)
    (hL : LinesAt w0 lg.a L) (hk7 : ∀ x ∈ L, x.kind ≠ 7) (hn : n + L.length ≤ 800000) (hm : m + L.length ≤ 800000) (hC : 0 ≤ C ∧ C + L.length ≤ 800000) :
    Calls Tryz.prog 136 #[.pointer (some ⟨R, 0, none⟩), .int .i64 0] w fun e w' => e = .returned (.tuple #[]) ∧ ∃ n' m', n' ≤ n + L.length ∧ m' ≤ m + L.length ∧ AnaIs w0 w' R bt bd n' m' lg (learnN ⟨T, F, C⟩ L).T (learnN ⟨T, F, C⟩ L).F (learnN ⟨T, F, C⟩ L).C := by
  obtain ⟨hC1, hC2⟩ := hC
  obtain ⟨kn, hkn⟩ : ∃ kn, L.length = kn := ⟨_, rfl⟩
  have HB := hide (behind_any R lg.a kn lg.c L hkn w (hL.below X.below) hk7 X.lt (by rw [← hkn, ← hln]; exact X.c0))
  have HKN := hide hkn
  have HX := hide X
  have HK := hide hL
  rw [hkn] at hn hm hC2 ⊢
  clear X hL hln hk7 hkn
  go_enter Tryz.func136, Tryz.ntmps136
  go_wp2
  refine wp_scope_fwd 1 ?_
  go_wp2
  go_step3
  refine ⟨_, rfl, ?_⟩
  go_wp2_with (go_at_call 156; refine HB.out.mono ?_; rintro e w1 ⟨rfl, h3⟩; have HX1 := hide (HX.out.stayD h3); clear h3)
  go_loopw [18] (fun i wr => ∃ (j n' m' : Nat), j ≤ kn ∧ i = .int .i64 j ∧ n' ≤ n + j ∧ m' ≤ m + j ∧ AnaIs w0 wr R bt bd n' m' lg (learnN ⟨T, F, C⟩ (L.take j)).T (learnN ⟨T, F, C⟩ (L.take j)).F (learnN ⟨T, F, C⟩ (L.take j)).C) (fun i _ => kn - (iv i).toNat)
  case atStart => exact ⟨0, n, m, by omega, rfl, by omega, by omega, HX1.out⟩
  case round =>
    obtain ⟨j, n', m', hj, rfl, hn', hm', hX⟩ := hrel
    have HX2 := hide hX
    by_cases hlt : j < kn
    · obtain ⟨x, hx⟩ : ∃ x, L[j]? = some x := ⟨_, List.getElem?_eq_getElem (by rw [HKN.out]; exact hlt)⟩
      obtain ⟨hok, b, o, hab, hbl, hrg⟩ := HK.out.2 j x hx
      have HRG : Hid (wr.rangeAt b (o + j * 12) (lnCells x)) := fun q v hv => (hX.below.cell (p := ⟨b, o + j * 12 + q, none⟩) hbl).trans (hrg q v hv)
      have HTK : Hid (learnN ⟨T, F, C⟩ (L.take (j + 1)) = learn1 (learnN ⟨T, F, C⟩ (L.take j)) x) := by
        show _ = _
        obtain ⟨hl', hx'⟩ := List.getElem?_eq_some_iff.1 hx
        rw [← hx', ← learnN_snoc, List.take_succ_eq_append_getElem hl']
      have hCj : 0 ≤ (learnN ⟨T, F, C⟩ (L.take j)).C ∧ (learnN ⟨T, F, C⟩ (L.take j)).C ≤ 1000000 := by
        have h1 := learnN_count (L.take j) ⟨T, F, C⟩
        have h2 : (L.take j).length ≤ kn := by rw [List.length_take, HKN.out]; omega
        have h3 : (An.mk T F C).C = C := rfl
        omega
      unfold lnCells recCells at HRG
      clear hX hrg hx
      obtain ⟨S, hS⟩ : ∃ S, learnN ⟨T, F, C⟩ (L.take j) = S := ⟨_, rfl⟩
      rw [hS] at HX2 HTK hCj
      clear hS
      rw [hab]
      go_upto_region 7 with (refine wpList_load_mid (by rfl) 88 _ (by rfl) b (o + j * 12) (by rfl) _ _ HRG.out Tryz.underlying88 rfl Tryz.size34n ?_)
      generalize hx1 : wr.alloc _ = x1
      have hG : x1.heap[wr.heap.size]? = some (.cells (lnCells x).toArray 88 (0, 0)) := by rw [← hx1]; exact heap_alloc_new _ _
      have HRG2 : Hid (x1.rangeAt wr.heap.size 0 (lnCells x)) := fun q v hv => by rw [Nat.zero_add, cell_of_row _ _ _ _ _ _ hG]; simpa using hv
      have HX3 : Hid (AnaIs w0 x1 R bt bd n' m' lg S.T S.F S.C) := HX2.out.stayD (by rw [← hx1]; exact (Below.refl _ _).alloc (Nat.le_refl _) _)
      have HAG := hide (learn_any HX3.out x hok (by omega) (by omega) hCj)
      unfold lnCells recCells at HAG HRG2
      clear hx1 hG HX2 HRG
      generalize wr.heap.size = g at *
      go_wp2_with (first
        | (refine wpList_load_mid (by rfl) 88 _ (by rfl) g 0 (by rfl) _ _ HRG2.out Tryz.underlying88 rfl Tryz.size34n ?_)
        | (go_at_call 157; refine HAG.out.mono ?_; rintro e x2 ⟨rfl, n2, m2, hn2, hm2, hX4⟩; have HX4 := hide hX4; clear hX4))
      go_roundw
      case rel =>
        refine ⟨j + 1, n2, m2, by omega, by go_num, by omega, by omega, ?_⟩
        rw [HTK.out]
        exact HX4.out
      case measure => simp [iv]; omega
    · obtain rfl : j = kn := by omega
      go_wp2
      rw [Exit.jumps_ret]
      refine bodyPost_ret (results_none rfl _ _ _) rfl ?_
      refine ⟨rfl, n', m', by omega, by omega, ?_⟩
      have e : L.take j = L := List.take_of_length_le (by rw [HKN.out]; omega)
      rw [e] at HX2
      exact HX2.out
end Go.Proofs.YteeembildppgmaaGreat.Rd
namespace Go.Proofs
open Go.Shelf
set_option maxRecDepth 100000
def Tryz.sortT_ren : Go.Shelf.Ren := ⟨fun | 6 => 162 | 15 => 147 | 14 => 190 | 28 => 176 | 29 => 177 | 20 => 203 | 21 => 204 | 22 => 205 | 23 => 206 | 24 => 207 | 25 => 208 | 26 => 209 | 27 => 210 | 46 => 212 | 47 => 193 | 48 => 194 | 49 => 213 | 50 => 214 | 57 => 215 | n => n, fun | 22 => 66 | 24 => 140 | 25 => 204 | 3 => 3 | 39 => 188 | 0 => 0 | 53 => 234 | 55 => 177 | 4 => 4 | 46 => 228 | 45 => 227 | 50 => 160 | 5 => 5 | 9 => 9 | 66 => 254 | 70 => 159 | 76 => 273 | 77 => 44 | n => n, fun | n => n⟩
theorem Tryz.sortT : Go.Proofs.SlLaysF0.n6 Tryz.prog Tryz.sortT_ren := {
  mixed := by kernel_rfl
  f6 := ⟨Tryz.f162.name, by decide, Tryz.func162.trans (congrArg some (by kernel_rfl))⟩
  f14 := ⟨Tryz.f190.name, by decide, Tryz.func190.trans (congrArg some (by kernel_rfl))⟩
  f15 := Tryz.func147.trans (congrArg some (by kernel_rfl))
  f20 := ⟨Tryz.f203.name, by decide, Tryz.func203.trans (congrArg some (by kernel_rfl))⟩
  f21 := ⟨Tryz.f204.name, by decide, Tryz.func204.trans (congrArg some (by kernel_rfl))⟩
  f22 := ⟨Tryz.f205.name, by decide, Tryz.func205.trans (congrArg some (by kernel_rfl))⟩
  f23 := ⟨Tryz.f206.name, by decide, Tryz.func206.trans (congrArg some (by kernel_rfl))⟩
  f24 := ⟨Tryz.f207.name, by decide, Tryz.func207.trans (congrArg some (by kernel_rfl))⟩
  f25 := ⟨Tryz.f208.name, by decide, Tryz.func208.trans (congrArg some (by kernel_rfl))⟩
  f26 := ⟨Tryz.f209.name, by decide, Tryz.func209.trans (congrArg some (by kernel_rfl))⟩
  f27 := ⟨Tryz.f210.name, by decide, Tryz.func210.trans (congrArg some (by kernel_rfl))⟩
  f28 := Tryz.func176.trans (congrArg some (by kernel_rfl))
  f29 := Tryz.func177.trans (congrArg some (by kernel_rfl))
  f46 := ⟨Tryz.f212.name, by decide, Tryz.func212.trans (congrArg some (by kernel_rfl))⟩
  f47 := Tryz.func193.trans (congrArg some (by kernel_rfl))
  f48 := Tryz.func194.trans (congrArg some (by kernel_rfl))
  f49 := ⟨Tryz.f213.name, by decide, Tryz.func213.trans (congrArg some (by kernel_rfl))⟩
  f50 := ⟨Tryz.f214.name, by decide, Tryz.func214.trans (congrArg some (by kernel_rfl))⟩
  f57 := ⟨Tryz.f215.name, by decide, Tryz.func215.trans (congrArg some (by kernel_rfl))⟩
  t0 := Tryz.underlying0
  a0 := Tryz.isAgg0
  z0 := Tryz.sizeOf0
  v0 := Tryz.zeroValue0
  t3 := Tryz.underlying3
  a3 := Tryz.isAgg3
  z3 := Tryz.sizeOf3
  v3 := Tryz.zeroValue3
  t4 := Tryz.underlying4
  a4 := Tryz.isAgg4
  z4 := Tryz.sizeOf4
  v4 := Tryz.zeroValue4
  t5 := Tryz.underlying5
  a5 := Tryz.isAgg5
  z5 := Tryz.sizeOf5
  v5 := Tryz.zeroValue5
  t9 := Tryz.underlying9
  a9 := Tryz.isAgg9
  z9 := Tryz.sizeOf9
  v9 := Tryz.zeroValue9
  t22 := Tryz.underlying66
  a22 := Tryz.isAgg66
  z22 := Tryz.sizeOf66
  v22 := Tryz.zeroValue66
  t25 := Tryz.underlying204
  a25 := Tryz.isAgg204
  z25 := Tryz.sizeOf204
  v25 := Tryz.zeroValue204
  t39 := Tryz.underlying188
  a39 := Tryz.isAgg188
  z39 := Tryz.sizeOf188
  v39 := Tryz.zeroValue188
  t45 := Tryz.underlying227
  a45 := Tryz.isAgg227
  z45 := Tryz.sizeOf227
  v45 := Tryz.zeroValue227
  t46 := Tryz.underlying228
  a46 := Tryz.isAgg228
  z46 := Tryz.sizeOf228
  v46 := Tryz.zeroValue228
  t50 := Tryz.underlying160
  a50 := Tryz.isAgg160
  z50 := Tryz.sizeOf160
  v50 := Tryz.zeroValue160
  t53 := Tryz.underlying234
  a53 := Tryz.isAgg234
  z53 := Tryz.sizeOf234
  v53 := Tryz.zeroValue234
  t55 := Tryz.underlying177
  a55 := Tryz.isAgg177
  z55 := Tryz.sizeOf177
  v55 := Tryz.zeroValue177
  t66 := Tryz.underlying254
  a66 := Tryz.isAgg254
  z66 := Tryz.sizeOf254
  v66 := Tryz.zeroValue254
  t70 := Tryz.underlying159
  a70 := Tryz.isAgg159
  z70 := Tryz.sizeOf159
  v70 := Tryz.zeroValue159
  t76 := Tryz.underlying273
  a76 := Tryz.isAgg273
  z76 := Tryz.sizeOf273
  v76 := Tryz.zeroValue273
  t77 := Tryz.underlying44
  a77 := Tryz.isAgg44
  z77 := Tryz.sizeOf44
  v77 := Tryz.zeroValue44 }
end Go.Proofs
namespace Go.Proofs.YteeembildppgmaaGreat.Rd
open Go.RowKit
set_option linter.unusedVariables false
set_option linter.unusedSimpArgs false
set_option maxRecDepth 100000
open Go.Sort hiding Below
def encD (x : Int × Int) : List Value := [.int .i64 x.1, .int .i64 x.2]
set_option maxHeartbeats 1000000 in
theorem less_any (x y : Int × Int) (W : World) : Calls Tryz.prog 137 #[.agg #[.int .i64 x.1, .int .i64 x.2], .agg #[.int .i64 y.1, .int .i64 y.2]] W fun e w' => e = .returned (.int .i64 (Lib.compareInt x.1 y.1)) ∧ ∃ q os', w' = grow (W.drewN q) os' := by
  have hcon := fun W' => AnyG.cmp_Compare_int Tryz.cmpInt x.1 y.1 W'
  change ∀ W', Calls Tryz.prog 119 _ _ _ at hcon
  generalize Lib.compareInt x.1 y.1 = r at hcon ⊢
  go_enter Tryz.func137, Tryz.ntmps137
  go_wp2_with (go_at_call 119; refine (hcon _).mono ?_; rintro e w' ⟨rfl, rfl⟩)
  go_ret
  exact ⟨rfl, 0, _, by rw [alloc_eq_grow, alloc_eq_grow, grow_grow]; rfl⟩
theorem len_any (n : Nat) (W : World) (h : n ≤ 12) : Calls Tryz.prog 147 #[.int .u64 n] W fun e w' => (∃ l : Int, e = .returned (.int .i64 l)) ∧ w' = W :=
  (Any.bits_Len Tryz.bitsLen n W (by omega) (by omega)).mono fun _ _ ⟨he, hw⟩ => ⟨⟨_, he⟩, hw⟩
theorem swoD : SWO (ltOf fun x y : Int × Int => Lib.compareInt x.1 y.1) := by
  have key : ∀ x y : Int × Int, ltOf (fun x y : Int × Int => Lib.compareInt x.1 y.1) x y = decide (x.1 < y.1) := fun x y => by
    simp only [ltOf, Lib.compareInt]
    split
    · simp [*]
    · split
      · simp [*]
      · simp [*]
  refine ⟨fun x => by rw [key]; simp, fun x y z h1 h2 => ?_, fun x y z h1 h2 => ?_⟩
  · rw [key] at h1 h2 ⊢; simp at h1 h2 ⊢; omega
  · rw [key] at h1 h2 ⊢; simp at h1 h2 ⊢; omega
theorem ltD (x y : Int × Int) : ltOf (fun x y : Int × Int => Lib.compareInt x.1 y.1) x y = decide (x.1 < y.1) := by
  simp only [ltOf, Lib.compareInt]
  split
  · simp [*]
  · split
    · simp [*]
    · simp [*]
theorem off_sort (w : World) (g off m : Nat) (d : Array (Int × Int)) (os : Array Obj) : Off [g] w (sortWorldK encD 2 w g off m d os) := by
  refine ⟨rfl, rfl, rfl, ?_, fun k hk hn => ?_⟩
  · simp [sortWorldK, grow, putRowK, putRow, mapBlock, Go.Sort.ahead]
  · have hne : ¬ g = k := fun e => hn (by simp [e])
    simp [sortWorldK, grow, putRowK, putRow, mapBlock, Go.Sort.ahead, Array.getElem?_append, hk, Array.getElem_modify, hne]
theorem sort_any (g cap : Nat) (d : Array (Int × Int)) (w : World) (hH : HoldsK encD 2 w g 0 d) (hg : g < w.heap.size) (h12 : d.size ≤ 12) :
    Calls Tryz.prog 117 #[.slice (some ⟨g, 0, none⟩) d.size cap, .func (.func 137) #[] #[]] w fun e w' => e = .returned (.tuple #[]) ∧ ∃ d' : Array (Int × Int), d'.toList.Perm d.toList ∧ d'.size = d.size ∧ d'.toList.Pairwise (fun x y => x.1 ≤ y.1) ∧ HoldsK encD 2 w' g 0 d' ∧ Off [g] w w' := by
  have eg : ∀ args w, (callFunc 137 args).run Tryz.prog w = .ok (.enter 137 args) w := enters_of Tryz.func137 (by kernel_rfl) rfl
  have hcmp : CmpLays Tryz.prog 137 #[] encD 2 (fun x y => Lib.compareInt x.1 y.1) g 0 d.size w := fun _ _ _ _ x y => less_any x y _
  have hcon := AnyQ.slices_SortFunc_small_sorted Tryz.sortD 2 Tryz.isAgg142 Tryz.sizeOf142 encD (fun _ => rfl) (fun x v hv => by simp [encD] at hv; rcases hv with rfl | rfl <;> rfl) (fun x y => Lib.compareInt x.1 y.1) 137 #[] swoD g 0 cap d w eg hcmp hH hg h12 len_any
  change Calls Tryz.prog 117 _ _ _ at hcon
  refine hcon.mono ?_
  rintro e w' ⟨rfl, d', n, os, hp, hs, rfl⟩
  obtain ⟨hp1, hp2, hp3⟩ := hp
  refine ⟨rfl, d', ?_, hp1, ?_, ?_, off_sort w g 0 n d' os⟩
  · have e1 : d'.extract 0 d.size = d' := by rw [← hp1]; simp
    have e2 : d.extract 0 d.size = d := by simp
    rw [e1, e2] at hp3
    exact hp3
  · rw [List.pairwise_iff_getElem]
    intro i j hi hj hij
    have := hs i j (Nat.zero_le _) hij (by rw [← hp1]; simpa using hj)
    rw [ltD, getElem!_pos d' j (by simpa using hj), getElem!_pos d' i (by simpa using hi)] at this
    simpa using this
  · have hb : g < (putRowK encD 2 (Go.Sort.ahead w n) g 0 d').heap.size := by
      have : (putRowK encD 2 (Go.Sort.ahead w n) g 0 d').heap.size = w.heap.size := by simp [putRowK, putRow, mapBlock, Go.Sort.ahead]
      omega
    exact holdsK_grow encD 2 _ _ _ _ _ hb (holdsK_putRowK encD 2 _ _ _ d d' (holdsK_ahead encD 2 _ _ _ _ _ hH) hp1)
set_option maxHeartbeats 1000000 in
theorem lessT_any (x y : Tx) (W : World) : Calls Tryz.prog 140 #[.agg #[.int .i64 x.id, .int .i64 x.last, .int .i64 x.st], .agg #[.int .i64 y.id, .int .i64 y.last, .int .i64 y.st]] W fun e w' => e = .returned (.int .i64 (Lib.compareInt x.id y.id)) ∧ ∃ q os', w' = grow (W.drewN q) os' := by
  have hcon := fun W' => AnyG.cmp_Compare_int Tryz.cmpInt x.id y.id W'
  change ∀ W', Calls Tryz.prog 119 _ _ _ at hcon
  generalize Lib.compareInt x.id y.id = r at hcon ⊢
  go_enter Tryz.func140, Tryz.ntmps140
  go_wp2_with (go_at_call 119; refine (hcon _).mono ?_; rintro e w' ⟨rfl, rfl⟩)
  go_ret
  exact ⟨rfl, 0, _, by rw [alloc_eq_grow, alloc_eq_grow, grow_grow]; rfl⟩
theorem swoT : SWO (ltOf fun x y : Tx => Lib.compareInt x.id y.id) := by
  have key : ∀ x y : Tx, ltOf (fun x y : Tx => Lib.compareInt x.id y.id) x y = decide (x.id < y.id) := fun x y => by
    simp only [ltOf, Lib.compareInt]
    split
    · simp [*]
    · split
      · simp [*]
      · simp [*]
  refine ⟨fun x => by rw [key]; simp, fun x y z h1 h2 => ?_, fun x y z h1 h2 => ?_⟩
  · rw [key] at h1 h2 ⊢; simp at h1 h2 ⊢; omega
  · rw [key] at h1 h2 ⊢; simp at h1 h2 ⊢; omega
theorem ltT (x y : Tx) : ltOf (fun x y : Tx => Lib.compareInt x.id y.id) x y = decide (x.id < y.id) := by
  simp only [ltOf, Lib.compareInt]
  split
  · simp [*]
  · split
    · simp [*]
    · simp [*]
section
variable [Inhabited Tx]
theorem offT_sort (w : World) (g off m : Nat) (d : Array (Tx)) (os : Array Obj) : Off [g] w (sortWorldK txCells 3 w g off m d os) := by
  refine ⟨rfl, rfl, rfl, ?_, fun k hk hn => ?_⟩
  · simp [sortWorldK, grow, putRowK, putRow, mapBlock, Go.Sort.ahead]
  · have hne : ¬ g = k := fun e => hn (by simp [e])
    simp [sortWorldK, grow, putRowK, putRow, mapBlock, Go.Sort.ahead, Array.getElem?_append, hk, Array.getElem_modify, hne]
theorem sortT_any (g cap : Nat) (d : Array (Tx)) (w : World) (hH : HoldsK txCells 3 w g 0 d) (hg : g < w.heap.size) (h12 : d.size ≤ 12) :
    Calls Tryz.prog 162 #[.slice (some ⟨g, 0, none⟩) d.size cap, .func (.func 140) #[] #[]] w fun e w' => e = .returned (.tuple #[]) ∧ ∃ d' : Array (Tx), d'.toList.Perm d.toList ∧ d'.size = d.size ∧ d'.toList.Pairwise (fun x y => x.id ≤ y.id) ∧ HoldsK txCells 3 w' g 0 d' ∧ Off [g] w w' := by
  have eg : ∀ args w, (callFunc 140 args).run Tryz.prog w = .ok (.enter 140 args) w := enters_of Tryz.func140 (by kernel_rfl) rfl
  have hcmp : CmpLays Tryz.prog 140 #[] txCells 3 (fun x y => Lib.compareInt x.id y.id) g 0 d.size w := fun _ _ _ _ x y => lessT_any x y _
  have hcon := AnyQ.slices_SortFunc_small_sorted Tryz.sortT 3 Tryz.isAgg140 Tryz.sizeOf140 txCells (fun _ => rfl) (fun x v hv => by simp [txCells] at hv; rcases hv with rfl | rfl | rfl <;> rfl) (fun x y => Lib.compareInt x.id y.id) 140 #[] swoT g 0 cap d w eg hcmp hH hg h12 len_any
  change Calls Tryz.prog 162 _ _ _ at hcon
  refine hcon.mono ?_
  rintro e w' ⟨rfl, d', n, os, hp, hs, rfl⟩
  obtain ⟨hp1, hp2, hp3⟩ := hp
  refine ⟨rfl, d', ?_, hp1, ?_, ?_, offT_sort w g 0 n d' os⟩
  · have e1 : d'.extract 0 d.size = d' := by rw [← hp1]; simp
    have e2 : d.extract 0 d.size = d := by simp
    rw [e1, e2] at hp3
    exact hp3
  · rw [List.pairwise_iff_getElem]
    intro i j hi hj hij
    have := hs i j (Nat.zero_le _) hij (by rw [← hp1]; simpa using hj)
    rw [ltT, getElem!_pos d' j (by simpa using hj), getElem!_pos d' i (by simpa using hi)] at this
    simpa using this
  · have hb : g < (putRowK txCells 3 (Go.Sort.ahead w n) g 0 d').heap.size := by
      have : (putRowK txCells 3 (Go.Sort.ahead w n) g 0 d').heap.size = w.heap.size := by simp [putRowK, putRow, mapBlock, Go.Sort.ahead]
      omega
    exact holdsK_grow txCells 3 _ _ _ _ _ hb (holdsK_putRowK txCells 3 _ _ _ d d' (holdsK_ahead txCells 3 _ _ _ _ _ hH) hp1)
end
end Go.Proofs.YteeembildppgmaaGreat.Rd
