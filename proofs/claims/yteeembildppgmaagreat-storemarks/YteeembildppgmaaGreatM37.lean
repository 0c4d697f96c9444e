/- A part of it: SAna SRedo SDisk. -/
import Derived.Test.YteeembildppgmaaGreatM36
import Derived.Test.YteeembildppgmaaGreatM19
import Derived.Deep.CutBlock
import Derived.BigQuiet
namespace Go.Proofs.YteeembildppgmaaGreat
open Go.RowKit
set_option linter.unusedVariables false
set_option linter.unusedSimpArgs false
set_option maxHeartbeats 400000 in
theorem indexL_none (w : World) (la : Option Addr) (lc : Nat) (f : Value) : Calls Tryz.prog 98 #[.slice la 0 lc, f] w fun e w' => e = .returned (.int .i64 (-1)) ∧ w' = w := by
  go_enter Tryz.func98, Tryz.ntmps98
  go_wp2
  refine wp_loop_rounds 1 ?_
  rw [rounds_succ]
  go_wp2
  go_ret
  exact ⟨rfl, rfl⟩
set_option maxHeartbeats 400000 in
theorem containsL_none (w : World) (la : Option Addr) (lc : Nat) (f : Value) : Calls Tryz.prog 64 #[.slice la 0 lc, f] w fun e w' => e = .returned (.bool false) ∧ w' = w := by
  have HI := hide (indexL_none w la lc f)
  go_enter Tryz.func64, Tryz.ntmps64
  go_wp2_with (go_at_call 98; refine HI.out.mono ?_; rintro e w' ⟨rfl, hw⟩; have hw := hw.symm; subst hw)
  go_ret
  exact ⟨rfl, rfl⟩
theorem vals_nil (ss : List Rd.Tx) (h : Rd.ValsT Rd.noTx ss) : ss = [] := by
  obtain ⟨ks, _, h2, _, _⟩ := h
  cases ss with
  | nil => rfl
  | cons x r =>
    cases ks with
    | nil => simp at h2
    | cons k ks => simp [Rd.noTx] at h2
theorem ents_nil (ds : List (Int × Int)) (h : Rd.EntsD Rd.noMap ds) : ds = [] := by
  cases ds with
  | nil => rfl
  | cons x r =>
    have := (h.2.1 x (by simp)).2
    simp [Rd.noMap] at this
theorem redoAnalyze_none (w : World) (la : Option Addr) (lc : Nat) :
    Calls Tryz.prog 109 #[.slice la 0 lc] w fun e w' => ∃ ta tc da dc, e = .returned (.tuple #[.slice ta 0 tc, .slice da 0 dc, .int .i64 0]) ∧ Below w.heap.size w w' := by
  refine (Rd.analyze_gen w ⟨la, 0, lc⟩ ⟨Rd.noTx, Rd.noMap, 0⟩ (fun x1 R bt bd X => ?_) (fun ss h => by rw [vals_nil ss h]; simp) (fun ds h => by rw [ents_nil ds h]; simp)).mono ?_
  · refine (Rd.passA_any X [] rfl ⟨by simp, fun i x hx => by simp at hx⟩ (fun x hx => by cases hx) (by simp) (by simp) ⟨by omega, by simp⟩).mono ?_
    rintro e w' ⟨rfl, n', m', h1, h2, h3⟩
    exact ⟨rfl, n', m', by simp at h1; omega, by simp at h2; omega, h3⟩
  · rintro e w' ⟨ta, tc, ts, da, dc, ds, rfl, ⟨ss, h1, h1p, _⟩, _, h3, _, hB⟩
    obtain rfl := vals_nil ss h1
    obtain rfl : ts = [] := List.perm_nil.1 h1p
    obtain rfl := ents_nil ds h3.1
    exact ⟨ta, tc, da, dc, rfl, hB⟩
section
variable {w0 w w' : World} {s : Nat} {c : Cf} {xs tb : List Nat} {ov : Value} {ps : List Nat} {uvs : List Value} {S : St}
def FoundAt (w : World) (ff : Nat) (la : Option Addr) (lc : Nat) (ta : Option Addr) (tc : Nat) (da : Option Addr) (dc : Nat) : Prop := w.heap[ff]? = some (.cells #[.slice la 0 lc, .slice ta 0 tc, .slice da 0 dc] 124 (0, 0))
set_option maxHeartbeats 2000000 in
theorem analyze_none {ff lc : Nat} {la : Option Addr} (h : StIs w0 w s c xs tb ov ps uvs S) (hf : FoundAt w ff la lc none 0 none 0) (hx : ff ∈ xs) (hf0 : w0.heap.size ≤ ff) (hsm : S.commits < 4611686018427387904) :
    Calls Tryz.prog 77 #[.pointer (some ⟨s, 0, none⟩), .pointer (some ⟨ff, 0, none⟩)] w fun e w' => e = .returned (.tuple #[]) ∧ ∃ ta tc da dc, StIs w0 w' s c xs tb ov ps uvs S ∧ FoundAt w' ff la lc ta tc da dc := by
  have HC : Hid (∀ W f, Calls Tryz.prog 64 #[.slice la 0 lc, f] W fun e w' => e = .returned (.bool false) ∧ w' = W) := fun W f => containsL_none W la lc f
  have HA := hide (redoAnalyze_none w la lc)
  have f0 : w.cell? ⟨ff, 0, none⟩ = some (.slice la 0 lc) := by rw [cell_of_row w ff 0 _ _ _ hf]; rfl
  have H := hide h
  have HF := hide hf
  have HX := hide (And.intro hx hf0)
  clear h hf hx hf0
  go_enter Tryz.func77, Tryz.ntmps77
  go_upto_region 4 with (go_at_call 64; refine (HC.out _ _).mono ?_; rintro e w' ⟨rfl, hw⟩; have hw := hw.symm; subst hw)
  go_wp2_with fail
  refine HA.out.mono ?_
  rintro e w2 ⟨ta, tc, da, dc, rfl, hB⟩
  have H2 := hide (H.out.belowW hB)
  have hf2 : FoundAt w2 ff la lc none 0 none 0 := (hB.block ff (H.out.lt HX.out.1)).trans HF.out
  have g0 : w2.cell? ⟨ff, 0, none⟩ = some (.slice la 0 lc) := by rw [cell_of_row w2 ff 0 _ _ _ hf2]; rfl
  have g1 : w2.cell? ⟨ff, 1, none⟩ = some (.slice none 0 0) := by rw [cell_of_row w2 ff 1 _ _ _ hf2]; rfl
  have g2 : w2.cell? ⟨ff, 2, none⟩ = some (.slice none 0 0) := by rw [cell_of_row w2 ff 2 _ _ _ hf2]; rfl
  have gz : ∀ o, w2.frozen? ⟨ff, o, none⟩ = false := fun o => frozen_of_row w2 ff o _ _ hf2
  have c6 := H2.out.c6
  have cz := H2.out.fz
  have hne : ¬ ff = s := fun e => H2.out.sx (by simp [← e, HX.out.1])
  have HF2 := hide hf2
  clear hB hf2 HA
  go_wp2
  refine wp_loop_rounds 1 ?_
  rw [rounds_succ]
  go_wp2
  go_end0
  refine ⟨rfl, ta, tc, da, dc, ?_, ?_⟩
  · have h3 := H2.out.writeL (Z := [ff]) (w' := (w2.setCell ⟨ff, 1, none⟩ (.slice ta 0 tc)).setCell ⟨ff, 2, none⟩ (.slice da 0 dc)) (by intro k hk; simp only [List.mem_singleton] at hk; subst hk; exact HX.out) (((Off.refl _ w2).setCell _ _ (by simp)).setCell _ _ (by simp))
    exact h3.setS (S' := S) rfl rfl ((Off.refl _ _).setCell _ _ (by simp)) (by rw [heap_setCell_same _ s 6 _ _ _ h3.head]; rfl)
  · have e1 := heap_setCell_same w2 ff 1 _ 124 (.slice ta 0 tc) HF2.out
    have e2 := heap_setCell_same (w2.setCell ⟨ff, 1, none⟩ (.slice ta 0 tc)) ff 2 _ 124 (.slice da 0 dc) e1
    exact (Below.heap_setCell _ _ _ _ hne).trans e2
end
end Go.Proofs.YteeembildppgmaaGreat
namespace Go.Proofs.YteeembildppgmaaGreat
open Go.RowKit
set_option linter.unusedVariables false
set_option linter.unusedSimpArgs false
set_option maxHeartbeats 2000000 in
set_option maxRecDepth 100000 in
theorem redo_none (w : World) (la da : Option Addr) (lc dc : Nat) (cb : Array Value) :
    Calls Tryz.prog 141 #[.slice la 0 lc, .slice da 0 dc, .func (.func 142) #[] cb] w fun e w' => e = .returned (.slice none 0 0) ∧ Below w.heap.size w w' := by
  have q54 : ∀ W : World, (binOp .eql 172 (.func (.func 142) #[] cb) .nilFunc).run Tryz.prog W = .ok (.bool false) W := fun W => by kernel_rfl
  have hmm := @run_makeMap Tryz.prog
  have HG : Hid (∀ o : Obj, (((w.alloc (.map #[] 0)).alloc (.map #[] 0)).alloc o).heap[w.heap.size + 1 + 1]? = some o) := fun o => by
    have := World.alloc_heap_new ((w.alloc (.map #[] 0)).alloc (.map #[] 0)) o
    rwa [World.size_alloc, World.size_alloc] at this
  go_enter Tryz.func141, Tryz.ntmps141
  go_upto_region 2 with (refine wpList_store_row (by rfl) 197 _ _ (by rfl) (w.heap.size + 1 + 1) #[.slice la 0 lc, .map none, .map (some w.heap.size), .int .i64 0, .func (.func 142) #[] cb, .map (some (w.heap.size + 1)), .slice none 0 0, .slice none 0 0, .slice none 0 0] (by rfl) (by rfl) 197 _ (HG.out _) (by kernel_rfl) (by rfl) (by simp [Value.oneCell']) ?_)
  generalize hx1 : World.setRow _ _ _ = x1
  have hR : x1.heap[w.heap.size + 1 + 1]? = some (.cells #[.slice la 0 lc, .map none, .map (some w.heap.size), .int .i64 0, .func (.func 142) #[] cb, .map (some (w.heap.size + 1)), .slice none 0 0, .slice none 0 0, .slice none 0 0] 197 (0, 0)) := by rw [← hx1]; exact setRow_heap _ _ _ _ _ _ (HG.out _)
  have hM : Rd.MapI x1 w.heap.size 0 (fun _ => none) := (Rd.MapI.made w).stay (by
      rw [← hx1]
      refine (setRow_other _ _ _ _ (by omega)).trans ?_
      refine (Below.heap_alloc _ _ _ (by simp; omega)).trans (Below.heap_alloc _ _ _ (by simp)))
  have HB : Hid (Below w.heap.size w x1) := by
    show Below _ _ _
    rw [← hx1]
    exact (((((Off.refl [] w).alloc _).alloc _).alloc _).setRow _ _ (.inr (by omega))).below (Nat.le_refl _) (by simp)
  clear hx1
  have c2 : x1.cell? ⟨w.heap.size + 1 + 1, 2, none⟩ = some (.map (some w.heap.size)) := by rw [cell_of_row x1 _ 2 _ _ _ hR]; rfl
  have c6 : x1.cell? ⟨w.heap.size + 1 + 1, 6, none⟩ = some (.slice none 0 0) := by rw [cell_of_row x1 _ 6 _ _ _ hR]; rfl
  have HS := hide (soil_none x1 (w.heap.size + 1 + 1) da dc)
  have HP := hide (pass1_none x1 (w.heap.size + 1 + 1) w.heap.size c2 hM)
  clear HG hR hM c2
  generalize hR0 : w.heap.size + 1 + 1 = R at *
  go_wp2_with (first
    | (go_at_call 165; refine HS.out.mono ?_; rintro e w' ⟨rfl, hw⟩; have hw := hw.symm; subst hw)
    | (go_at_call 136; refine HP.out.mono ?_; rintro e w' ⟨rfl, hw⟩; have hw := hw.symm; subst hw))
  go_ret
  exact ⟨rfl, HB.out⟩
set_option maxHeartbeats 2000000 in
set_option maxRecDepth 100000 in
theorem undo_none (w : World) (la ta : Option Addr) (lc tc : Nat) :
    Calls Tryz.prog 111 #[.slice la 0 lc, .slice ta 0 tc] w fun e w' => e = .returned (.slice none 0 0) ∧ Below w.heap.size w w' := by
  have HG : Hid (∀ o : Obj, (w.alloc o).heap[w.heap.size]? = some o) := fun o => World.alloc_heap_new w o
  go_enter Tryz.func111, Tryz.ntmps111
  go_upto_region 2 with (refine wpList_store_row (by rfl) 197 _ _ (by rfl) w.heap.size #[.slice la 0 lc, .map none, .map none, .int .i64 0, .nilFunc, .map none, .slice none 0 0, .slice none 0 0, .slice none 0 0] (by rfl) (by rfl) 197 _ (HG.out _) (by kernel_rfl) (by rfl) (by simp [Value.oneCell']) ?_)
  generalize hx1 : World.setRow _ _ _ = x1
  have hR : x1.heap[w.heap.size]? = some (.cells #[.slice la 0 lc, .map none, .map none, .int .i64 0, .nilFunc, .map none, .slice none 0 0, .slice none 0 0, .slice none 0 0] 197 (0, 0)) := by rw [← hx1]; exact setRow_heap _ _ _ _ _ _ (HG.out _)
  have HB : Hid (Below w.heap.size w x1) := by
    show Below _ _ _
    rw [← hx1]
    exact (((Off.refl [] w).alloc _).setRow _ _ (.inr (by omega))).below (Nat.le_refl _) (by simp)
  clear hx1
  have c7 : x1.cell? ⟨w.heap.size, 7, none⟩ = some (.slice none 0 0) := by rw [cell_of_row x1 _ 7 _ _ _ hR]; rfl
  have c8 : x1.cell? ⟨w.heap.size, 8, none⟩ = some (.slice none 0 0) := by rw [cell_of_row x1 _ 8 _ _ _ hR]; rfl
  have HS := hide (lose_none x1 w.heap.size ta tc)
  have HP := hide (pass2_none x1 w.heap.size none 0 c7)
  clear HG hR c7
  generalize hR0 : w.heap.size = R at *
  go_wp2_with (first
    | (go_at_call 144; refine HS.out.mono ?_; rintro e w' ⟨rfl, hw⟩; have hw := hw.symm; subst hw)
    | (go_at_call 136; refine HP.out.mono ?_; rintro e w' ⟨rfl, hw⟩; have hw := hw.symm; subst hw))
  go_ret
  exact ⟨rfl, hR0 ▸ HB.out⟩
set_option maxHeartbeats 2000000 in
set_option maxRecDepth 100000 in
theorem lacking_none (w : World) (s : Nat) (la ta da : Option Addr) (lc tc dc : Nat) :
    Calls Tryz.prog 110 #[.pointer (some ⟨s, 0, none⟩), .agg #[.slice la 0 lc, .slice ta 0 tc, .slice da 0 dc]] w fun e w' => e = .returned (.tuple #[.slice none 0 0, .int .i64 0]) ∧ Below w.heap.size w w' := by
  have HR : Hid (∀ W cb, Calls Tryz.prog 141 #[.slice la 0 lc, .slice da 0 dc, .func (.func 142) #[] cb] W fun e w' => e = .returned (.slice none 0 0) ∧ Below W.heap.size W w') := fun W cb => redo_none W la da lc dc cb
  go_enter Tryz.func110, Tryz.ntmps110
  go_upto_region 2 with fail
  generalize hW : (((w.alloc (.cells #[.pointer (some ⟨s, 0, none⟩)] 25)).alloc (.cells #[.slice la 0 lc, .slice ta 0 tc, .slice da 0 dc] 124)).alloc (.cells #[.int .i64 0] 28)) = W
  have hB : Below w.heap.size w W := by rw [← hW]; exact ((((Off.refl [] w).alloc _).alloc _).alloc _).below (Nat.le_refl _) (by simp)
  have h1 : W.heap[w.heap.size + 1]? = some (.cells #[.slice la 0 lc, .slice ta 0 tc, .slice da 0 dc] 124 (0, 0)) := by
    rw [← hW]
    refine (Below.heap_alloc _ _ _ (by simp)).trans ?_
    have := World.alloc_heap_new (w.alloc (.cells #[.pointer (some ⟨s, 0, none⟩)] 25)) (.cells #[.slice la 0 lc, .slice ta 0 tc, .slice da 0 dc] 124)
    rwa [World.size_alloc] at this
  have h2 : W.heap[w.heap.size + 1 + 1]? = some (.cells #[.int .i64 0] 28 (0, 0)) := by
    rw [← hW]
    have := World.alloc_heap_new ((w.alloc (.cells #[.pointer (some ⟨s, 0, none⟩)] 25)).alloc (.cells #[.slice la 0 lc, .slice ta 0 tc, .slice da 0 dc] 124)) (.cells #[.int .i64 0] 28)
    rwa [World.size_alloc, World.size_alloc] at this
  have hlt : w.heap.size + 1 + 1 < W.heap.size := by rw [← hW]; simp
  clear hW
  have c0 : W.cell? ⟨w.heap.size + 1, 0, none⟩ = some (.slice la 0 lc) := by rw [cell_of_row W _ 0 _ _ _ h1]; rfl
  have c2 : W.cell? ⟨w.heap.size + 1, 2, none⟩ = some (.slice da 0 dc) := by rw [cell_of_row W _ 2 _ _ _ h1]; rfl
  have HB := hide hB
  have H2 := hide (And.intro h2 hlt)
  clear h1 h2 hB hlt
  generalize hr1 : w.heap.size + 1 + 1 = r2 at *
  generalize hr0 : w.heap.size + 1 = r1 at *
  go_upto_region 3 with (go_at_call 141; refine (HR.out W _).mono ?_; rintro e W2 ⟨rfl, hB2⟩; have HB2 := hide (And.intro hB2 (HB.out.trans (hB2.mono HB.out.size))); clear hB2)
  have d0 : W2.cell? ⟨r2, 0, none⟩ = some (.int .i64 0) := by rw [cell_of_row W2 _ 0 _ _ _ ((HB2.out.1.block r2 H2.out.2).trans H2.out.1)]; rfl
  go_quiet (fail)
  go_wp2
  go_ret2
  exact ⟨rfl, HB2.out.2.trans (below_drewN _ _ _)⟩
section
variable {w0 w w' : World} {s : Nat} {c : Cf} {xs tb : List Nat} {ov : Value} {ps : List Nat} {uvs : List Value} {S : St}
set_option maxHeartbeats 2000000 in
set_option maxRecDepth 100000 in
theorem doAgain_none {la ta da : Option Addr} {lc tc dc : Nat} (h : StIs w0 w s c xs tb ov ps uvs S) :
    Calls Tryz.prog 78 #[.pointer (some ⟨s, 0, none⟩), .agg #[.slice la 0 lc, .slice ta 0 tc, .slice da 0 dc]] w fun e w' => e = .returned (.int .i64 0) ∧ StIs w0 w' s c xs tb ov ps uvs { S with redone := 0 } ∧ Off [s] w w' := by
  have hnew : (w.alloc (.cells #[.slice la 0 lc, .slice ta 0 tc, .slice da 0 dc] 124)).heap[w.heap.size]? = some (.cells #[.slice la 0 lc, .slice ta 0 tc, .slice da 0 dc] 124 (0, 0)) := World.alloc_heap_new _ _
  have hB : Below w.heap.size w (w.alloc (.cells #[.slice la 0 lc, .slice ta 0 tc, .slice da 0 dc] 124)) := ((Off.refl [] w).alloc _).below (Nat.le_refl _) (by simp)
  have H := hide h
  clear h
  go_enter Tryz.func78, Tryz.ntmps78
  go_upto_region 1 with fail
  generalize hW : w.alloc (.cells #[.slice la 0 lc, .slice ta 0 tc, .slice da 0 dc] 124) = W at *
  have HL := hide (lacking_none W s la ta da lc tc dc)
  have f0 : W.cell? ⟨w.heap.size, 0, none⟩ = some (.slice la 0 lc) := by rw [cell_of_row W _ 0 _ _ _ hnew]; rfl
  have HW := hide (H.out.belowW hB)
  have f1 : W.cell? ⟨w.heap.size, 1, none⟩ = some (.slice ta 0 tc) := by rw [cell_of_row W _ 1 _ _ _ hnew]; rfl
  have f2 : W.cell? ⟨w.heap.size, 2, none⟩ = some (.slice da 0 dc) := by rw [cell_of_row W _ 2 _ _ _ hnew]; rfl
  have HB := hide (And.intro hB hnew)
  clear hB hnew hW
  generalize hz : w.heap.size = ff at *
  go_upto_region 5 with (go_at_call 110; refine HL.out.mono ?_; rintro e W2 ⟨rfl, hB2⟩; have HW2 := hide (HW.out.belowW hB2); have cz := HW2.out.fz; have c8 := HW2.out.c8; have HB2 := hide hB2; clear hB2)
  have hsl : s < ff := by rw [← hz]; exact H.out.lts (by simp)
  have HS := hide (HW2.out.setS (w' := W2.setCell ⟨s, 8, none⟩ (.int .i64 0)) (S' := { S with redone := 0 }) rfl rfl ((Off.refl _ W2).setCell _ _ (by simp)) (by rw [heap_setCell_same W2 s 8 _ _ _ HW2.out.head]; rfl))
  have HO : Hid (Off [s] w (W2.setCell ⟨s, 8, none⟩ (.int .i64 0))) := by
    have hb : Below w.heap.size w W2 := by rw [hz]; exact HB.out.1.trans (HB2.out.mono (by rw [← hz]; exact HB.out.1.size))
    exact (Off.of_below hb [s]).setCell _ _ (by simp)
  have g0 : (W2.setCell ⟨s, 8, none⟩ (.int .i64 0)).cell? ⟨ff, 0, none⟩ = some (.slice la 0 lc) := by
    have e : (W2.setCell ⟨s, 8, none⟩ (.int .i64 0)).heap[ff]? = some (.cells #[.slice la 0 lc, .slice ta 0 tc, .slice da 0 dc] 124 (0, 0)) := (Below.heap_setCell _ _ _ _ (show ff ≠ s by omega)).trans ((HB2.out.block ff (by have := (Array.getElem?_eq_some_iff.1 HB.out.2).1; omega)).trans HB.out.2)
    rw [cell_of_row _ _ 0 _ _ _ e]; rfl
  generalize W2.setCell ⟨s, 8, none⟩ (.int .i64 0) = W3 at *
  go_wp2
  refine wp_loop_rounds 1 ?_
  rw [rounds_succ]
  go_wp2
  go_ret
  exact ⟨rfl, HS.out, HO.out⟩
set_option maxHeartbeats 2000000 in
set_option maxRecDepth 100000 in
theorem undoLosers_none {la ta da : Option Addr} {lc tc dc : Nat} (w : World) (s : Nat) :
    Calls Tryz.prog 79 #[.pointer (some ⟨s, 0, none⟩), .agg #[.slice la 0 lc, .slice ta 0 tc, .slice da 0 dc]] w fun e w' => e = .returned (.int .i64 0) ∧ Below w.heap.size w w' := by
  have hmm := @run_makeMap Tryz.prog
  have HU : Hid (∀ W, Calls Tryz.prog 111 #[.slice la 0 lc, .slice ta 0 tc] W fun e w' => e = .returned (.slice none 0 0) ∧ Below W.heap.size W w') := fun W => undo_none W la ta lc tc
  go_enter Tryz.func79, Tryz.ntmps79
  go_upto_region 2 with fail
  generalize hW : (w.alloc (.cells #[.slice la 0 lc, .slice ta 0 tc, .slice da 0 dc] 124)).alloc (.map #[] 0) = W
  have hB : Below w.heap.size w W := by rw [← hW]; exact (((Off.refl [] w).alloc _).alloc _).below (Nat.le_refl _) (by simp)
  have h1 : W.heap[w.heap.size]? = some (.cells #[.slice la 0 lc, .slice ta 0 tc, .slice da 0 dc] 124 (0, 0)) := by
    rw [← hW]
    exact (Below.heap_alloc _ _ _ (by simp)).trans (World.alloc_heap_new _ _)
  clear hW
  have c0 : W.cell? ⟨w.heap.size, 0, none⟩ = some (.slice la 0 lc) := by rw [cell_of_row W _ 0 _ _ _ h1]; rfl
  have c1 : W.cell? ⟨w.heap.size, 1, none⟩ = some (.slice ta 0 tc) := by rw [cell_of_row W _ 1 _ _ _ h1]; rfl
  have HB := hide hB
  clear hB h1
  generalize hz : w.heap.size = ff at *
  go_wp2
  refine wp_loop_rounds 1 ?_
  rw [rounds_succ]
  go_wp2_with (go_at_call 111; refine (HU.out W).mono ?_; rintro e W2 ⟨rfl, hB2⟩; have HB2 := hide hB2; clear hB2)
  refine wp_loop_rounds 1 ?_
  rw [rounds_succ]
  go_wp2
  go_ret
  exact ⟨rfl, by rw [hz]; exact HB.out.trans (HB2.out.mono (by rw [← hz]; exact HB.out.size))⟩
end
end Go.Proofs.YteeembildppgmaaGreat
namespace Go.Proofs.YteeembildppgmaaGreat
open Go.RowKit
set_option linter.unusedVariables false
set_option linter.unusedSimpArgs false
section
variable {w0 w w1 w' : World} {r q p b lg n : Nat} {xs gp : List Nat} {R : Rg} {dk : List (List UInt8)} {D : Dv}
structure MidIs (w0 w w1 : World) (r q p b lg n : Nat) (xs gp fp1 : List Nat) (R : Rg) (dk : List (List UInt8)) (D : Dv) (i : Nat) (bs : List UInt8) : Prop where
  old : BkIs w0 w r q p b lg n xs gp R dk D
  dev : DevC w1 p fp1 (D.wrote i bs)
  step : ∃ fp, FsIs w0 w q p (2 + lg) n false (b :: (gp ++ xs)) fp D ∧ Off fp w w1 ∧ ∀ k ∈ fp1, k ∈ fp ∨ w.heap.size ≤ k
  two : i < 2
  len : bs.length = 128
theorem bk_dwrite (h : BkIs w0 w r q p b lg n xs gp R dk D) (i g c : Nat) (bs : List UInt8) (t : TypeId) (fr : Nat × Nat) (hi : i < 2) (hl : bs.length = 128) (hg : w.heap[g]? = some (.cells (secCells bs).toArray t fr)) (hx : g ∈ xs) :
    Calls Tryz.prog 113 #[.pointer (some ⟨p, 0, none⟩), .int .i64 (i : Int), .slice (some ⟨g, 0, none⟩) 128 c] w fun e w' => e = .returned (.int .i64 0) ∧ (∃ fp1, MidIs w0 w w' r q p b lg n xs gp fp1 R dk D i bs) ∧ Kept xs w w' := by
  obtain ⟨fp, x⟩ := h.fs
  have hlen := h.len
  refine (write_c (i : Int) g c bs t fr x.dv.dev.wc_self (by rw [h.wnil]; simp) hl hg (x.dv.xs g (by simp [hx])).2).mono ?_
  rintro e w' ⟨rfl, fp1, h1, h2, h3⟩
  have hw := live_write D i bs h.well.live (by omega) hl
  rw [if_neg (by have := h.well.fuse; omega)] at hw
  rw [hw] at h1 ⊢
  exact ⟨rfl, ⟨fp1, h, h1, ⟨fp, x, h2, h3⟩, hi, hl⟩, h2.size, fun k hk => h2.block k (x.dv.xs k (by simp [hk])).1 (x.dv.xs k (by simp [hk])).2⟩
theorem bk_dsync {fp1 : List Nat} {i : Nat} {bs : List UInt8} (m : MidIs w0 w w1 r q p b lg n xs gp fp1 R dk D i bs) :
    Calls Tryz.prog 114 #[.pointer (some ⟨p, 0, none⟩)] w1 fun e w' => e = .returned (.int .i64 0) ∧ (∃ D', BkIs w0 w' r q p b lg n xs gp R dk D') ∧ Kept xs w w' := by
  obtain ⟨h, hC, ⟨fp, x, hO, hF⟩, hi, hl⟩ := m
  have hlen := h.len
  have hsz := x.dv.below.size
  have w1well : (D.wrote i bs).well := well_wrote h.well i bs (by omega) hl
  refine (sync_c hC (by show (D.W ++ [(i, bs)]).length < _; rw [h.wnil]; simp)).mono ?_
  rintro e w' ⟨rfl, h1, h2⟩
  have hs := live_sync (D.wrote i bs) w1well.live
  rw [if_neg (by have := w1well.fuse; omega)] at hs
  rw [hs] at h1 ⊢
  have swell := well_synced w1well
  obtain ⟨c, a2⟩ := h1
  have hO2 : Off fp w w' := hO.trans h2 (fun k hk => hF k hk)
  have hne : ∀ k ∈ b :: (gp ++ xs), k ∉ fp := fun k hk => (x.dv.xs k hk).2
  have hblk : ∀ k ∈ b :: (gp ++ xs), w'.heap[k]? = w.heap[k]? := fun k hk => hO2.block k (x.dv.xs k hk).1 (hne k hk)
  have hnew : ∀ j, 2 ≤ j → j < D.L.length → (D.wrote i bs).synced.L.getD j [] = D.L.getD j [] := fun j hj hjl => by
    have e1 : (D.wrote i bs).synced.newest j = (D.wrote i bs).newest j := newest_synced _ j hjl
    rw [← newest_L (D := (D.wrote i bs).synced) rfl, e1, newest_wrote, if_neg (by omega), newest_L h.wnil]
  have hLl : (D.wrote i bs).synced.L.length = D.L.length := by show (laidOver _ _).length = _; rw [length_laidOver]; rfl
  refine ⟨rfl, ⟨(D.wrote i bs).synced.wc c, { h with
    fs := ⟨fp1, x.fl.off hO2 x.nq, ⟨a2, fun k hk => ?_, fun k hk => ⟨Nat.lt_of_lt_of_le (x.dv.xs k hk).1 hO2.size, fun hm => ?_⟩, x.dv.below.trans (hO2.below hsz (fun k hk => x.dv.f0 k hk))⟩, fun hm => ?_, x.q0, x.qx⟩
    rg := h.rg.keep hO2.size (fun k hk => hblk k (by simp [hk]))
    box := (hblk b (by simp)).trans h.box
    well := ⟨a2.wf, swell.live, swell.fuse⟩
    wnil := rfl
    len := by show _ ≤ (D.wrote i bs).synced.L.length; rw [hLl]; exact h.len
    disk := fun j hj => by
      rw [← h.disk j hj]
      show pageL (D.wrote i bs).synced.L _ = _
      unfold pageL
      rw [hnew _ (by omega) (by omega), hnew _ (by omega) (by omega), hnew _ (by omega) (by omega), hnew _ (by omega) (by omega)] }⟩, hO2.size, fun k hk => hblk k (by simp [hk])⟩
  · rcases hF k hk with h3 | h3
    · exact x.dv.f0 k h3
    · omega
  · rcases hF k hm with h3 | h3
    · exact hne k hk h3
    · have := (x.dv.xs k hk).1; omega
  · rcases hF q hm with h3 | h3
    · exact x.nq h3
    · have := x.fl.lt; omega
end
end Go.Proofs.YteeembildppgmaaGreat
